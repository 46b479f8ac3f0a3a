/- Slices that a function makes and fills; what corner.width, worth, mosts and worths do. -/
import Derived.Test.YtjlkegchkngliaaCornW1
namespace Go.Proofs.Ytjlkegchkngliaa
open Go.RowKit

namespace Num

/-- The first k of n numbers, the others being 0. -/
def fill (f : Nat → Int) (n k : Nat) : List Int := (List.range n).map fun j => if j < k then f j else 0

theorem fill_zero (f : Nat → Int) (n : Nat) : fill f n 0 = List.replicate n 0 := by
  unfold fill
  apply List.ext_getElem?
  intro j
  simp [List.getElem?_replicate]
  by_cases h : j < n <;> simp [h]

theorem fill_all (f : Nat → Int) (n : Nat) : fill f n n = (List.range n).map f := by
  unfold fill
  apply List.map_congr_left
  intro j hj
  simp at hj
  simp [hj]

theorem fill_len (f : Nat → Int) (n k : Nat) : (fill f n k).length = n := by simp [fill]

theorem fill_getD (f : Nat → Int) (n k j : Nat) : (fill f n k)[j]?.getD 0 = if j < n ∧ j < k then f j else 0 := by
  unfold fill
  rw [List.getElem?_map]
  by_cases h : j < n
  · simp [h]
  · rw [List.getElem?_eq_none (by simp; omega)]; simp [h]

theorem fill_set (f : Nat → Int) (n k : Nat) (v : Int) (h : k < n) (hv : v = f k) : (fill f n k).set k v = fill f n (k + 1) := by
  subst hv
  unfold fill
  apply List.ext_getElem?
  intro j
  rw [List.getElem?_set]
  by_cases hj : k = j
  · subst hj; simp [h]
  · rw [if_neg hj]
    by_cases hn : j < n
    · simp [hn]
      by_cases hk : j < k
      · rw [if_pos hk, if_pos (by omega)]
      · rw [if_neg hk, if_neg (by omega)]
    · rw [List.getElem?_eq_none (by simp; omega), List.getElem?_eq_none (by simp; omega)]

theorem fill_skip (f : Nat → Int) (n k : Nat) (hv : f k = 0) : fill f n k = fill f n (k + 1) := by
  unfold fill
  apply List.map_congr_left
  intro j _
  by_cases hk : j = k
  · subst hk; simp [hv]
  · by_cases h : j < k
    · rw [if_pos h, if_pos (by omega)]
    · rw [if_neg h, if_neg (by omega)]

theorem range_getD (f : Nat → Int) (n j : Nat) : ((List.range n).map f)[j]?.getD 0 = if j < n then f j else 0 := by
  rw [List.getElem?_map]
  by_cases h : j < n
  · simp [h]
  · rw [List.getElem?_eq_none (by simp; omega)]; simp [h]

end Num

/-- A slice of the call's own: n numbers, which are those of l. -/
def Own (w : World) (base g n : Nat) (l : List Int) : Prop := w.ownsRow base 2 1 (.slice (some ⟨g, 0, none⟩) n n) n (l.map (Value.int .i64))

theorem Own.made {w : World} {base g n : Nat} (f : Nat → Int) (h : w.ownsRow base 2 1 (.slice (some ⟨g, 0, none⟩) n n) n (madeCells (Value.int .i64 0).cells (n * 1)).toList) : Own w base g n (Num.fill f n 0) := by
  unfold Own
  rw [Num.fill_zero, List.map_replicate]
  have e : (madeCells (Value.int .i64 0).cells (n * 1)).toList = List.replicate n (Value.int .i64 0) := by rw [Nat.mul_one]; exact toList_madeCells_one _ _
  rw [e] at h
  exact h

theorem Own.len {w : World} {base g n : Nat} {l : List Int} (h : Own w base g n l) : l.length = n := by simpa using h.1

theorem Own.cell {w : World} {base g n : Nat} {l : List Int} (h : Own w base g n l) (k : Nat) (hk : k < n) : w.cell? ⟨g, k, none⟩ = some (.int .i64 (l[k]?.getD 0)) ∧ w.frozen? ⟨g, k, none⟩ = false := by
  refine ⟨?_, World.ownsRow.frozenAt h k⟩
  have := World.ownsRow.cellAt h k (by omega)
  rw [this, List.getElem?_map, List.getElem?_eq_getElem (by have := h.len; omega)]
  simp

theorem Own.cell' {w : World} {base g n : Nat} {l : List Int} (h : Own w base g n l) (k : Nat) (hk : k < n) : (∃ u, w.cell? ⟨g, k, none⟩ = some u) ∧ w.frozen? ⟨g, k, none⟩ = false := ⟨⟨_, (h.cell k hk).1⟩, (h.cell k hk).2⟩

theorem Own.store {w : World} {base g n : Nat} {l : List Int} (h : Own w base g n l) (k : Nat) (v : Int) : Own (w.setCell ⟨g, k, none⟩ (.int .i64 v)) base g n (l.set k v) := by
  unfold Own
  rw [List.map_set]
  exact (World.ownsRow.stored h k (.int .i64 v)).1

theorem Own.lt {w : World} {base g n : Nat} {l : List Int} (h : Own w base g n l) : base ≤ g ∧ g < w.heap.size := World.ownsRow.lt h g rfl

theorem own_below {w w' : World} {base n : Nat} {t : TypeId} {g c : Nat} {xs : List Value} (h : w.ownsRow base t 1 (.slice (some ⟨g, 0, none⟩) n c) n xs) {B : Nat} (hb : Below B w w') (hB : g < B) : w'.ownsRow base t 1 (.slice (some ⟨g, 0, none⟩) n c) n xs := by
  refine ⟨h.1, ?_⟩
  rcases h.2 with ⟨h2, _⟩ | ⟨g', cap, cur, e, h3, h4, h5⟩
  · cases h2
  · refine Or.inr ⟨g', cap, cur, e, h3, ?_, h5⟩
    simp only [Value.slice.injEq, Option.some.injEq, Addr.mk.injEq] at e
    rw [hb.block g' (by omega)]
    exact h4

theorem Own.below {w w' : World} {base g n : Nat} {l : List Int} (h : Own w base g n l) {B : Nat} (hb : Below B w w') (hB : g < B) : Own w' base g n l := own_below h hb hB

theorem Own.alloc {w : World} {base g n : Nat} {l : List Int} (h : Own w base g n l) (o : Obj) : Own (w.alloc o) base g n l := h.below (balloc _ _) h.lt.2

theorem Own.ints {w : World} {base g n : Nat} {l : List Int} (h : Own w base g n l) : Ints w (some ⟨g, 0, none⟩) n l :=
  ⟨h.len.symm, Or.inr ⟨g, 0, rfl, h.lt.2, fun j hj => by rw [Nat.zero_add]; exact (h.cell j hj).1⟩⟩

/-- A store into a block from B on. -/
theorem bset {B : Nat} {a w : World} (h : Below B a w) {g k : Nat} (hg : B ≤ g) (v : Value) : Below B a (w.setCell ⟨g, k, none⟩ v) := h.setCell hg v

theorem made_below {w w' : World} (h : w.grownBy w' none) : Below w.heap.size w w' := (Below.refl _ _).grown h (Nat.le_refl _) (fun _ hk => by cases hk)

set_option maxHeartbeats 400000 in
theorem width_any (ca : Option Addr) (cl cc : Nat) (ra : Option Addr) (rl rc : Nat) (w : World) (N : Nat) (hN : cl + rl = N) (h : N ≤ 8) :
    Calls Try.prog 87 #[.agg #[.slice ca cl cc, .slice ra rl rc]] w fun e w' => e = .returned (.int .i64 N) ∧ Below w.heap.size w w' := by
  have HN : Hid ((cl : Int) + rl = N) := by show (cl : Int) + rl = N; omega
  have h' : cl + rl ≤ 8 := by omega
  clear hN
  go_enter Try.func87, Try.ntmps87
  go_wp2_with fail
  go_ret
  exact ⟨ret_int HN.out, balloc _ _⟩

set_option maxHeartbeats 400000 in
theorem worthC_any (ca : Option Addr) (cl cc : Nat) (ra : Option Addr) (rl rc : Nat) (costs : List Int) (w : World) (hc : Ints w ca cl costs) (j : Nat) :
    Calls Try.prog 91 #[.agg #[.slice ca cl cc, .slice ra rl rc], .int .i64 j] w fun e w' => e = .returned (.int .i64 (costs[j]?.getD 0)) ∧ Below w.heap.size w w' := by
  have HL : Hid (cl = costs.length) := hc.1
  by_cases hj : (j : Int) < cl
  · rcases (Ints.below hc (balloc w (.cells #[.slice ca cl cc, .slice ra rl rc] 40)) (Nat.le_refl _)).2 with hi | ⟨b, off, ha, hb, hcc⟩
    · omega
    have hck := hcc j (by omega)
    clear hcc
    generalize costs[j]?.getD 0 = x at *
    clear hc
    subst ha
    go_enter Try.func91, Try.ntmps91
    go_wp2_with fail
    go_ret
    exact ⟨rfl, balloc _ _⟩
  · have hj' : decide ((j : Int) < cl) = false := by simpa using hj
    have HZ : Hid (costs[j]?.getD 0 = 0) := by have := HL.out; show costs[j]?.getD 0 = 0; rw [List.getElem?_eq_none (by omega)]; rfl
    clear hc
    go_enter Try.func91, Try.ntmps91
    go_wp2_with fail
    go_ret
    exact ⟨ret_int HZ.out.symm, balloc _ _⟩

def Num.mostF (p : Num.Lp) (i : Nat) : Int := (p.rows[i]?.getD ([], 0)).2

set_option maxHeartbeats 800000 in
theorem mosts_any (ca : Option Addr) (cl cc : Nat) (ra : Option Addr) (rl rc : Nat) (p : Num.Lp) (w : World) (hr : RowsAt w ra rl p.rows) (h4 : rl ≤ 4) :
    Calls Try.prog 60 #[.agg #[.slice ca cl cc, .slice ra rl rc]] w fun e w' => ∃ g, e = .returned (.slice (some ⟨g, 0, none⟩) rl rl) ∧ w.heap.size ≤ g ∧ Ints w' (some ⟨g, 0, none⟩) rl ((List.range rl).map (Num.mostF p)) ∧ Below w.heap.size w w' := by
  have HR : Hid (RowsAt w ra rl p.rows) := hr
  clear hr
  obtain ⟨i0, hif, hz0, hz1, hz2⟩ := info_parts Try.info64
  have hB0 := balloc w (.cells #[.slice ca cl cc, .slice ra rl rc] 40)
  have hc2 := cell_new2 (w := w) rfl (.slice ca cl cc) (.slice ra rl rc) 40
  have hs0 : (w.alloc (.cells #[.slice ca cl cc, .slice ra rl rc] 40)).heap.size = w.heap.size + 1 := by simp
  go_enter Try.func60, Try.ntmps60
  go_wp2_with (at_make; refine wpList_make_full _ rfl (.tmp 8) (.tmp 8) 22 rfl (w.heap.size + 1) 2 i0 (.int .i64 0) 1 Try.underlying22 hif hz0 hz1 .i64 .i64 _ _ rl rfl rfl rfl rfl (by rw [hz2]; omega) (by unfold maxLen; omega) (by simp) ?_; intro w3 hown hgrow; have hb3 := made_below hgrow; obtain ⟨⟨k0, k1⟩, _⟩ := kept2 hb3; have HO : Hid _ := hown; clear hown hgrow)
  have HO3 : Hid (Own w3 (w.heap.size + 1) (w.heap.size + 1) rl (Num.fill (Num.mostF p) rl 0)) := Own.made _ (by rw [hs0] at HO; exact HO.out)
  clear HO
  go_loopw [13] (fun i wr => ∃ k : Nat, k ≤ rl ∧ i = .int .i64 k ∧ Own wr (w.heap.size + 1) (w.heap.size + 1) rl (Num.fill (Num.mostF p) rl k) ∧ Below (w.alloc (.cells #[.slice ca cl cc, .slice ra rl rc] 40)).heap.size (w.alloc (.cells #[.slice ca cl cc, .slice ra rl rc] 40)) wr) (fun i _ => rl - (intOf i).toNat)
  case atStart => exact ⟨0, Nat.zero_le _, rfl, HO3.out, hb3⟩
  case round =>
    obtain ⟨k, hk, rfl, hO, hbl⟩ := hrel
    have HO : Hid _ := hO
    clear HO3 hb3 k0 k1
    have hB : Below w.heap.size w wr := binto hbl
    by_cases hlt : k < rl
    · rcases (RowsAt.below HR.out hB (Nat.le_refl _)).2 with h | ⟨b, off, ha, hbs, hc⟩
      · omega
      obtain ⟨xa, xl, xc, c0, c1, hx, hxl⟩ := hc k hlt
      clear hc hx
      obtain ⟨⟨u, u0⟩, u1⟩ := hO.cell' k hlt
      have hg := hO.lt.2
      clear hO
      have HE : Hid ((p.rows[k]?.getD ([], 0)).2 = Num.mostF p k) := rfl
      generalize (p.rows[k]?.getD ([], 0)).2 = x at *
      subst ha
      go_wp2_with fail
      go_roundw
      case rel => exact ⟨k + 1, hlt, by go_num, by rw [← Num.fill_set _ _ _ x hlt HE.out]; exact (Own.store HO.out k x).alloc _, bstep (bset hbl (by simp) _) (balloc _ _)⟩
      case measure => simp [intOf]; omega
    · have hke : k = rl := by omega
      subst hke
      clear hO
      go_wp2_with fail
      go_ret
      refine ⟨w.heap.size + 1, rfl, by omega, ?_, hB⟩
      rw [← Num.fill_all]
      exact Own.ints HO.out

def Num.atF (at' : List Int) (k : Nat) : Nat := (at'[k]?.getD 0).toNat

set_option maxHeartbeats 800000 in
theorem worths_any (ca : Option Addr) (cl cc : Nat) (ra : Option Addr) (rl rc : Nat) (p : Num.Lp) (w : World) (hc : Ints w ca cl p.costs) (aa : Option Addr) (al ac : Nat) (at' : List Int) (ha : Ints w aa al at')
    (h4 : al ≤ 4) (hat : ∀ k, k < al → 0 ≤ at'[k]?.getD 0) :
    Calls Try.prog 58 #[.agg #[.slice ca cl cc, .slice ra rl rc], .slice aa al ac] w fun e w' => ∃ g, e = .returned (.slice (some ⟨g, 0, none⟩) al al) ∧ w.heap.size ≤ g ∧
      Ints w' (some ⟨g, 0, none⟩) al ((List.range al).map fun k => p.costs[Num.atF at' k]?.getD 0) ∧ Below w.heap.size w w' := by
  have HC : Hid (Ints w ca cl p.costs) := hc
  have HA : Hid (Ints w aa al at') := ha
  have HAT : Hid (∀ k, k < al → 0 ≤ at'[k]?.getD 0) := hat
  clear hc ha hat
  generalize hf : (fun k => p.costs[Num.atF at' k]?.getD 0) = f
  have HF : Hid _ := hf
  clear hf
  obtain ⟨i0, hif, hz0, hz1, hz2⟩ := info_parts Try.info64
  have hs0 : (w.alloc (.cells #[.slice ca cl cc, .slice ra rl rc] 40)).heap.size = w.heap.size + 1 := by simp
  go_enter Try.func58, Try.ntmps58
  go_wp2_with (at_make; refine wpList_make_full _ rfl (.tmp 9) (.tmp 9) 22 rfl (w.heap.size + 1) 2 i0 (.int .i64 0) 1 Try.underlying22 hif hz0 hz1 .i64 .i64 _ _ al rfl rfl rfl rfl (by rw [hz2]; omega) (by unfold maxLen; omega) (by simp) ?_; intro w3 hown hgrow; have hb3 := made_below hgrow; have HO : Hid _ := hown; clear hown hgrow)
  have HO3 : Hid (Own w3 (w.heap.size + 1) (w.heap.size + 1) al (Num.fill f al 0)) := Own.made _ (by rw [hs0] at HO; exact HO.out)
  clear HO
  go_loopw [13] (fun i wr => ∃ k : Nat, k ≤ al ∧ i = .int .i64 k ∧ Own wr (w.heap.size + 1) (w.heap.size + 1) al (Num.fill f al k) ∧ Below (w.alloc (.cells #[.slice ca cl cc, .slice ra rl rc] 40)).heap.size (w.alloc (.cells #[.slice ca cl cc, .slice ra rl rc] 40)) wr) (fun i _ => al - (intOf i).toNat)
  case atStart => exact ⟨0, Nat.zero_le _, rfl, HO3.out, hb3⟩
  case round =>
    obtain ⟨k, hk, rfl, hO, hbl⟩ := hrel
    have HO : Hid _ := hO
    clear HO3 hb3
    have hB : Below w.heap.size w wr := binto hbl
    by_cases hlt : k < al
    · rcases (Ints.below HA.out hB (Nat.le_refl _)).2 with h | ⟨b, off, ha, hbs, hc⟩
      · omega
      have hck := hc k hlt
      have h0 := HAT.out k hlt
      clear hc
      obtain ⟨⟨e0, e1⟩, _⟩ := kept2 hbl
      have HE : Hid (p.costs[Num.atF at' k]?.getD 0 = f k) := by rw [← HF.out]; exact rfl
      obtain ⟨j, hj⟩ : ∃ j : Nat, at'[k]?.getD 0 = j := ⟨_, (Int.toNat_of_nonneg h0).symm⟩
      have HJ : Hid (Num.atF at' k = j) := by show (at'[k]?.getD 0).toNat = j; rw [hj]; rfl
      rw [hj] at hck
      clear h0 hj
      obtain ⟨⟨u, u0⟩, u1⟩ := hO.cell' k hlt
      have hg := hO.lt.2
      clear hO
      subst ha
      go_wp2_with fail
      refine (worthC_any _ _ _ _ _ _ p.costs _ (Ints.below HC.out hB (Nat.le_refl _)) j).mono ?_
      rintro e w5 ⟨rfl, hb5⟩
      have HO5 : Hid (Own w5 (w.heap.size + 1) (w.heap.size + 1) al (Num.fill f al k)) := Own.below HO.out hb5 hg
      obtain ⟨⟨v, v0⟩, v1⟩ := HO5.out.cell' k hlt
      have hbl5 := bstep hbl hb5
      clear e0 e1 u0 u1 hb5 hbl
      rw [← HJ.out, HE.out]
      go_wp2_with fail
      go_roundw
      case rel => exact ⟨k + 1, hlt, by go_num, by rw [← Num.fill_set _ _ _ (f k) hlt rfl]; exact Own.store HO5.out k (f k), bset hbl5 (by simp) _⟩
      case measure => simp [intOf]; omega
    · have hke : k = al := by omega
      subst hke
      clear hO
      go_wp2_with fail
      go_ret
      refine ⟨w.heap.size + 1, rfl, by omega, ?_, hB⟩
      rw [← Num.fill_all]
      exact Own.ints HO.out

end Go.Proofs.Ytjlkegchkngliaa
