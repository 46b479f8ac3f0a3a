/- Slices of slices that a function makes and fills; what corner.columns and spread do. -/
import Derived.Test.YtjpliphobnflpaaCornW3
namespace Go.Proofs.Ytjpliphobnflpaa
open Go.RowKit

theorem Try.infoSl : (Try.prog.info? 22).map (fun i => (i.zero, i.size, i.bytes)) = some (some (.slice none 0 0), 1, 24) := by kernel_rfl

/-- A slice of the call's own of n slices, of which the first k lie behind it and hold the numbers that f says. -/
def OwnL (w : World) (base g n k : Nat) (f : Nat → List Int) : Prop :=
  ∃ vs : List Value, w.ownsRow base 22 1 (.slice (some ⟨g, 0, none⟩) n n) n vs ∧ ∀ j, j < k → ∃ gj m, vs[j]? = some (.slice (some ⟨gj, 0, none⟩) m m) ∧ g < gj ∧ Ints w (some ⟨gj, 0, none⟩) m (f j)

theorem OwnL.made {w : World} {base g n : Nat} {xs : List Value} (f : Nat → List Int) (h : w.ownsRow base 22 1 (.slice (some ⟨g, 0, none⟩) n n) n xs) : OwnL w base g n 0 f :=
  ⟨xs, h, fun _ hj => absurd hj (Nat.not_lt_zero _)⟩

theorem OwnL.lt {w : World} {base g n k : Nat} {f : Nat → List Int} (h : OwnL w base g n k f) : base ≤ g ∧ g < w.heap.size := by
  obtain ⟨vs, h, _⟩ := h
  exact World.ownsRow.lt h g rfl

theorem OwnL.cell' {w : World} {base g n k : Nat} {f : Nat → List Int} (h : OwnL w base g n k f) (j : Nat) (hj : j < n) : (∃ u, w.cell? ⟨g, j, none⟩ = some u) ∧ w.frozen? ⟨g, j, none⟩ = false := by
  obtain ⟨vs, h, _⟩ := h
  have hl : vs.length = n := by simpa using h.1
  refine ⟨⟨vs[j], ?_⟩, World.ownsRow.frozenAt h j⟩
  rw [World.ownsRow.cellAt h j (by omega)]
  exact List.getElem?_eq_getElem (by omega)

theorem Ints.setOff {w : World} {g' n : Nat} {l : List Int} (h : Ints w (some ⟨g', 0, none⟩) n l) {g j : Nat} (hg : g < g') (u : Value) : Ints (w.setCell ⟨g, j, none⟩ u) (some ⟨g', 0, none⟩) n l :=
  Ints.set (base := g + 1) h (Or.inr ⟨g', rfl, by omega⟩) (by show g < g + 1; omega) u

theorem OwnL.store {w : World} {base g n k : Nat} {f : Nat → List Int} (h : OwnL w base g n k f) (hk : k < n) {gk m : Nat} (hg : g < gk) (hi : Ints w (some ⟨gk, 0, none⟩) m (f k)) :
    OwnL (w.setCell ⟨g, k, none⟩ (.slice (some ⟨gk, 0, none⟩) m m)) base g n (k + 1) f := by
  obtain ⟨vs, h, hin⟩ := h
  have hl : vs.length = n := by simpa using h.1
  refine ⟨vs.set k (.slice (some ⟨gk, 0, none⟩) m m), (World.ownsRow.stored h k _).1, fun j hj => ?_⟩
  by_cases hjk : j = k
  · subst hjk
    exact ⟨gk, m, by rw [List.getElem?_set_self (by omega)], hg, hi.setOff hg _⟩
  · obtain ⟨gj, m', h1, h2, h3⟩ := hin j (by omega)
    exact ⟨gj, m', by rw [List.getElem?_set_ne (by omega)]; exact h1, h2, h3.setOff h2 _⟩

theorem OwnL.below {w w' : World} {base g n k : Nat} {f : Nat → List Int} (h : OwnL w base g n k f) {B : Nat} (hb : Below B w w') (hB : w.heap.size ≤ B) : OwnL w' base g n k f := by
  have hlt := h.lt.2
  obtain ⟨vs, h, hin⟩ := h
  refine ⟨vs, own_below h hb (by omega), fun j hj => ?_⟩
  obtain ⟨gj, m', h1, h2, h3⟩ := hin j hj
  exact ⟨gj, m', h1, h2, h3.below hb hB⟩

theorem getD_range {α : Type} (f : Nat → α) (n j : Nat) (d : α) (h : j < n) : ((List.range n).map f)[j]?.getD d = f j := by
  rw [List.getElem?_map]; simp [h]

theorem OwnL.lines {w : World} {base g n : Nat} {f : Nat → List Int} (h : OwnL w base g n n f) : Lines w (some ⟨g, 0, none⟩) n ((List.range n).map f) := by
  have hlt := h.lt.2
  obtain ⟨vs, h, hin⟩ := h
  have hl : vs.length = n := by simpa using h.1
  refine ⟨by simp, Or.inr ⟨g, 0, rfl, hlt, fun j hj => ?_⟩⟩
  obtain ⟨gj, m', h1, h2, h3⟩ := hin j hj
  refine ⟨_, _, _, ?_, by rw [getD_range f n j [] hj]; exact h3, Nat.le_refl _⟩
  rw [Nat.zero_add, World.ownsRow.cellAt h j (by omega)]
  exact h1

set_option maxHeartbeats 800000 in
theorem columns_any (ca : Option Addr) (cl cc : Nat) (ra : Option Addr) (rl rc : Nat) (p : Num.Lp) (w : World) (hr : RowsAt w ra rl p.rows) (hm : p.may = true) (aa : Option Addr) (al ac : Nat) (at' : List Int) (ha : Ints w aa al at')
    (h4 : al ≤ 4) (hat : ∀ k, k < al → 0 ≤ at'[k]?.getD 0 ∧ at'[k]?.getD 0 ≤ 8) :
    Calls Try.prog 52 #[.agg #[.slice ca cl cc, .slice ra rl rc], .slice aa al ac] w fun e w' => ∃ g, e = .returned (.slice (some ⟨g, 0, none⟩) al al) ∧ w.heap.size ≤ g ∧
      Lines w' (some ⟨g, 0, none⟩) al ((List.range al).map fun k => (List.range rl).map (Num.hasF p (Num.atF at' k))) ∧ Below w.heap.size w w' := by
  have HR : Hid (RowsAt w ra rl p.rows) := hr
  have HM : Hid (p.may = true) := hm
  have HA : Hid (Ints w aa al at') := ha
  have HAT : Hid (∀ k, k < al → 0 ≤ at'[k]?.getD 0 ∧ at'[k]?.getD 0 ≤ 8) := hat
  clear hr ha hat hm
  generalize hf : (fun k => (List.range rl).map (Num.hasF p (Num.atF at' k))) = f
  have HF : Hid _ := hf
  clear hf
  obtain ⟨i0, hif, hz0, hz1, hz2⟩ := info_parts Try.infoSl
  have hs0 : (w.alloc (.cells #[.slice ca cl cc, .slice ra rl rc] 40)).heap.size = w.heap.size + 1 := by simp
  go_enter Try.func52, Try.ntmps52
  go_wp2_with (at_make; refine wpList_make_full _ rfl (.tmp 9) (.tmp 9) 77 rfl (w.heap.size + 1) 22 i0 (.slice none 0 0) 1 Try.underlying77 hif hz0 hz1 .i64 .i64 _ _ al rfl rfl rfl rfl (by rw [hz2]; omega) (by unfold maxLen; omega) (by simp) ?_; intro w3 hown hgrow; have hb3 := made_below hgrow; have HO : Hid _ := hown; clear hown hgrow)
  have HO3 : Hid (OwnL w3 (w.heap.size + 1) (w.heap.size + 1) al 0 f) := OwnL.made _ (by rw [hs0] at HO; exact HO.out)
  clear HO
  go_loopw [13] (fun i wr => ∃ k : Nat, k ≤ al ∧ i = .int .i64 k ∧ OwnL wr (w.heap.size + 1) (w.heap.size + 1) al k f ∧ Below (w.alloc (.cells #[.slice ca cl cc, .slice ra rl rc] 40)).heap.size (w.alloc (.cells #[.slice ca cl cc, .slice ra rl rc] 40)) wr) (fun i _ => al - (intOf i).toNat)
  case atStart => exact ⟨0, Nat.zero_le _, rfl, HO3.out, hb3⟩
  case round =>
    obtain ⟨k, hk, rfl, hO, hbl⟩ := hrel
    have HO : Hid (OwnL wr (w.heap.size + 1) (w.heap.size + 1) al k f) := hO
    clear HO3 hb3
    have hB : Below w.heap.size w wr := binto hbl
    by_cases hlt : k < al
    · rcases (Ints.below HA.out hB (Nat.le_refl _)).2 with h | ⟨b, off, ha, hbs, hc⟩
      · omega
      have hck := hc k hlt
      have h0 := HAT.out k hlt
      clear hc
      obtain ⟨⟨e0, e1⟩, _⟩ := kept2 hbl
      have HE : Hid ((List.range rl).map (Num.hasF p (Num.atF at' k)) = f k) := by rw [← HF.out]; exact rfl
      obtain ⟨j, hj⟩ : ∃ j : Nat, at'[k]?.getD 0 = j := ⟨_, (Int.toNat_of_nonneg h0.1).symm⟩
      have HJ : Hid (Num.atF at' k = j) := by show (at'[k]?.getD 0).toNat = j; rw [hj]; rfl
      rw [hj] at hck h0
      clear hj
      have hg := hO.lt.2
      clear hO
      subst ha
      go_wp2_with fail
      refine (column_any _ _ _ _ _ _ p _ (RowsAt.below HR.out hB (Nat.le_refl _)) HM.out j (by omega)).mono ?_
      rintro e w5 ⟨g5, rfl, hg5, hi5, hb5⟩
      have HO5 : Hid (OwnL w5 (w.heap.size + 1) (w.heap.size + 1) al k f) := OwnL.below HO.out hb5 (Nat.le_refl _)
      have HI5 : Hid (Ints w5 (some ⟨g5, 0, none⟩) rl (f k)) := by rw [← HE.out, HJ.out]; exact hi5
      obtain ⟨⟨v, v0⟩, v1⟩ := OwnL.cell' HO5.out k hlt
      have hbl5 := bstep hbl hb5
      clear e0 e1 hb5 hbl hi5
      go_wp2_with fail
      go_roundw
      case rel => exact ⟨k + 1, hlt, by go_num, OwnL.store HO5.out hlt (by omega) HI5.out, bset hbl5 (by simp) _⟩
      case measure => simp [intOf]; omega
    · have hke : k = al := by omega
      subst hke
      clear hO
      go_wp2_with fail
      go_ret
      exact ⟨w.heap.size + 1, rfl, by omega, OwnL.lines HO.out, hB⟩

namespace Num
/-- Numbers of the columns at, as numbers of all columns, the others being 0: after k of them. -/
def spreadN (N : Nat) (at' nums : List Int) : Nat → List Int
  | 0 => List.replicate N 0
  | k + 1 => (spreadN N at' nums k).set (atF at' k) (nums[k]?.getD 0)
end Num

set_option maxHeartbeats 800000 in
theorem spread_any (ca : Option Addr) (cl cc : Nat) (ra : Option Addr) (rl rc : Nat) (w : World) (aa : Option Addr) (al ac : Nat) (at' : List Int) (ha : Ints w aa al at') (na : Option Addr) (nc : Nat) (nums : List Int) (hn : Ints w na al nums)
    (h4 : al ≤ 4) (N : Nat) (hN : cl + rl = N) (h8 : N ≤ 8) (hat : ∀ k, k < al → 0 ≤ at'[k]?.getD 0 ∧ at'[k]?.getD 0 < N) :
    Calls Try.prog 57 #[.agg #[.slice ca cl cc, .slice ra rl rc], .slice aa al ac, .slice na al nc] w fun e w' => ∃ g, e = .returned (.slice (some ⟨g, 0, none⟩) N N) ∧ w.heap.size ≤ g ∧
      Ints w' (some ⟨g, 0, none⟩) N (Num.spreadN N at' nums al) ∧ Below w.heap.size w w' := by
  have HA : Hid (Ints w aa al at') := ha
  have HN : Hid (Ints w na al nums) := hn
  have HAT : Hid (∀ k, k < al → 0 ≤ at'[k]?.getD 0 ∧ at'[k]?.getD 0 < N) := hat
  have HNN : Hid (cl + rl = N) := hN
  clear ha hn hat hN
  obtain ⟨i0, hif, hz0, hz1, hz2⟩ := info_parts Try.info64
  have hs0 : (w.alloc (.cells #[.slice ca cl cc, .slice ra rl rc] 40)).heap.size = w.heap.size + 1 := by simp
  go_enter Try.func57, Try.ntmps57
  go_wp2_with fail
  refine (width_any _ _ _ _ _ _ _ N HNN.out h8).mono ?_
  rintro e w1 ⟨rfl, hb1⟩
  obtain ⟨⟨e0, e1⟩, _⟩ := kept2 hb1
  go_wp2_with (at_make; refine wpList_make_full _ rfl (.tmp 11) (.tmp 11) 22 rfl w1.heap.size 2 i0 (.int .i64 0) 1 Try.underlying22 hif hz0 hz1 .i64 .i64 _ _ N rfl rfl rfl rfl (by rw [hz2]; omega) (by unfold maxLen; omega) (Nat.le_refl _) ?_; intro w3 hown hgrow; have hb3 := made_below hgrow; have HO : Hid _ := hown; clear hown hgrow)
  have HO3 : Hid (Own w3 w1.heap.size w1.heap.size N (Num.spreadN N at' nums 0)) := by
    have := Own.made (fun _ => 0) HO.out
    rw [Num.fill_zero] at this
    exact this
  have hW : w.heap.size < w1.heap.size := by have := hb1.size; simp at this; omega
  have hb13 : Below (w.alloc (.cells #[.slice ca cl cc, .slice ra rl rc] 40)).heap.size (w.alloc (.cells #[.slice ca cl cc, .slice ra rl rc] 40)) w3 := bstep hb1 hb3
  clear HO hb1 hb3 e0 e1
  go_loopw [15] (fun i wr => ∃ k : Nat, k ≤ al ∧ i = .int .i64 k ∧ Own wr w1.heap.size w1.heap.size N (Num.spreadN N at' nums k) ∧ Below w.heap.size w wr) (fun i _ => al - (intOf i).toNat)
  case atStart => exact ⟨0, Nat.zero_le _, rfl, HO3.out, binto hb13⟩
  case round =>
    obtain ⟨k, hk, rfl, hO, hB⟩ := hrel
    have HO : Hid _ := hO
    clear HO3 hb13
    by_cases hlt : k < al
    · rcases (Ints.below HA.out hB (Nat.le_refl _)).2 with h | ⟨b, off, ha, hbs, hc⟩
      · omega
      rcases (Ints.below HN.out hB (Nat.le_refl _)).2 with h | ⟨b', off', ha', hbs', hc'⟩
      · omega
      have hck := hc k hlt
      have hck' := hc' k hlt
      have h0 := HAT.out k hlt
      clear hc hc'
      obtain ⟨j, hj⟩ : ∃ j : Nat, at'[k]?.getD 0 = j := ⟨_, (Int.toNat_of_nonneg h0.1).symm⟩
      have HJ : Hid (Num.atF at' k = j) := by show (at'[k]?.getD 0).toNat = j; rw [hj]; rfl
      have hjN : j < N := by have := h0.2; rw [hj] at this; omega
      rw [hj] at hck
      clear hj h0
      obtain ⟨⟨u, u0⟩, u1⟩ := hO.cell' j hjN
      have hg := hO.lt.2
      clear hO
      have HX : Hid (Num.spreadN N at' nums (k + 1) = (Num.spreadN N at' nums k).set j (nums[k]?.getD 0)) := by rw [← HJ.out]; exact rfl
      generalize nums[k]?.getD 0 = x at hck' HX
      subst ha ha'
      go_wp2_with fail
      go_roundw
      case rel => exact ⟨k + 1, hlt, by go_num, by rw [HX.out]; exact Own.store HO.out j x, bset hB (by omega) _⟩
      case measure => simp [intOf]; omega
    · have hke : k = al := by omega
      subst hke
      clear hO
      go_wp2_with fail
      go_ret
      exact ⟨w1.heap.size, rfl, by omega, Own.ints HO.out, hB⟩

end Go.Proofs.Ytjpliphobnflpaa
