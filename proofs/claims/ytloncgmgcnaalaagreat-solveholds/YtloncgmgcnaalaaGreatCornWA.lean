/- What corner.column, columns and spread do. -/
import Derived.Test.YtloncgmgcnaalaaGreatCornV
namespace Go.Proofs.YtloncgmgcnaalaaGreat
open Go.RowKit

namespace Num
/-- What the column j has in row i. -/
def hasF (p : Lp) (j i : Nat) : Int := if j < p.costs.length then (p.rows[i]?.getD ([], 0)).1[j]?.getD 0 else if j = p.costs.length + i then 1 else 0

theorem hasF_in (p : Lp) (j i : Nat) (r : List Int × Int) (hr : p.rows[i]?.getD ([], 0) = r) (h : j < p.costs.length) : hasF p j i = r.1[j]?.getD 0 := by unfold hasF; rw [if_pos h, hr]
theorem hasF_one (p : Lp) (j i : Nat) (h : j = p.costs.length + i) : hasF p j i = 1 := by unfold hasF; rw [if_neg (by omega), if_pos h]
theorem hasF_zero (p : Lp) (j i : Nat) (h : ¬ j < p.costs.length) (h2 : j ≠ p.costs.length + i) : hasF p j i = 0 := by unfold hasF; rw [if_neg h, if_neg h2]

theorem hasF_bd (p : Lp) (hm : p.may = true) (j i : Nat) : -12 ≤ hasF p j i ∧ hasF p j i ≤ 12 := by
  unfold hasF
  split
  · by_cases hi : i < p.rows.length
    · exact withinB_iff _ _ (p.row_of hm i hi).2.1 (by omega) j
    · rw [List.getElem?_eq_none (l := p.rows) (by omega)]; simp
  · split <;> omega
end Num

set_option maxHeartbeats 800000 in
theorem column_any (ca : Option Addr) (cl cc : Nat) (ra : Option Addr) (rl rc : Nat) (p : Num.Lp) (w : World) (hr : RowsAt w ra rl p.rows) (hm : p.may = true) (j : Nat) (hj8 : j ≤ 8) :
    Calls Tryz.prog 70 #[.agg #[.slice ca cl cc, .slice ra rl rc], .int .i64 j] w fun e w' => ∃ g, e = .returned (.slice (some ⟨g, 0, none⟩) rl rl) ∧ w.heap.size ≤ g ∧ Ints w' (some ⟨g, 0, none⟩) rl ((List.range rl).map (Num.hasF p j)) ∧ Below w.heap.size w w' := by
  have HR : Hid (RowsAt w ra rl p.rows) := hr
  have HM : Hid (p.may = true) := hm
  have hn4 := (p.may_of hm).1.2
  have h4 : rl ≤ 4 := by have := hr.1; have := (p.may_of hm).2.2.1.2; omega
  have HRL : Hid (rl = p.rows.length) := hr.1
  clear hr hm
  obtain ⟨i0, hif, hz0, hz1, hz2⟩ := info_parts Tryz.info64
  have hs0 : (w.alloc (.cells #[.slice ca cl cc, .slice ra rl rc] 25)).heap.size = w.heap.size + 1 := by simp
  go_enter Tryz.func70, Tryz.ntmps70
  go_wp2_with (at_make; refine wpList_make_full _ rfl (.tmp 10) (.tmp 10) 22 rfl (w.heap.size + 1) 2 i0 (.int .i64 0) 1 Tryz.underlying22 hif hz0 hz1 .i64 .i64 _ _ rl rfl rfl rfl rfl (by rw [hz2]; omega) (by unfold maxLen; omega) (by simp) ?_; intro w3 hown hgrow; have hb3 := made_below hgrow; obtain ⟨⟨k0, k1⟩, _⟩ := kept2 hb3; have HO : Hid _ := hown; clear hown hgrow)
  have HO3 : Hid (Own w3 (w.heap.size + 1) (w.heap.size + 1) rl (Num.fill (Num.hasF p j) rl 0)) := Own.made _ (by rw [hs0] at HO; exact HO.out)
  clear HO
  go_loopw [15] (fun i wr => ∃ k : Nat, k ≤ rl ∧ i = .int .i64 k ∧ Own wr (w.heap.size + 1) (w.heap.size + 1) rl (Num.fill (Num.hasF p j) rl k) ∧ Below (w.alloc (.cells #[.slice ca cl cc, .slice ra rl rc] 25)).heap.size (w.alloc (.cells #[.slice ca cl cc, .slice ra rl rc] 25)) wr) (fun i _ => rl - (intOf i).toNat)
  case atStart => exact ⟨0, Nat.zero_le _, rfl, HO3.out, hb3⟩
  case round =>
    obtain ⟨k, hk, rfl, hO, hbl⟩ := hrel
    have HO : Hid _ := hO
    clear HO3 hb3 k0 k1
    have hB : Below w.heap.size w wr := binto hbl
    by_cases hlt : k < rl
    · rcases (RowsAt.below HR.out hB (Nat.le_refl _)).2 with h | ⟨b, off, ha, hbs, hc⟩
      · omega
      obtain ⟨xa, xl, xc, c0, c1, hx, hxl⟩ := hc k hlt
      clear hc
      have hxn : xl = p.costs.length := by have := hx.1; have := (p.row_of HM.out k (by have := HRL.out; omega)).1; omega
      obtain ⟨⟨u, u0⟩, u1⟩ := hO.cell' k hlt
      have hg := hO.lt.2
      clear hO
      have HE1 : Hid (j < xl → Num.hasF p j k = (p.rows[k]?.getD ([], 0)).1[j]?.getD 0) := fun h => Num.hasF_in p j k _ rfl (by omega)
      have HE2 : Hid (j = xl + k → Num.hasF p j k = 1) := fun h => Num.hasF_one p j k (by omega)
      have HE3 : Hid (¬ j < xl → j ≠ xl + k → Num.hasF p j k = 0) := fun h h2 => Num.hasF_zero p j k (by omega) (by omega)
      generalize (p.rows[k]?.getD ([], 0)) = r at *
      obtain ⟨r1, r2⟩ := r
      dsimp only at *
      have hx4 : xl ≤ 4 := by omega
      clear hxn hn4 hxl
      subst ha
      by_cases hj : (j : Int) < xl
      · rcases hx.2 with h | ⟨b', o', ha, hb', hc'⟩
        · omega
        have hck := hc' j (by omega)
        clear hc' hx
        generalize r1[j]?.getD 0 = x at hck HE1
        subst ha
        go_wp2_with fail
        go_roundw
        case rel => exact ⟨k + 1, hlt, by go_num, by rw [← Num.fill_set _ _ _ x hlt (HE1.out (by omega)).symm]; exact (Own.store HO.out k x).alloc _, bstep (bset hbl (by simp) _) (balloc _ _)⟩
        case measure => simp [intOf]; omega
      · have hj' : decide ((j : Int) < xl) = false := by simpa using hj
        clear hx
        by_cases hj2 : j = xl + k
        · have hj2' : ((j : Int) == xl + k) = true := beq_iff_eq.2 (by omega)
          have HJ2 : Hid _ := hj2
          clear hj2
          go_wp2_with fail
          go_roundw
          case rel => exact ⟨k + 1, hlt, by go_num, by rw [← Num.fill_set _ _ _ 1 hlt (HE2.out HJ2.out).symm]; exact (Own.store HO.out k 1).alloc _, bstep (bset hbl (by simp) _) (balloc _ _)⟩
          case measure => simp [intOf]; omega
        · have hj2' : ((j : Int) == xl + k) = false := beq_eq_false_iff_ne.2 (by omega)
          go_wp2_with fail
          go_roundw
          case rel => exact ⟨k + 1, hlt, by go_num, by rw [← Num.fill_skip _ _ _ (HE3.out (by omega) hj2)]; exact Own.alloc HO.out _, bstep hbl (balloc _ _)⟩
          case measure => simp [intOf]; omega
    · have hke : k = rl := by omega
      subst hke
      clear hO
      go_wp2_with fail
      go_ret
      refine ⟨w.heap.size + 1, rfl, by omega, ?_, hB⟩
      rw [← Num.fill_all]
      exact Own.ints HO.out

end Go.Proofs.YtloncgmgcnaalaaGreat

/- Slices of slices that a function makes and fills; what corner.columns and spread do. -/
namespace Go.Proofs.YtloncgmgcnaalaaGreat
open Go.RowKit

theorem Tryz.infoSl : (Tryz.prog.info? 22).map (fun i => (i.zero, i.size, i.bytes)) = some (some (.slice none 0 0), 1, 24) := by kernel_rfl

/-- A slice of the call's own of n slices, of which the first k lie behind it and hold the numbers that f says. -/
def OwnL (w : World) (base g n k : Nat) (f : Nat → List Int) : Prop :=
  ∃ vs : List Value, w.ownsRow base 22 1 (.slice (some ⟨g, 0, none⟩) n n) n vs ∧ ∀ j, j < k → ∃ gj m, vs[j]? = some (.slice (some ⟨gj, 0, none⟩) m m) ∧ g < gj ∧ Ints w (some ⟨gj, 0, none⟩) m (f j)

theorem OwnL.made {w : World} {base g n : Nat} {xs : List Value} (f : Nat → List Int) (h : w.ownsRow base 22 1 (.slice (some ⟨g, 0, none⟩) n n) n xs) : OwnL w base g n 0 f :=
  ⟨xs, h, fun _ hj => absurd hj (Nat.not_lt_zero _)⟩

theorem OwnL.lt {w : World} {base g n k : Nat} {f : Nat → List Int} (h : OwnL w base g n k f) : base ≤ g ∧ g < w.heap.size := by
  obtain ⟨vs, h, _⟩ := h
  exact World.ownsRow.lt h g rfl

theorem OwnL.cell' {w : World} {base g n k : Nat} {f : Nat → List Int} (h : OwnL w base g n k f) (j : Nat) (hj : j < n) : (∃ u, w.cell? ⟨g, j, none⟩ = some u) ∧ w.frozen? ⟨g, j, none⟩ = false := by
  obtain ⟨vs, h, _⟩ := h
  have hl : vs.length = n := by simpa using h.1
  refine ⟨⟨vs[j], ?_⟩, World.ownsRow.frozenAt h j⟩
  rw [World.ownsRow.cellAt h j (by omega)]
  exact List.getElem?_eq_getElem (by omega)

theorem Ints.setOff {w : World} {g' n : Nat} {l : List Int} (h : Ints w (some ⟨g', 0, none⟩) n l) {g j : Nat} (hg : g < g') (u : Value) : Ints (w.setCell ⟨g, j, none⟩ u) (some ⟨g', 0, none⟩) n l :=
  Ints.set (base := g + 1) h (Or.inr ⟨g', rfl, by omega⟩) (by show g < g + 1; omega) u

theorem OwnL.store {w : World} {base g n k : Nat} {f : Nat → List Int} (h : OwnL w base g n k f) (hk : k < n) {gk m : Nat} (hg : g < gk) (hi : Ints w (some ⟨gk, 0, none⟩) m (f k)) :
    OwnL (w.setCell ⟨g, k, none⟩ (.slice (some ⟨gk, 0, none⟩) m m)) base g n (k + 1) f := by
  obtain ⟨vs, h, hin⟩ := h
  have hl : vs.length = n := by simpa using h.1
  refine ⟨vs.set k (.slice (some ⟨gk, 0, none⟩) m m), (World.ownsRow.stored h k _).1, fun j hj => ?_⟩
  by_cases hjk : j = k
  · subst hjk
    exact ⟨gk, m, by rw [List.getElem?_set_self (by omega)], hg, hi.setOff hg _⟩
  · obtain ⟨gj, m', h1, h2, h3⟩ := hin j (by omega)
    exact ⟨gj, m', by rw [List.getElem?_set_ne (by omega)]; exact h1, h2, h3.setOff h2 _⟩

theorem OwnL.below {w w' : World} {base g n k : Nat} {f : Nat → List Int} (h : OwnL w base g n k f) {B : Nat} (hb : Below B w w') (hB : w.heap.size ≤ B) : OwnL w' base g n k f := by
  have hlt := h.lt.2
  obtain ⟨vs, h, hin⟩ := h
  refine ⟨vs, own_below h hb (by omega), fun j hj => ?_⟩
  obtain ⟨gj, m', h1, h2, h3⟩ := hin j hj
  exact ⟨gj, m', h1, h2, h3.below hb hB⟩

theorem getD_range {α : Type} (f : Nat → α) (n j : Nat) (d : α) (h : j < n) : ((List.range n).map f)[j]?.getD d = f j := by
  rw [List.getElem?_map]; simp [h]

theorem OwnL.lines {w : World} {base g n : Nat} {f : Nat → List Int} (h : OwnL w base g n n f) : Lines w (some ⟨g, 0, none⟩) n ((List.range n).map f) := by
  have hlt := h.lt.2
  obtain ⟨vs, h, hin⟩ := h
  have hl : vs.length = n := by simpa using h.1
  refine ⟨by simp, Or.inr ⟨g, 0, rfl, hlt, fun j hj => ?_⟩⟩
  obtain ⟨gj, m', h1, h2, h3⟩ := hin j hj
  refine ⟨_, _, _, ?_, by rw [getD_range f n j [] hj]; exact h3, Nat.le_refl _⟩
  rw [Nat.zero_add, World.ownsRow.cellAt h j (by omega)]
  exact h1

set_option maxHeartbeats 800000 in
theorem columns_any (ca : Option Addr) (cl cc : Nat) (ra : Option Addr) (rl rc : Nat) (p : Num.Lp) (w : World) (hr : RowsAt w ra rl p.rows) (hm : p.may = true) (aa : Option Addr) (al ac : Nat) (at' : List Int) (ha : Ints w aa al at')
    (h4 : al ≤ 4) (hat : ∀ k, k < al → 0 ≤ at'[k]?.getD 0 ∧ at'[k]?.getD 0 ≤ 8) :
    Calls Tryz.prog 45 #[.agg #[.slice ca cl cc, .slice ra rl rc], .slice aa al ac] w fun e w' => ∃ g, e = .returned (.slice (some ⟨g, 0, none⟩) al al) ∧ w.heap.size ≤ g ∧
      Lines w' (some ⟨g, 0, none⟩) al ((List.range al).map fun k => (List.range rl).map (Num.hasF p (Num.atF at' k))) ∧ Below w.heap.size w w' := by
  have HR : Hid (RowsAt w ra rl p.rows) := hr
  have HM : Hid (p.may = true) := hm
  have HA : Hid (Ints w aa al at') := ha
  have HAT : Hid (∀ k, k < al → 0 ≤ at'[k]?.getD 0 ∧ at'[k]?.getD 0 ≤ 8) := hat
  clear hr ha hat hm
  generalize hf : (fun k => (List.range rl).map (Num.hasF p (Num.atF at' k))) = f
  have HF : Hid _ := hf
  clear hf
  obtain ⟨i0, hif, hz0, hz1, hz2⟩ := info_parts Tryz.infoSl
  have hs0 : (w.alloc (.cells #[.slice ca cl cc, .slice ra rl rc] 25)).heap.size = w.heap.size + 1 := by simp
  go_enter Tryz.func45, Tryz.ntmps45
  go_wp2_with (at_make; refine wpList_make_full _ rfl (.tmp 9) (.tmp 9) 74 rfl (w.heap.size + 1) 22 i0 (.slice none 0 0) 1 Tryz.underlying74 hif hz0 hz1 .i64 .i64 _ _ al rfl rfl rfl rfl (by rw [hz2]; omega) (by unfold maxLen; omega) (by simp) ?_; intro w3 hown hgrow; have hb3 := made_below hgrow; have HO : Hid _ := hown; clear hown hgrow)
  have HO3 : Hid (OwnL w3 (w.heap.size + 1) (w.heap.size + 1) al 0 f) := OwnL.made _ (by rw [hs0] at HO; exact HO.out)
  clear HO
  go_loopw [13] (fun i wr => ∃ k : Nat, k ≤ al ∧ i = .int .i64 k ∧ OwnL wr (w.heap.size + 1) (w.heap.size + 1) al k f ∧ Below (w.alloc (.cells #[.slice ca cl cc, .slice ra rl rc] 25)).heap.size (w.alloc (.cells #[.slice ca cl cc, .slice ra rl rc] 25)) wr) (fun i _ => al - (intOf i).toNat)
  case atStart => exact ⟨0, Nat.zero_le _, rfl, HO3.out, hb3⟩
  case round =>
    obtain ⟨k, hk, rfl, hO, hbl⟩ := hrel
    have HO : Hid (OwnL wr (w.heap.size + 1) (w.heap.size + 1) al k f) := hO
    clear HO3 hb3
    have hB : Below w.heap.size w wr := binto hbl
    by_cases hlt : k < al
    · rcases (Ints.below HA.out hB (Nat.le_refl _)).2 with h | ⟨b, off, ha, hbs, hc⟩
      · omega
      have hck := hc k hlt
      have h0 := HAT.out k hlt
      clear hc
      obtain ⟨⟨e0, e1⟩, _⟩ := kept2 hbl
      have HE : Hid ((List.range rl).map (Num.hasF p (Num.atF at' k)) = f k) := by rw [← HF.out]; exact rfl
      obtain ⟨j, hj⟩ : ∃ j : Nat, at'[k]?.getD 0 = j := ⟨_, (Int.toNat_of_nonneg h0.1).symm⟩
      have HJ : Hid (Num.atF at' k = j) := by show (at'[k]?.getD 0).toNat = j; rw [hj]; rfl
      rw [hj] at hck h0
      clear hj
      have hg := hO.lt.2
      clear hO
      subst ha
      go_wp2_with fail
      refine (column_any _ _ _ _ _ _ p _ (RowsAt.below HR.out hB (Nat.le_refl _)) HM.out j (by omega)).mono ?_
      rintro e w5 ⟨g5, rfl, hg5, hi5, hb5⟩
      have HO5 : Hid (OwnL w5 (w.heap.size + 1) (w.heap.size + 1) al k f) := OwnL.below HO.out hb5 (Nat.le_refl _)
      have HI5 : Hid (Ints w5 (some ⟨g5, 0, none⟩) rl (f k)) := by rw [← HE.out, HJ.out]; exact hi5
      obtain ⟨⟨v, v0⟩, v1⟩ := OwnL.cell' HO5.out k hlt
      have hbl5 := bstep hbl hb5
      clear e0 e1 hb5 hbl hi5
      go_wp2_with fail
      go_roundw
      case rel => exact ⟨k + 1, hlt, by go_num, OwnL.store HO5.out hlt (by omega) HI5.out, bset hbl5 (by simp) _⟩
      case measure => simp [intOf]; omega
    · have hke : k = al := by omega
      subst hke
      clear hO
      go_wp2_with fail
      go_ret
      exact ⟨w.heap.size + 1, rfl, by omega, OwnL.lines HO.out, hB⟩

namespace Num
/-- Numbers of the columns at, as numbers of all columns, the others being 0: after k of them. -/
def spreadN (N : Nat) (at' nums : List Int) : Nat → List Int
  | 0 => List.replicate N 0
  | k + 1 => (spreadN N at' nums k).set (atF at' k) (nums[k]?.getD 0)
end Num

set_option maxHeartbeats 800000 in
theorem spread_any (ca : Option Addr) (cl cc : Nat) (ra : Option Addr) (rl rc : Nat) (w : World) (aa : Option Addr) (al ac : Nat) (at' : List Int) (ha : Ints w aa al at') (na : Option Addr) (nc : Nat) (nums : List Int) (hn : Ints w na al nums)
    (h4 : al ≤ 4) (N : Nat) (hN : cl + rl = N) (h8 : N ≤ 8) (hat : ∀ k, k < al → 0 ≤ at'[k]?.getD 0 ∧ at'[k]?.getD 0 < N) :
    Calls Tryz.prog 50 #[.agg #[.slice ca cl cc, .slice ra rl rc], .slice aa al ac, .slice na al nc] w fun e w' => ∃ g, e = .returned (.slice (some ⟨g, 0, none⟩) N N) ∧ w.heap.size ≤ g ∧
      Ints w' (some ⟨g, 0, none⟩) N (Num.spreadN N at' nums al) ∧ Below w.heap.size w w' := by
  have HA : Hid (Ints w aa al at') := ha
  have HN : Hid (Ints w na al nums) := hn
  have HAT : Hid (∀ k, k < al → 0 ≤ at'[k]?.getD 0 ∧ at'[k]?.getD 0 < N) := hat
  have HNN : Hid (cl + rl = N) := hN
  clear ha hn hat hN
  obtain ⟨i0, hif, hz0, hz1, hz2⟩ := info_parts Tryz.info64
  have hs0 : (w.alloc (.cells #[.slice ca cl cc, .slice ra rl rc] 25)).heap.size = w.heap.size + 1 := by simp
  go_enter Tryz.func50, Tryz.ntmps50
  go_wp2_with fail
  refine (width_any _ _ _ _ _ _ _ N HNN.out h8).mono ?_
  rintro e w1 ⟨rfl, hb1⟩
  obtain ⟨⟨e0, e1⟩, _⟩ := kept2 hb1
  go_wp2_with (at_make; refine wpList_make_full _ rfl (.tmp 11) (.tmp 11) 22 rfl w1.heap.size 2 i0 (.int .i64 0) 1 Tryz.underlying22 hif hz0 hz1 .i64 .i64 _ _ N rfl rfl rfl rfl (by rw [hz2]; omega) (by unfold maxLen; omega) (Nat.le_refl _) ?_; intro w3 hown hgrow; have hb3 := made_below hgrow; have HO : Hid _ := hown; clear hown hgrow)
  have HO3 : Hid (Own w3 w1.heap.size w1.heap.size N (Num.spreadN N at' nums 0)) := by
    have := Own.made (fun _ => 0) HO.out
    rw [Num.fill_zero] at this
    exact this
  have hW : w.heap.size < w1.heap.size := by have := hb1.size; simp at this; omega
  have hb13 : Below (w.alloc (.cells #[.slice ca cl cc, .slice ra rl rc] 25)).heap.size (w.alloc (.cells #[.slice ca cl cc, .slice ra rl rc] 25)) w3 := bstep hb1 hb3
  clear HO hb1 hb3 e0 e1
  go_loopw [15] (fun i wr => ∃ k : Nat, k ≤ al ∧ i = .int .i64 k ∧ Own wr w1.heap.size w1.heap.size N (Num.spreadN N at' nums k) ∧ Below w.heap.size w wr) (fun i _ => al - (intOf i).toNat)
  case atStart => exact ⟨0, Nat.zero_le _, rfl, HO3.out, binto hb13⟩
  case round =>
    obtain ⟨k, hk, rfl, hO, hB⟩ := hrel
    have HO : Hid _ := hO
    clear HO3 hb13
    by_cases hlt : k < al
    · rcases (Ints.below HA.out hB (Nat.le_refl _)).2 with h | ⟨b, off, ha, hbs, hc⟩
      · omega
      rcases (Ints.below HN.out hB (Nat.le_refl _)).2 with h | ⟨b', off', ha', hbs', hc'⟩
      · omega
      have hck := hc k hlt
      have hck' := hc' k hlt
      have h0 := HAT.out k hlt
      clear hc hc'
      obtain ⟨j, hj⟩ : ∃ j : Nat, at'[k]?.getD 0 = j := ⟨_, (Int.toNat_of_nonneg h0.1).symm⟩
      have HJ : Hid (Num.atF at' k = j) := by show (at'[k]?.getD 0).toNat = j; rw [hj]; rfl
      have hjN : j < N := by have := h0.2; rw [hj] at this; omega
      rw [hj] at hck
      clear hj h0
      obtain ⟨⟨u, u0⟩, u1⟩ := hO.cell' j hjN
      have hg := hO.lt.2
      clear hO
      have HX : Hid (Num.spreadN N at' nums (k + 1) = (Num.spreadN N at' nums k).set j (nums[k]?.getD 0)) := by rw [← HJ.out]; exact rfl
      generalize nums[k]?.getD 0 = x at hck' HX
      subst ha ha'
      go_wp2_with fail
      go_roundw
      case rel => exact ⟨k + 1, hlt, by go_num, by rw [HX.out]; exact Own.store HO.out j x, bset hB (by omega) _⟩
      case measure => simp [intOf]; omega
    · have hke : k = al := by omega
      subst hke
      clear hO
      go_wp2_with fail
      go_ret
      exact ⟨w1.heap.size, rfl, by omega, Own.ints HO.out, hB⟩

end Go.Proofs.YtloncgmgcnaalaaGreat

/- What corner.gains does. -/
namespace Go.Proofs.YtloncgmgcnaalaaGreat
open Go.RowKit

/-- Below B all is as in V; the row of the call's own is l, or has x at k already. -/
structure Rowed (V : World) (base g n k : Nat) (l : List Int) (x : Int) (w : World) : Prop where
  bel : Below V.heap.size V w
  row : ∃ l', Own w base g n l' ∧ (l' = l ∨ l' = l.set k x)

theorem Rowed.start {V : World} {base g n k : Nat} {l : List Int} {x : Int} {w : World} (h : Below V.heap.size V w) (ho : Own w base g n l) : Rowed V base g n k l x w := ⟨h, l, ho, Or.inl rfl⟩

theorem Rowed.drew {V : World} {base g n k : Nat} {l : List Int} {x : Int} {w : World} (h : Rowed V base g n k l x w) : Rowed V base g n k l x w.drew :=
  ⟨h.bel.drew, by obtain ⟨l', ho, hl⟩ := h.row; exact ⟨l', ho, hl⟩⟩

theorem Rowed.step {V : World} {base g n k : Nat} {l : List Int} {x : Int} {w w' : World} (h : Rowed V base g n k l x w) (hb : Below w.heap.size w w') : Rowed V base g n k l x w' :=
  ⟨bstep h.bel hb, by obtain ⟨l', ho, hl⟩ := h.row; exact ⟨l', ho.below hb ho.lt.2, hl⟩⟩

theorem Rowed.stored {V : World} {base g n k : Nat} {l : List Int} {x : Int} {w : World} (h : Rowed V base g n k l x w) : Own (w.setCell ⟨g, k, none⟩ (.int .i64 x)) base g n (l.set k x) := by
  obtain ⟨l', ho, hl⟩ := h.row
  have := ho.store k x
  rcases hl with rfl | rfl
  · exact this
  · rw [List.set_set] at this; exact this

theorem Rowed.set {V : World} {base g n k : Nat} {l : List Int} {x : Int} {w : World} (h : Rowed V base g n k l x w) (hg : V.heap.size ≤ g) : Rowed V base g n k l x (w.setCell ⟨g, k, none⟩ (.int .i64 x)) :=
  ⟨bset h.bel hg _, _, h.stored, Or.inr rfl⟩

theorem Rowed.cell {V : World} {base g n k : Nat} {l : List Int} {x : Int} (hk : k < n) : ∃ F : World → Value, (∀ w, Rowed V base g n k l x w → w.cell? ⟨g, k, none⟩ = some (F w)) ∧ (∀ w, Rowed V base g n k l x w → w.frozen? ⟨g, k, none⟩ = false) := by
  refine ⟨fun w => (w.cell? ⟨g, k, none⟩).getD undef, ?_, ?_⟩
  · intro w h
    obtain ⟨l', ho, _⟩ := h.row
    show w.cell? ⟨g, k, none⟩ = some ((w.cell? ⟨g, k, none⟩).getD undef)
    rw [(ho.cell k hk).1]; rfl
  · intro w h
    obtain ⟨l', ho, _⟩ := h.row
    exact (ho.cell k hk).2

def Num.gainF (p : Num.Lp) (y : List Int) (d : Int) (j : Nat) : Int := p.costs[j]?.getD 0 * d - Num.dotN ((List.range p.rows.length).map (Num.hasF p j)) y p.rows.length

set_option maxHeartbeats 800000 in
theorem gains_any (ca : Option Addr) (cl cc : Nat) (ra : Option Addr) (rl rc : Nat) (p : Num.Lp) (w : World) (hc : Ints w ca cl p.costs) (hr : RowsAt w ra rl p.rows) (hm : p.may = true) (ya : Option Addr) (yc : Nat) (y : List Int) (hy : Ints w ya rl y) (d : Int)
    (N : Nat) (hN : cl + rl = N) (hd : -6553600000000 ≤ d ∧ d ≤ 6553600000000) (hyb : ∀ j : Nat, -6553600000000 ≤ y[j]?.getD 0 ∧ y[j]?.getD 0 ≤ 6553600000000) :
    Calls Tryz.prog 52 #[.agg #[.slice ca cl cc, .slice ra rl rc], .slice ya rl yc, .int .i64 d] w fun e w' => ∃ g, e = .returned (.slice (some ⟨g, 0, none⟩) N N) ∧ w.heap.size ≤ g ∧
      Ints w' (some ⟨g, 0, none⟩) N ((List.range N).map (Num.gainF p y d)) ∧ Below w.heap.size w w' := by
  have HC : Hid (Ints w ca cl p.costs) := hc
  have HR : Hid (RowsAt w ra rl p.rows) := hr
  have HY : Hid (Ints w ya rl y) := hy
  have HM : Hid (p.may = true) := hm
  have HNN : Hid (cl + rl = N) := hN
  have HYB : Hid (∀ j : Nat, -6553600000000 ≤ y[j]?.getD 0 ∧ y[j]?.getD 0 ≤ 6553600000000) := hyb
  have h4 : rl ≤ 4 := by have := hr.1; have := (p.may_of hm).2.2.1.2; omega
  have h8 : N ≤ 8 := by have := hc.1; have := (p.may_of hm).1.2; omega
  have HRL : Hid (rl = p.rows.length) := hr.1
  have HCB : Hid (∀ j : Nat, -400 ≤ p.costs[j]?.getD 0 ∧ p.costs[j]?.getD 0 ≤ 400) := Num.withinB_iff _ _ (p.may_of hm).2.1 (by omega)
  clear hc hr hy hm hN hyb
  obtain ⟨i0, hif, hz0, hz1, hz2⟩ := info_parts Tryz.info64
  go_enter Tryz.func52, Tryz.ntmps52
  go_wp2_with fail
  refine (width_any _ _ _ _ _ _ _ N HNN.out h8).mono ?_
  rintro e w1 ⟨rfl, hb1⟩
  obtain ⟨⟨e0, e1⟩, _⟩ := kept2 hb1
  go_wp2_with (at_make; refine wpList_make_full _ rfl (.tmp 10) (.tmp 10) 22 rfl w1.heap.size 2 i0 (.int .i64 0) 1 Tryz.underlying22 hif hz0 hz1 .i64 .i64 _ _ N rfl rfl rfl rfl (by rw [hz2]; omega) (by unfold maxLen; omega) (Nat.le_refl _) ?_; intro w3 hown hgrow; have hb3 := made_below hgrow; have HO : Hid _ := hown; clear hown hgrow)
  have HO3 : Hid (Own w3 w1.heap.size w1.heap.size N (Num.fill (Num.gainF p y d) N 0)) := Own.made _ HO.out
  have hW : w.heap.size < w1.heap.size := by have := hb1.size; simp at this; omega
  generalize hV0 : w.alloc (.cells #[.slice ca cl cc, .slice ra rl rc] 25) = V0 at *
  have hs0 : V0.heap.size = w.heap.size + 1 := by rw [← hV0]; simp
  have hBV : Below w.heap.size w V0 := by rw [← hV0]; exact balloc _ _
  have hcv : V0.cell? ⟨w.heap.size, 0, none⟩ = some (.slice ca cl cc) ∧ V0.cell? ⟨w.heap.size, 1, none⟩ = some (.slice ra rl rc) := by rw [← hV0]; exact cell_new2 rfl _ _ _
  have hb13 : Below V0.heap.size V0 w3 := bstep hb1 hb3
  clear HO hb1 hb3 e0 e1 hV0
  go_loopw [14] (fun i wr => ∃ k : Nat, k ≤ N ∧ i = .int .i64 k ∧ Own wr w1.heap.size w1.heap.size N (Num.fill (Num.gainF p y d) N k) ∧ Below V0.heap.size V0 wr) (fun i _ => N - (intOf i).toNat)
  case atStart => exact ⟨0, Nat.zero_le _, rfl, HO3.out, hb13⟩
  case round =>
    obtain ⟨k, hk, rfl, hO, hB⟩ := hrel
    have HO : Hid _ := hO
    clear HO3 hb13
    by_cases hlt : k < N
    · have HX : Hid (Num.gainF p y d k = p.costs[k]?.getD 0 * d - Num.dotN ((List.range rl).map (Num.hasF p k)) y rl) := by have := HRL.out; rw [this]; exact rfl
      have hcb := HCB.out k
      have hq := Num.mul_bd2 _ _ _ _ hcb hd
      have hD := Num.dotN_bd ((List.range rl).map (Num.hasF p k)) y 12 6553600000000 (fun j => by rw [Num.range_getD]; split; exact Num.hasF_bd p HM.out k j; omega) HYB.out rl
      have hD' : -314572800000000 ≤ Num.dotN ((List.range rl).map (Num.hasF p k)) y rl ∧ Num.dotN ((List.range rl).map (Num.hasF p k)) y rl ≤ 314572800000000 := by omega
      have KW : Hid (∀ w', Rowed V0 w1.heap.size w1.heap.size N k (Num.fill (Num.gainF p y d) N k) (Num.gainF p y d k) w' → Calls Tryz.prog 73 #[.agg #[.slice ca cl cc, .slice ra rl rc], .int .i64 k] w' fun e w'' => e = .returned (.int .i64 (p.costs[k]?.getD 0)) ∧
          Rowed V0 w1.heap.size w1.heap.size N k (Num.fill (Num.gainF p y d) N k) (Num.gainF p y d k) w'' ∧ Below w'.heap.size w' w'') := by
        intro w' h
        exact (worthC_any _ _ _ _ _ _ p.costs w' (Ints.below HC.out (hBV.trans (h.bel.mono (by omega))) (Nat.le_refl _)) k).mono fun _ _ q => ⟨q.1, h.step q.2, q.2⟩
      have KC : Hid (∀ w', Rowed V0 w1.heap.size w1.heap.size N k (Num.fill (Num.gainF p y d) N k) (Num.gainF p y d k) w' → Calls Tryz.prog 70 #[.agg #[.slice ca cl cc, .slice ra rl rc], .int .i64 k] w' fun e w'' => ∃ g2, e = .returned (.slice (some ⟨g2, 0, none⟩) rl rl) ∧
          Rowed V0 w1.heap.size w1.heap.size N k (Num.fill (Num.gainF p y d) N k) (Num.gainF p y d k) w'' ∧ Ints w'' (some ⟨g2, 0, none⟩) rl ((List.range rl).map (Num.hasF p k))) := by
        intro w' h
        refine (column_any _ _ _ _ _ _ p w' (RowsAt.below HR.out (hBV.trans (h.bel.mono (by omega))) (Nat.le_refl _)) HM.out k (by omega)).mono ?_
        rintro e w'' ⟨g2, rfl, _, hi, hb⟩
        exact ⟨g2, rfl, h.step hb, hi⟩
      have KT : Hid (∀ w' g2, Rowed V0 w1.heap.size w1.heap.size N k (Num.fill (Num.gainF p y d) N k) (Num.gainF p y d k) w' → Ints w' (some ⟨g2, 0, none⟩) rl ((List.range rl).map (Num.hasF p k)) → Calls Tryz.prog 61 #[.slice (some ⟨g2, 0, none⟩) rl rl, .slice ya rl yc] w' fun e w'' => e = .returned (.int .i64 (Num.dotN ((List.range rl).map (Num.hasF p k)) y rl)) ∧
          Rowed V0 w1.heap.size w1.heap.size N k (Num.fill (Num.gainF p y d) N k) (Num.gainF p y d k) w'') := by
        intro w' g2 h hi
        exact (below_of_drew (together_any _ _ _ _ _ _ ((List.range rl).map (Num.hasF p k)) y w' 12 6553600000000 hi (Ints.below HY.out (hBV.trans (h.bel.mono (by omega))) (Nat.le_refl _)) rfl (by omega) (fun j => by rw [Num.range_getD]; split; exact Num.hasF_bd p HM.out k j; omega) HYB.out (by omega))).mono fun _ _ q => ⟨q.1, h.step q.2⟩
      obtain ⟨F, qF, qZ⟩ := Rowed.cell (V := V0) (base := w1.heap.size) (g := w1.heap.size) (l := Num.fill (Num.gainF p y d) N k) (x := Num.gainF p y d k) hlt
      have hR := Rowed.drew (Rowed.start (k := k) (x := Num.gainF p y d k) hB hO)
      have HST : Hid (∀ w', Rowed V0 w1.heap.size w1.heap.size N k (Num.fill (Num.gainF p y d) N k) (Num.gainF p y d k) w' → Own (w'.setCell ⟨w1.heap.size, k, none⟩ (.int .i64 (Num.gainF p y d k))) w1.heap.size w1.heap.size N (Num.fill (Num.gainF p y d) N (k + 1)) ∧ Below V0.heap.size V0 (w'.setCell ⟨w1.heap.size, k, none⟩ (.int .i64 (Num.gainF p y d k)))) := by
        intro w' h
        refine ⟨?_, bset h.bel (by omega) _⟩
        rw [← Num.fill_set _ _ _ (Num.gainF p y d k) hlt rfl]
        exact h.stored
      have HSS : Hid (∀ w', Rowed V0 w1.heap.size w1.heap.size N k (Num.fill (Num.gainF p y d) N k) (Num.gainF p y d k) w' → Rowed V0 w1.heap.size w1.heap.size N k (Num.fill (Num.gainF p y d) N k) (Num.gainF p y d k) (w'.setCell ⟨w1.heap.size, k, none⟩ (.int .i64 (Num.gainF p y d k)))) := fun w' h => h.set (by omega)
      have q0 : ∀ w', Rowed V0 w1.heap.size w1.heap.size N k (Num.fill (Num.gainF p y d) N k) (Num.gainF p y d k) w' → w'.cell? ⟨w.heap.size, 0, none⟩ = some (.slice ca cl cc) := fun w' h => by rw [h.bel.cell (by show w.heap.size < _; omega)]; exact hcv.1
      have q1 : ∀ w', Rowed V0 w1.heap.size w1.heap.size N k (Num.fill (Num.gainF p y d) N k) (Num.gainF p y d k) w' → w'.cell? ⟨w.heap.size, 1, none⟩ = some (.slice ra rl rc) := fun w' h => by rw [h.bel.cell (by show w.heap.size < _; omega)]; exact hcv.2
      clear hO
      generalize Num.gainF p y d k = x at *
      generalize Num.fill (Num.gainF p y d) N k = l0 at *
      generalize Num.dotN ((List.range rl).map (Num.hasF p k)) y rl = D at *
      generalize p.costs[k]?.getD 0 = c at HX hcb hq KW
      have e1 : wrap64 (c * d) = c * d := IntWalk.wrap64_in _ (by omega)
      have e2 : wrap64 (c * d - D) = x := by rw [HX.out]; exact IntWalk.wrap64_in _ (by omega)
      have e3 : IntKind.i64.wrap (IntKind.i64.wrap (c * d) - D) = x := by rw [IntWalk.i64_left, IntWalk.i64_left, e1, e2]
      have E3 : Hid _ := e3
      clear hcb hD hcv e1 e2 e3
      go_wp2_with fail
      go_region_held3 (fun w' => Rowed V0 w1.heap.size w1.heap.size N k l0 x w') (first | assumption | (rw [E3.out]; apply HSS.out; assumption))
        (first | (go_at_call 73; refine (KW.out _ ?_).mono ?_; assumption; rintro e v1 ⟨rfl, hb1, hk1⟩; (try (have hI := Ints.below hI hk1 (Nat.le_refl _))))
               | (go_at_call 70; refine (KC.out _ ?_).mono ?_; assumption; rintro e v2 ⟨g2, rfl, hb2, hI⟩)
               | (go_at_call 61; refine (KT.out _ _ ?_ hI).mono ?_; assumption; rintro e v3 ⟨rfl, hb3⟩))
      all_goals
        rename_i hfin
        obtain ⟨r1, r2⟩ := HST.out v3 hb3
        have R1 : Hid _ := r1
        clear q0 q1 qF qZ KW KC KT r1 hfin
        rw [E3.out]
        go_wp2_with fail
        go_roundw
        case rel => exact ⟨k + 1, hlt, by go_num, R1.out, r2⟩
        case measure => simp [intOf]; omega
    · have hke : k = N := by omega
      subst hke
      clear hO
      go_wp2_with fail
      go_ret
      exact ⟨w1.heap.size, rfl, by omega, by rw [← Num.fill_all]; exact Own.ints HO.out, hBV.trans (hB.mono (by omega))⟩

end Go.Proofs.YtloncgmgcnaalaaGreat
