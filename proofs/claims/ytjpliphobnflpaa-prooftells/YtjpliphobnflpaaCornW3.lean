/- What corner.column, columns and spread do. -/
import Derived.Test.YtjpliphobnflpaaCornW2
namespace Go.Proofs.Ytjpliphobnflpaa
open Go.RowKit

namespace Num
/-- What the column j has in row i. -/
def hasF (p : Lp) (j i : Nat) : Int := if j < p.costs.length then (p.rows[i]?.getD ([], 0)).1[j]?.getD 0 else if j = p.costs.length + i then 1 else 0

theorem hasF_in (p : Lp) (j i : Nat) (r : List Int × Int) (hr : p.rows[i]?.getD ([], 0) = r) (h : j < p.costs.length) : hasF p j i = r.1[j]?.getD 0 := by unfold hasF; rw [if_pos h, hr]
theorem hasF_one (p : Lp) (j i : Nat) (h : j = p.costs.length + i) : hasF p j i = 1 := by unfold hasF; rw [if_neg (by omega), if_pos h]
theorem hasF_zero (p : Lp) (j i : Nat) (h : ¬ j < p.costs.length) (h2 : j ≠ p.costs.length + i) : hasF p j i = 0 := by unfold hasF; rw [if_neg h, if_neg h2]

theorem hasF_bd (p : Lp) (hm : p.may = true) (j i : Nat) : -12 ≤ hasF p j i ∧ hasF p j i ≤ 12 := by
  unfold hasF
  split
  · by_cases hi : i < p.rows.length
    · exact withinB_iff _ _ (p.row_of hm i hi).2.1 (by omega) j
    · rw [List.getElem?_eq_none (l := p.rows) (by omega)]; simp
  · split <;> omega
end Num

set_option maxHeartbeats 800000 in
theorem column_any (ca : Option Addr) (cl cc : Nat) (ra : Option Addr) (rl rc : Nat) (p : Num.Lp) (w : World) (hr : RowsAt w ra rl p.rows) (hm : p.may = true) (j : Nat) (hj8 : j ≤ 8) :
    Calls Try.prog 84 #[.agg #[.slice ca cl cc, .slice ra rl rc], .int .i64 j] w fun e w' => ∃ g, e = .returned (.slice (some ⟨g, 0, none⟩) rl rl) ∧ w.heap.size ≤ g ∧ Ints w' (some ⟨g, 0, none⟩) rl ((List.range rl).map (Num.hasF p j)) ∧ Below w.heap.size w w' := by
  have HR : Hid (RowsAt w ra rl p.rows) := hr
  have HM : Hid (p.may = true) := hm
  have hn4 := (p.may_of hm).1.2
  have h4 : rl ≤ 4 := by have := hr.1; have := (p.may_of hm).2.2.1.2; omega
  have HRL : Hid (rl = p.rows.length) := hr.1
  clear hr hm
  obtain ⟨i0, hif, hz0, hz1, hz2⟩ := info_parts Try.info64
  have hs0 : (w.alloc (.cells #[.slice ca cl cc, .slice ra rl rc] 40)).heap.size = w.heap.size + 1 := by simp
  go_enter Try.func84, Try.ntmps84
  go_wp2_with (at_make; refine wpList_make_full _ rfl (.tmp 10) (.tmp 10) 22 rfl (w.heap.size + 1) 2 i0 (.int .i64 0) 1 Try.underlying22 hif hz0 hz1 .i64 .i64 _ _ rl rfl rfl rfl rfl (by rw [hz2]; omega) (by unfold maxLen; omega) (by simp) ?_; intro w3 hown hgrow; have hb3 := made_below hgrow; obtain ⟨⟨k0, k1⟩, _⟩ := kept2 hb3; have HO : Hid _ := hown; clear hown hgrow)
  have HO3 : Hid (Own w3 (w.heap.size + 1) (w.heap.size + 1) rl (Num.fill (Num.hasF p j) rl 0)) := Own.made _ (by rw [hs0] at HO; exact HO.out)
  clear HO
  go_loopw [15] (fun i wr => ∃ k : Nat, k ≤ rl ∧ i = .int .i64 k ∧ Own wr (w.heap.size + 1) (w.heap.size + 1) rl (Num.fill (Num.hasF p j) rl k) ∧ Below (w.alloc (.cells #[.slice ca cl cc, .slice ra rl rc] 40)).heap.size (w.alloc (.cells #[.slice ca cl cc, .slice ra rl rc] 40)) wr) (fun i _ => rl - (intOf i).toNat)
  case atStart => exact ⟨0, Nat.zero_le _, rfl, HO3.out, hb3⟩
  case round =>
    obtain ⟨k, hk, rfl, hO, hbl⟩ := hrel
    have HO : Hid _ := hO
    clear HO3 hb3 k0 k1
    have hB : Below w.heap.size w wr := binto hbl
    by_cases hlt : k < rl
    · rcases (RowsAt.below HR.out hB (Nat.le_refl _)).2 with h | ⟨b, off, ha, hbs, hc⟩
      · omega
      obtain ⟨xa, xl, xc, c0, c1, hx, hxl⟩ := hc k hlt
      clear hc
      have hxn : xl = p.costs.length := by have := hx.1; have := (p.row_of HM.out k (by have := HRL.out; omega)).1; omega
      obtain ⟨⟨u, u0⟩, u1⟩ := hO.cell' k hlt
      have hg := hO.lt.2
      clear hO
      have HE1 : Hid (j < xl → Num.hasF p j k = (p.rows[k]?.getD ([], 0)).1[j]?.getD 0) := fun h => Num.hasF_in p j k _ rfl (by omega)
      have HE2 : Hid (j = xl + k → Num.hasF p j k = 1) := fun h => Num.hasF_one p j k (by omega)
      have HE3 : Hid (¬ j < xl → j ≠ xl + k → Num.hasF p j k = 0) := fun h h2 => Num.hasF_zero p j k (by omega) (by omega)
      generalize (p.rows[k]?.getD ([], 0)) = r at *
      obtain ⟨r1, r2⟩ := r
      dsimp only at *
      have hx4 : xl ≤ 4 := by omega
      clear hxn hn4 hxl
      subst ha
      by_cases hj : (j : Int) < xl
      · rcases hx.2 with h | ⟨b', o', ha, hb', hc'⟩
        · omega
        have hck := hc' j (by omega)
        clear hc' hx
        generalize r1[j]?.getD 0 = x at hck HE1
        subst ha
        go_wp2_with fail
        go_roundw
        case rel => exact ⟨k + 1, hlt, by go_num, by rw [← Num.fill_set _ _ _ x hlt (HE1.out (by omega)).symm]; exact (Own.store HO.out k x).alloc _, bstep (bset hbl (by simp) _) (balloc _ _)⟩
        case measure => simp [intOf]; omega
      · have hj' : decide ((j : Int) < xl) = false := by simpa using hj
        clear hx
        by_cases hj2 : j = xl + k
        · have hj2' : ((j : Int) == xl + k) = true := beq_iff_eq.2 (by omega)
          have HJ2 : Hid _ := hj2
          clear hj2
          go_wp2_with fail
          go_roundw
          case rel => exact ⟨k + 1, hlt, by go_num, by rw [← Num.fill_set _ _ _ 1 hlt (HE2.out HJ2.out).symm]; exact (Own.store HO.out k 1).alloc _, bstep (bset hbl (by simp) _) (balloc _ _)⟩
          case measure => simp [intOf]; omega
        · have hj2' : ((j : Int) == xl + k) = false := beq_eq_false_iff_ne.2 (by omega)
          go_wp2_with fail
          go_roundw
          case rel => exact ⟨k + 1, hlt, by go_num, by rw [← Num.fill_skip _ _ _ (HE3.out (by omega) hj2)]; exact Own.alloc HO.out _, bstep hbl (balloc _ _)⟩
          case measure => simp [intOf]; omega
    · have hke : k = rl := by omega
      subst hke
      clear hO
      go_wp2_with fail
      go_ret
      refine ⟨w.heap.size + 1, rfl, by omega, ?_, hB⟩
      rw [← Num.fill_all]
      exact Own.ints HO.out

end Go.Proofs.Ytjpliphobnflpaa
