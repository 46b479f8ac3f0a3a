/- If Endless is proved, there is no most, in plain numbers. -/
import Derived.Test.YtjlkegchkngliaaPrf1
namespace Go.Proofs.Ytjlkegchkngliaa
namespace Num

/-- What stands in an answer that is Endless. -/
theorem endless_parts2 (p : Lp) (a : Ans) (h : endlessB p a = true) : a.x.length = p.costs.length ∧ a.r.length = p.costs.length ∧ (1 ≤ a.xd ∧ a.xd ≤ 1073741824) ∧ (∀ j : Nat, 0 ≤ a.x[j]?.getD 0) ∧ (∀ j : Nat, 0 ≤ a.r[j]?.getD 0) ∧
    (∀ j : Nat, a.x[j]?.getD 0 ≤ 1073741824) ∧ (∀ j : Nat, a.r[j]?.getD 0 ≤ 1073741824) ∧ (∀ i, i < p.rows.length → dotN (p.rows[i]?.getD ([], 0)).1 a.x p.costs.length ≤ (p.rows[i]?.getD ([], 0)).2 * a.xd) ∧
    (∀ i, i < p.rows.length → dotN (p.rows[i]?.getD ([], 0)).1 a.r p.costs.length ≤ 0) ∧ 0 < dotN p.costs a.r p.costs.length := by
  unfold endlessB at h
  simp only [Bool.and_eq_true, decide_eq_true_eq, beq_iff_eq] at h
  obtain ⟨⟨⟨⟨h1, _⟩, h3⟩, h4⟩, h5⟩ := h
  obtain ⟨_, g2, g3, g4, g5, _⟩ := goes_len p _ _ h1
  obtain ⟨l1, _, l3, l4, _⟩ := point_of _ _ _ h3
  refine ⟨g2, l1, g3, not_neg _ g5, not_neg _ l4, fun j => (withinB_iff _ _ g4 (by omega) j).2, fun j => (withinB_iff _ _ l3 (by omega) j).2, goes_rows p _ _ h1, fun i hi => ?_, h5⟩
  rw [List.all_eq_true] at h4
  have := h4 _ (List.getElem_mem hi)
  rw [List.getElem?_eq_getElem hi, Option.getD_some]
  unfold rowLevel at this
  simpa using this

/-- So many times along the way, the first n numbers. -/
def alongL (x r : List Int) (k d : Int) (n : Nat) : List Int := (List.range n).map fun i => x[i]?.getD 0 + k * r[i]?.getD 0 * d

theorem along_succ (x r : List Int) (k d : Int) (n : Nat) : alongL x r k d (n + 1) = alongL x r k d n ++ [x[n]?.getD 0 + k * r[n]?.getD 0 * d] := by
  unfold alongL; rw [List.range_succ, List.map_append]; rfl

theorem along_len (x r : List Int) (k d : Int) (n : Nat) : (alongL x r k d n).length = n := by simp [alongL]

theorem along_dot (c x r : List Int) (k d : Int) (n : Nat) : dotN c (alongL x r k d n) n = dotN c x n + k * d * dotN c r n := by
  rw [dotN_sum, dotN_sum, dotN_sum, ← sumN_mul, ← sumN_add]
  refine sumN_congr _ _ _ fun i hi => ?_
  unfold alongL
  rw [range_getD, if_pos hi, Int.mul_add]
  congr 1
  simp only [Int.mul_comm, Int.mul_left_comm, Int.mul_assoc]

theorem along_bd (x r : List Int) (k d : Int) (n : Nat) (hk : 0 ≤ k ∧ k ≤ 1000) (hd : 1 ≤ d ∧ d ≤ 1000000) (hx : ∀ j : Nat, 0 ≤ x[j]?.getD 0 ∧ x[j]?.getD 0 ≤ 1073741824) (hr : ∀ j, j < n → 0 ≤ r[j]?.getD 0 ∧ r[j]?.getD 0 ≤ 1000000) :
    ∀ j : Nat, -1100000000000000 ≤ (alongL x r k d n)[j]?.getD 0 ∧ (alongL x r k d n)[j]?.getD 0 ≤ 1100000000000000 := by
  intro j
  unfold alongL
  rw [range_getD]
  split
  · rename_i hj
    have h1 := hx j
    have h2 := hr j hj
    have g1 := mul_bd2 k (r[j]?.getD 0) 1000 1000000 (by omega) (by omega)
    have g2 : 0 ≤ k * r[j]?.getD 0 := Int.mul_nonneg hk.1 h2.1
    have g3 := mul_bd2 (k * r[j]?.getD 0) d 1000000000 1000000 (by omega) (by omega)
    have g4 : 0 ≤ k * r[j]?.getD 0 * d := Int.mul_nonneg g2 (by omega)
    omega
  · omega

end Num
end Go.Proofs.Ytjlkegchkngliaa
