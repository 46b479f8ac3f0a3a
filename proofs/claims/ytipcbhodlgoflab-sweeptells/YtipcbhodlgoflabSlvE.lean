/- The answer at the end of a walk holds: in plain numbers. -/
import Derived.Test.YtipcbhodlgoflabSlvWA
import Derived.Test.YtipcbhodlgoflabPlnB
namespace Go.Proofs.Ytipcbhodlgoflab
namespace Num

end Num
end Go.Proofs.Ytipcbhodlgoflab

/- Of all sets of columns one leads to an answer: in plain numbers. -/
namespace Go.Proofs.Ytipcbhodlgoflab
namespace Num

def setOf (at' : List Int) : Nat := (at'.map fun x => 2 ^ x.toNat).foldl (· + ·) 0

theorem sets_all : ∀ n m : Fin 4, (allC (m + 1) (n + 1 + (m + 1))).all (fun l => decide (0 < setOf l) && decide (setOf l < 2 ^ (n.val + 1 + (m.val + 1))) && (membersTo (setOf l) 8 == l)) = true := by decide +kernel

/-- All columns that are right are the bits of a number. -/
theorem sets_come (at' : List Int) (m n : Nat) (h1 : 1 ≤ m) (h4 : m ≤ 4) (hn1 : 1 ≤ n) (hn4 : n ≤ 4) (hr : rightB at' m (n + m) = true) : ∃ q, 0 < q ∧ q < 2 ^ (n + m) ∧ membersTo q 8 = at' := by
  have hmem := all_come at' m n h1 h4 hn1 hn4 hr
  obtain ⟨m, rfl⟩ : ∃ k, m = k + 1 := ⟨m - 1, by omega⟩
  obtain ⟨n, rfl⟩ : ∃ k, n = k + 1 := ⟨n - 1, by omega⟩
  have h := sets_all ⟨n, by omega⟩ ⟨m, by omega⟩
  rw [List.all_eq_true] at h
  have := h at' hmem
  simp only [Bool.and_eq_true, decide_eq_true_eq, beq_iff_eq] at this
  exact ⟨setOf at', this.1.1, this.1.2, this.2⟩

/-- What a corner that is handed on tells. -/
theorem ok_right (p : Lp) (at' : List Int) (m n : Nat) (hm : m = p.rows.length) (hn : n = p.costs.length) (h : (look p at').err = 0) : rightB at' m (n + m) = true ∧ denL p at' m ≠ 0 := by
  unfold look at h
  split at h
  · simp [noLook] at h
  · split at h
    · simp [noLook] at h
    · split at h
      · simp [noLook] at h
      · rename_i h2 h3
        rw [← hm, ← hn] at h2
        rw [← hm] at h3
        exact ⟨by simpa using h2, h3⟩

end Num
end Go.Proofs.Ytipcbhodlgoflab
