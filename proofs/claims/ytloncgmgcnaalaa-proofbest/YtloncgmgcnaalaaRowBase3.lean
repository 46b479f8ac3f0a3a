/- How an argument is read: a slice of ints. -/
import Derived.Test.YtloncgmgcnaalaaRowBase2
namespace Go.Proofs.Ytloncgmgcnaalaa
open Go.ChangeShapes Go.WideShapes Go.ChangeAt Go.RowKit Go.Joins

theorem trod_intsI {H : Type} {enc : TypeId × Value → H} {W : World} {base fuel : Nat} {v : Value} {x : DataW H × List MemPlace}
    (h : DataW.trod enc Try.prog W base (fun _ => true) true fuel 45 [v] = some x) :
    ∃ a len cap l, v = .slice a len cap ∧ Ints W a len l ∧ (∀ n ∈ l, (Lit.int .i64 n).wf = true) ∧ SliceDatum x.1 len ∧ len ≤ maxLen := by
  rcases open_ints Try.underlying45 Try.underlying3 (by kernel_rfl) h with ⟨hcs, hx⟩ | ⟨a, len, cap, zs, hcs, _, hlc, hm, hz, hx, hcell, hwz⟩
  · simp only [List.cons.injEq, and_true] at hcs
    exact ⟨none, 0, 0, [], hcs, ⟨rfl, Or.inl rfl⟩, by simp, Or.inl ⟨by rw [hx], rfl⟩, by unfold maxLen; omega⟩
  · simp only [List.cons.injEq, and_true] at hcs
    simp only [if_true] at hz
    refine ⟨some a, len, cap, zs.take len, hcs, ⟨by simp; omega, ?_⟩, fun n hn => hwz n (List.mem_of_mem_take hn), Or.inr ⟨lits .i64 (zs.take len), lits .i64 (zs.drop len), by rw [hx], by simp [lits]; omega⟩, by omega⟩
    by_cases h0 : len = 0
    · exact Or.inl h0
    · obtain ⟨b, off, rfl, hc⟩ := ints_at hcell (by omega)
      refine Or.inr ⟨b, off, rfl, World.block_lt_of_cell? W _ (hc 0 (by omega)), fun j hj => ?_⟩
      rw [hc j (by omega), List.getElem?_take_of_lt hj]
      simp [List.getD]

set_option maxRecDepth 100000 in
theorem open_intsI {H : Type} {enc : TypeId × Value → H} {W : World} {base b0 : Nat} {r : Reach} {v : Value} {d : DataW H} {p : List MemPlace}
    (hv : Value.okWide Try.prog W r b0 45 v) (h : DataW.Trod enc Try.prog W base (fun _ => true) true 45 v d p) :
    ∃ a len cap l, v = .slice a len cap ∧ Ints W a len l ∧ (∀ n ∈ l, (Lit.int .i64 n).wf = true) ∧ SliceDatum d len ∧ len ≤ maxLen := by
  obtain ⟨a, len, cap, rfl⟩ := okWide_slice Try.underlying45 hv
  obtain ⟨fuel, hf⟩ := h
  exact trod_intsI (by simpa [Value.cells] using hf)

end Go.Proofs.Ytloncgmgcnaalaa
