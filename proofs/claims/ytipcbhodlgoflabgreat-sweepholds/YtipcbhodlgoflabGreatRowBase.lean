/- How an argument is read: a slice of 64-bit numbers, a fraction. -/
import Derived.Test.YtipcbhodlgoflabGreatRows
import Derived.Test.YtipcbhodlgoflabGreatBaseA
import Derived.ProofKit
import Derived.OpenShut
import Derived.ShutString
import Derived.ChangeOld
import Derived.SizedLaws
import Derived.Lib.SmallJoins
namespace Go.Proofs.YtipcbhodlgoflabGreat
open Go.ChangeShapes Go.WideShapes Go.ChangeAt Go.RowKit Go.Joins

theorem own : ownKnob Tryz.prog.godebug = none := by kernel_rfl
theorem laidOut : laidOutB Tryz.prog = true := by kernel_rfl
/-- What is told of the datum of a slice: nil, or so many elements. -/
def SliceDatum {H : Type} (d : DataW H) (len : Nat) : Prop := (d = .nil ∧ len = 0) ∨ ∃ es sp : List (DataW H), d = .slice es sp ∧ es.length = len

theorem trod_ints64 {H : Type} {enc : TypeId × Value → H} {W : World} {base fuel : Nat} {v : Value} {x : DataW H × List MemPlace}
    (h : DataW.trod enc Tryz.prog W base (fun _ => true) true fuel 22 [v] = some x) :
    ∃ a len cap l, v = .slice a len cap ∧ Ints W a len l ∧ (∀ n ∈ l, (Lit.int .i64 n).wf = true) ∧ SliceDatum x.1 len ∧ len ≤ maxLen := by
  rcases open_ints Tryz.underlying22 Tryz.underlying2 (by kernel_rfl) h with ⟨hcs, hx⟩ | ⟨a, len, cap, zs, hcs, _, hlc, hm, hz, hx, hcell, hwz⟩
  · simp only [List.cons.injEq, and_true] at hcs
    exact ⟨none, 0, 0, [], hcs, ⟨rfl, Or.inl rfl⟩, by simp, Or.inl ⟨by rw [hx], rfl⟩, by unfold maxLen; omega⟩
  · simp only [List.cons.injEq, and_true] at hcs
    simp only [if_true] at hz
    refine ⟨some a, len, cap, zs.take len, hcs, ⟨by simp; omega, ?_⟩, fun n hn => hwz n (List.mem_of_mem_take hn), Or.inr ⟨lits .i64 (zs.take len), lits .i64 (zs.drop len), by rw [hx], by simp [lits]; omega⟩, by omega⟩
    by_cases h0 : len = 0
    · exact Or.inl h0
    · obtain ⟨b, off, rfl, hc⟩ := ints_at hcell (by omega)
      refine Or.inr ⟨b, off, rfl, World.block_lt_of_cell? W _ (hc 0 (by omega)), fun j hj => ?_⟩
      rw [hc j (by omega), List.getElem?_take_of_lt hj]
      simp [List.getD]

theorem open_ints64 {H : Type} {enc : TypeId × Value → H} {W : World} {base : Nat} {v : Value} {d : DataW H} {p : List MemPlace}
    (hv : ∃ a len cap, v = .slice a len cap) (h : DataW.Trod enc Tryz.prog W base (fun _ => true) true 22 v d p) :
    ∃ a len cap l, v = .slice a len cap ∧ Ints W a len l ∧ (∀ n ∈ l, (Lit.int .i64 n).wf = true) ∧ SliceDatum d len ∧ len ≤ maxLen := by
  obtain ⟨a, len, cap, rfl⟩ := hv
  obtain ⟨fuel, hf⟩ := h
  exact trod_ints64 (by simpa [Value.cells] using hf)

end Go.Proofs.YtipcbhodlgoflabGreat
