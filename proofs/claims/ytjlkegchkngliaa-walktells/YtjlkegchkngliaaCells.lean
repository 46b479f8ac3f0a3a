/- Stores into one cell, and what the others hold. -/
import Derived.Test.YtjlkegchkngliaaHeld
namespace Go.Proofs.Ytjlkegchkngliaa
open Go.RowKit

theorem cell_set_ne {v : World} {b i j : Nat} {u : Value} (h : i ≠ j) : (v.setCell ⟨b, j, none⟩ u).cell? ⟨b, i, none⟩ = v.cell? ⟨b, i, none⟩ := World.cell?_setCell_other _ _ _ _ (fun e => h (by injection e with _ e2; exact e2.symm))
theorem cell_set_eq {v : World} {b j : Nat} {u a : Value} (h : v.cell? ⟨b, j, none⟩ = some a) : (v.setCell ⟨b, j, none⟩ u).cell? ⟨b, j, none⟩ = some u := World.cell?_setCell_same' _ _ _ (by rw [h]; rfl)

end Go.Proofs.Ytjlkegchkngliaa
