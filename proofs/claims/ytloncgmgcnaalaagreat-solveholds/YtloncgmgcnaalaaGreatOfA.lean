/- What cornerwalkref1.Of does. -/
import Derived.Test.YtloncgmgcnaalaaGreatLayG
import Derived.Test.YtloncgmgcnaalaaGreatCornV
namespace Go.Proofs.YtloncgmgcnaalaaGreat
open Go.RowKit

theorem two_set5 {w : World} {b : Nat} {a0 a1 : Value} (c0 : w.cell? ⟨b, 0, none⟩ = some a0) (c1 : w.cell? ⟨b, 1, none⟩ = some a1) (u v : Value) (o : Obj) (X : World) (hX : X = ((w.setCell ⟨b, 0, none⟩ u).setCell ⟨b, 1, none⟩ v).alloc o) :
    X.cell? ⟨b, 0, none⟩ = some u ∧ X.cell? ⟨b, 1, none⟩ = some v := by
  subst hX
  have e0 : ((w.setCell ⟨b, 0, none⟩ u).setCell ⟨b, 1, none⟩ v).cell? ⟨b, 0, none⟩ = some u := by rw [cell_set_ne (by decide)]; exact cell_set_eq c0
  have e1 : ((w.setCell ⟨b, 0, none⟩ u).setCell ⟨b, 1, none⟩ v).cell? ⟨b, 1, none⟩ = some v := cell_set_eq (by rw [cell_set_ne (by decide)]; exact c1)
  exact ⟨carry (balloc _ _) e0, carry (balloc _ _) e1⟩

end Go.Proofs.YtloncgmgcnaalaaGreat
