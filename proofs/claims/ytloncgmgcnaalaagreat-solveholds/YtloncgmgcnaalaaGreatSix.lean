/- A box of six cells. -/
import Derived.Test.YtloncgmgcnaalaaGreatHeldA
import Derived.Test.YtloncgmgcnaalaaGreatCornV
namespace Go.Proofs.YtloncgmgcnaalaaGreat
open Go.RowKit

/-- A box of six cells from b on, all below b being as in V. -/
structure Six (V : World) (b : Nat) (v0 v1 v2 v3 v4 v5 : Value) (w : World) : Prop where
  bel : Below V.heap.size V w
  lo : V.heap.size ≤ b
  c0 : w.cell? ⟨b, 0, none⟩ = some v0
  c1 : w.cell? ⟨b, 1, none⟩ = some v1
  c2 : w.cell? ⟨b, 2, none⟩ = some v2
  c3 : w.cell? ⟨b, 3, none⟩ = some v3
  c4 : w.cell? ⟨b, 4, none⟩ = some v4
  c5 : w.cell? ⟨b, 5, none⟩ = some v5
  fz : ∀ i, w.frozen? ⟨b, i, none⟩ = false

theorem Six.new (V : World) (v0 v1 v2 v3 v4 v5 : Value) (t : TypeId) : Six V V.heap.size v0 v1 v2 v3 v4 v5 (V.alloc (.cells #[v0, v1, v2, v3, v4, v5] t)) :=
  ⟨balloc _ _, Nat.le_refl _, by simp, by simp, by simp, by simp, by simp, by simp, fun i => by go_simp⟩

theorem Six.hi {V : World} {b : Nat} {v0 v1 v2 v3 v4 v5 : Value} {w : World} (h : Six V b v0 v1 v2 v3 v4 v5 w) : b < w.heap.size := World.block_lt_of_cell? w _ h.c0

theorem Six.step {V : World} {b : Nat} {v0 v1 v2 v3 v4 v5 : Value} {w w' : World} (h : Six V b v0 v1 v2 v3 v4 v5 w) (hb : Below w.heap.size w w') : Six V b v0 v1 v2 v3 v4 v5 w' :=
  ⟨bstep h.bel hb, h.lo, carry hb h.c0, carry hb h.c1, carry hb h.c2, carry hb h.c3, carry hb h.c4, carry hb h.c5, fun i => by rw [hb.frozen (p := ⟨b, i, none⟩) h.hi]; exact h.fz i⟩

theorem Six.set01 {V : World} {b : Nat} {v0 v1 v2 v3 v4 v5 : Value} {w : World} (h : Six V b v0 v1 v2 v3 v4 v5 w) (u u' : Value) : Six V b u u' v2 v3 v4 v5 ((w.setCell ⟨b, 0, none⟩ u).setCell ⟨b, 1, none⟩ u') :=
  ⟨bset (bset h.bel h.lo _) h.lo _, h.lo, by rw [cell_set_ne (by decide)]; exact cell_set_eq h.c0, cell_set_eq (by rw [cell_set_ne (by decide)]; exact h.c1), by rw [cell_set_ne (by decide), cell_set_ne (by decide)]; exact h.c2, by rw [cell_set_ne (by decide), cell_set_ne (by decide)]; exact h.c3,
    by rw [cell_set_ne (by decide), cell_set_ne (by decide)]; exact h.c4, by rw [cell_set_ne (by decide), cell_set_ne (by decide)]; exact h.c5, fun i => by simpa using h.fz i⟩

theorem Six.set23 {V : World} {b : Nat} {v0 v1 v2 v3 v4 v5 : Value} {w : World} (h : Six V b v0 v1 v2 v3 v4 v5 w) (u u' : Value) : Six V b v0 v1 u u' v4 v5 ((w.setCell ⟨b, 2, none⟩ u).setCell ⟨b, 3, none⟩ u') :=
  ⟨bset (bset h.bel h.lo _) h.lo _, h.lo, by rw [cell_set_ne (by decide), cell_set_ne (by decide)]; exact h.c0, by rw [cell_set_ne (by decide), cell_set_ne (by decide)]; exact h.c1, by rw [cell_set_ne (by decide)]; exact cell_set_eq h.c2, cell_set_eq (by rw [cell_set_ne (by decide)]; exact h.c3),
    by rw [cell_set_ne (by decide), cell_set_ne (by decide)]; exact h.c4, by rw [cell_set_ne (by decide), cell_set_ne (by decide)]; exact h.c5, fun i => by simpa using h.fz i⟩

theorem Six.set45 {V : World} {b : Nat} {v0 v1 v2 v3 v4 v5 : Value} {w : World} (h : Six V b v0 v1 v2 v3 v4 v5 w) (u u' : Value) : Six V b v0 v1 v2 v3 u u' ((w.setCell ⟨b, 4, none⟩ u).setCell ⟨b, 5, none⟩ u') :=
  ⟨bset (bset h.bel h.lo _) h.lo _, h.lo, by rw [cell_set_ne (by decide), cell_set_ne (by decide)]; exact h.c0, by rw [cell_set_ne (by decide), cell_set_ne (by decide)]; exact h.c1, by rw [cell_set_ne (by decide), cell_set_ne (by decide)]; exact h.c2, by rw [cell_set_ne (by decide), cell_set_ne (by decide)]; exact h.c3,
    by rw [cell_set_ne (by decide)]; exact cell_set_eq h.c4, cell_set_eq (by rw [cell_set_ne (by decide)]; exact h.c5), fun i => by simpa using h.fz i⟩

theorem six_set' {w : World} {b : Nat} {a0 a1 a2 a3 a4 a5 : Value} (c0 : w.cell? ⟨b, 0, none⟩ = some a0) (c1 : w.cell? ⟨b, 1, none⟩ = some a1) (c2 : w.cell? ⟨b, 2, none⟩ = some a2) (c3 : w.cell? ⟨b, 3, none⟩ = some a3) (c4 : w.cell? ⟨b, 4, none⟩ = some a4) (c5 : w.cell? ⟨b, 5, none⟩ = some a5)
    (u0 u1 u2 u3 u4 u5 : Value) (X : World) (hX : X = ((((((w.setCell ⟨b, 0, none⟩ u0).setCell ⟨b, 1, none⟩ u1).setCell ⟨b, 2, none⟩ u2).setCell ⟨b, 3, none⟩ u3).setCell ⟨b, 4, none⟩ u4).setCell ⟨b, 5, none⟩ u5)) :
    X.cell? ⟨b, 0, none⟩ = some u0 ∧ X.cell? ⟨b, 1, none⟩ = some u1 ∧ X.cell? ⟨b, 2, none⟩ = some u2 ∧ X.cell? ⟨b, 3, none⟩ = some u3 ∧ X.cell? ⟨b, 4, none⟩ = some u4 ∧ X.cell? ⟨b, 5, none⟩ = some u5 := by
  subst hX
  refine ⟨?_, ?_, ?_, ?_, ?_, ?_⟩
  · rw [cell_set_ne (by decide), cell_set_ne (by decide), cell_set_ne (by decide), cell_set_ne (by decide), cell_set_ne (by decide)]; exact cell_set_eq c0
  · rw [cell_set_ne (by decide), cell_set_ne (by decide), cell_set_ne (by decide), cell_set_ne (by decide)]; exact cell_set_eq (by rw [cell_set_ne (by decide)]; exact c1)
  · rw [cell_set_ne (by decide), cell_set_ne (by decide), cell_set_ne (by decide)]; exact cell_set_eq (by rw [cell_set_ne (by decide), cell_set_ne (by decide)]; exact c2)
  · rw [cell_set_ne (by decide), cell_set_ne (by decide)]; exact cell_set_eq (by rw [cell_set_ne (by decide), cell_set_ne (by decide), cell_set_ne (by decide)]; exact c3)
  · rw [cell_set_ne (by decide)]; exact cell_set_eq (by rw [cell_set_ne (by decide), cell_set_ne (by decide), cell_set_ne (by decide), cell_set_ne (by decide)]; exact c4)
  · exact cell_set_eq (by rw [cell_set_ne (by decide), cell_set_ne (by decide), cell_set_ne (by decide), cell_set_ne (by decide), cell_set_ne (by decide)]; exact c5)

end Go.Proofs.YtloncgmgcnaalaaGreat
