/- What proof.isThere and proof.partsOf do. -/
import Derived.Test.YtipcbhodlgoflabPrfN
import Derived.Test.YtipcbhodlgoflabLayH
namespace Go.Proofs.Ytipcbhodlgoflab
open Go.RowKit

/-- A box of nine cells. -/
structure Nine (b : Nat) (c0 c1 c2 c3 c4 c5 c6 c7 c8 : Value) (w : World) : Prop where
  n0 : w.cell? ⟨b, 0, none⟩ = some c0
  n1 : w.cell? ⟨b, 1, none⟩ = some c1
  n2 : w.cell? ⟨b, 2, none⟩ = some c2
  n3 : w.cell? ⟨b, 3, none⟩ = some c3
  n4 : w.cell? ⟨b, 4, none⟩ = some c4
  n5 : w.cell? ⟨b, 5, none⟩ = some c5
  n6 : w.cell? ⟨b, 6, none⟩ = some c6
  n7 : w.cell? ⟨b, 7, none⟩ = some c7
  n8 : w.cell? ⟨b, 8, none⟩ = some c8

theorem Nine.new (w : World) (c0 c1 c2 c3 c4 c5 c6 c7 c8 : Value) (t : TypeId) : Nine w.heap.size c0 c1 c2 c3 c4 c5 c6 c7 c8 (w.alloc (.cells #[c0, c1, c2, c3, c4, c5, c6, c7, c8] t)) :=
  ⟨by simp, by simp, by simp, by simp, by simp, by simp, by simp, by simp, by simp⟩

theorem Nine.step {b : Nat} {c0 c1 c2 c3 c4 c5 c6 c7 c8 : Value} {w w' : World} (h : Nine b c0 c1 c2 c3 c4 c5 c6 c7 c8 w) (hb : Below w.heap.size w w') : Nine b c0 c1 c2 c3 c4 c5 c6 c7 c8 w' :=
  ⟨carry hb h.n0, carry hb h.n1, carry hb h.n2, carry hb h.n3, carry hb h.n4, carry hb h.n5, carry hb h.n6, carry hb h.n7, carry hb h.n8⟩

theorem Nine.lt {b : Nat} {c0 c1 c2 c3 c4 c5 c6 c7 c8 : Value} {w : World} (h : Nine b c0 c1 c2 c3 c4 c5 c6 c7 c8 w) : b < w.heap.size := World.block_lt_of_cell? w _ h.n0

/-- Below B all is as it was; block r, from B on, has n cells. -/
structure HeldN (B : Nat) (V : World) (r n : Nat) (w : World) : Prop where
  bel : Below B V w
  lo : B ≤ r
  many : ∃ cs t, w.heap[r]? = some (.cells cs t (0, 0)) ∧ cs.size = n

theorem HeldN.drew {B : Nat} {V : World} {r n : Nat} {w : World} (h : HeldN B V r n w) : HeldN B V r n w.drew := ⟨h.bel.drew, h.lo, h.many⟩

theorem HeldN.lt {B : Nat} {V : World} {r n : Nat} {w : World} (h : HeldN B V r n w) : r < w.heap.size := by
  obtain ⟨cs, t, e, _⟩ := h.many
  rcases Nat.lt_or_ge r w.heap.size with h | h
  · exact h
  · rw [Array.getElem?_eq_none h] at e; cases e

theorem HeldN.step {B : Nat} {V : World} {r n : Nat} {w w' : World} (h : HeldN B V r n w) (k : Below w.heap.size w w') : HeldN B V r n w' := by
  have hr := h.lt
  refine ⟨h.bel.trans (k.mono (by have := h.lo; omega)), h.lo, ?_⟩
  obtain ⟨cs, t, e, hs⟩ := h.many
  exact ⟨cs, t, by rw [k.block r hr]; exact e, hs⟩

theorem HeldN.set {B : Nat} {V : World} {r n : Nat} {w : World} (h : HeldN B V r n w) (i : Nat) (u : Value) : HeldN B V r n (w.setCell ⟨r, i, none⟩ u) := by
  refine ⟨h.bel.setCell h.lo _, h.lo, ?_⟩
  obtain ⟨cs, t, e, hs⟩ := h.many
  exact ⟨_, t, Joins.block_setCell (i := i) e u, by simpa using hs⟩

theorem HeldN.cell {B : Nat} {V : World} {r n i : Nat} (hi : i < n) : ∃ F : World → Value, (∀ w, HeldN B V r n w → w.cell? ⟨r, i, none⟩ = some (F w)) ∧ (∀ w, HeldN B V r n w → w.frozen? ⟨r, i, none⟩ = false) := by
  refine ⟨fun w => (w.cell? ⟨r, i, none⟩).getD undef, ?_, ?_⟩
  · intro w h
    obtain ⟨cs, t, e, hs⟩ := h.many
    show w.cell? ⟨r, i, none⟩ = some ((w.cell? ⟨r, i, none⟩).getD undef)
    rw [Joins.cell_of_block e, Array.getElem?_eq_getElem (by omega)]
    rfl
  · intro w h
    obtain ⟨cs, t, e, _⟩ := h.many
    exact Joins.unfrozen_of_block e i

end Go.Proofs.Ytipcbhodlgoflab

/- What proof.priced and proof.covers do. -/
namespace Go.Proofs.Ytipcbhodlgoflab
open Go.RowKit

end Go.Proofs.Ytipcbhodlgoflab

/- What proof.leveled does. -/
namespace Go.Proofs.Ytipcbhodlgoflab
open Go.RowKit

/-- Rows of the call's own, the first k of them with the numbers of rs, and 0. -/
structure LRows (B : Nat) (V : World) (r n k : Nat) (W0 : World) (rs : List (List Int × Int)) (w : World) : Prop where
  held : HeldN B V r (n * 2) w
  rows : ∀ j, j < k → ∃ ra rl rc, w.cell? ⟨r, j * 2, none⟩ = some (.slice ra rl rc) ∧ w.cell? ⟨r, j * 2 + 1, none⟩ = some (.int .i64 0) ∧ Ints W0 ra rl (rs[j]?.getD ([], 0)).1 ∧ rl ≤ 9223372036854775807

theorem LRows.step {B : Nat} {V : World} {r n k : Nat} {W0 : World} {rs : List (List Int × Int)} {w w' : World} (h : LRows B V r n k W0 rs w) (hb : Below w.heap.size w w') : LRows B V r n k W0 rs w' := by
  refine ⟨h.held.step hb, fun j hj => ?_⟩
  obtain ⟨ra, rl, rc, c0, c1, hi, hl⟩ := h.rows j hj
  exact ⟨ra, rl, rc, carry hb c0, carry hb c1, hi, hl⟩

theorem LRows.push {B : Nat} {V : World} {r n k : Nat} {W0 : World} {rs : List (List Int × Int)} {w : World} (h : LRows B V r n k W0 rs w) (hk : k < n) (ra : Option Addr) (rl rc : Nat) (hi : Ints W0 ra rl (rs[k]?.getD ([], 0)).1) (hl : rl ≤ 9223372036854775807) :
    LRows B V r n (k + 1) W0 rs ((w.setCell ⟨r, k * 2, none⟩ (.slice ra rl rc)).setCell ⟨r, k * 2 + 1, none⟩ (.int .i64 0)) := by
  obtain ⟨F0, f0, _⟩ := HeldN.cell (B := B) (V := V) (r := r) (n := n * 2) (i := k * 2) (by omega)
  obtain ⟨F1, f1, _⟩ := HeldN.cell (B := B) (V := V) (r := r) (n := n * 2) (i := k * 2 + 1) (by omega)
  refine ⟨(h.held.set _ _).set _ _, fun j hj => ?_⟩
  by_cases hjk : j < k
  · obtain ⟨ra', rl', rc', c0, c1, hi', hl'⟩ := h.rows j hjk
    exact ⟨ra', rl', rc', by rw [cell_set_ne (by omega), cell_set_ne (by omega)]; exact c0, by rw [cell_set_ne (by omega), cell_set_ne (by omega)]; exact c1, hi', hl'⟩
  · obtain rfl : j = k := by omega
    exact ⟨ra, rl, rc, by rw [cell_set_ne (by omega)]; exact cell_set_eq (f0 w h.held), cell_set_eq (by rw [cell_set_ne (by omega)]; exact f1 w h.held), hi, hl⟩

theorem LRows.done {B : Nat} {V : World} {r n : Nat} {W0 : World} {rs : List (List Int × Int)} {w w' : World} (h : LRows B V r n n W0 rs w) (hn : n = rs.length) (hc : ∀ i, w'.cell? ⟨r, i, none⟩ = w.cell? ⟨r, i, none⟩) (hs : r < w'.heap.size) (hb : Below W0.heap.size W0 w') : RowsAt w' (some ⟨r, 0, none⟩) n (rs.map fun q => (q.1, 0)) := by
  refine ⟨by rw [List.length_map]; exact hn, Or.inr ⟨r, 0, rfl, hs, fun j hj => ?_⟩⟩
  obtain ⟨ra, rl, rc, c0, c1, hi, hl⟩ := h.rows j hj
  have e : (rs.map fun q => (q.1, (0 : Int)))[j]?.getD ([], 0) = ((rs[j]?.getD ([], 0)).1, 0) := by
    rw [List.getElem?_map, List.getElem?_eq_getElem (by omega)]; rfl
  rw [e]
  exact ⟨ra, rl, rc, by rw [Nat.zero_add, hc]; exact c0, by rw [Nat.zero_add, hc]; exact c1, hi.below hb (Nat.le_refl _), hl⟩

end Go.Proofs.Ytipcbhodlgoflab

/- What proof.isNothing does. -/
namespace Go.Proofs.Ytipcbhodlgoflab
open Go.RowKit

section
variable {P : Program} {l : List Oper} {Q : Exit → Act → World → Prop} {md : Region.Mode} {S : World → Prop}

end

end Go.Proofs.Ytipcbhodlgoflab

/- What proof.isEndless does. -/
namespace Go.Proofs.Ytipcbhodlgoflab
open Go.RowKit

end Go.Proofs.Ytipcbhodlgoflab

/- What proof.isBest does. -/
namespace Go.Proofs.Ytipcbhodlgoflab
open Go.RowKit

end Go.Proofs.Ytipcbhodlgoflab

/- What proof.Holds does. -/
namespace Go.Proofs.Ytipcbhodlgoflab
open Go.RowKit

end Go.Proofs.Ytipcbhodlgoflab
