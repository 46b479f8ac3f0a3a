/- What a region that draws its order, with calls and with a store of a result of two cells, keeps. -/
import Derived.Test.YtipcbhodlgoflabBaseA
import Derived.Deep.RegionHeld3
import Derived.Lib.SmallJoins
namespace Go.Proofs.Ytipcbhodlgoflab
open Go.RowKit

/-- Below B all is as it was; block r, from B on, has two cells. -/
structure Held (B : Nat) (V : World) (r : Nat) (w : World) : Prop where
  bel : Below B V w
  two : ∃ a b t, w.heap[r]? = some (.cells #[a, b] t (0, 0))

theorem heap_new {w : World} {k : Nat} (hk : k = w.heap.size) (o : Obj) : (w.alloc o).heap[k]? = some o := by
  subst hk; show (w.heap.push o)[w.heap.size]? = some o; simp

/-- What a cell holds is there behind a callee that writes nothing that was there. -/
theorem carry {w w' : World} (k : Below w.heap.size w w') {p : Addr} {v : Value} (h : w.cell? p = some v) : w'.cell? p = some v := by
  rw [k.cell (World.block_lt_of_cell? w p h)]; exact h

theorem carryF {w w' : World} (k : Below w.heap.size w w') {p : Addr} {v : Value} (h : w.cell? p = some v) (hf : w.frozen? p = false) : w'.frozen? p = false := by
  rw [k.frozen (World.block_lt_of_cell? w p h)]; exact hf

/-- Two cells that were laid just ahead of a callee. -/
theorem kept2 {w w' : World} {a b : Value} {t : TypeId} (k : Below (w.alloc (.cells #[a, b] t)).heap.size (w.alloc (.cells #[a, b] t)) w') :
    (w'.cell? ⟨w.heap.size, 0, none⟩ = some a ∧ w'.cell? ⟨w.heap.size, 1, none⟩ = some b) ∧ (w'.frozen? ⟨w.heap.size, 0, none⟩ = false ∧ w'.frozen? ⟨w.heap.size, 1, none⟩ = false) :=
  ⟨⟨carry k (cell_new2 rfl a b t).1, carry k (cell_new2 rfl a b t).2⟩, carryF k (cell_new2 rfl a b t).1 (by go_simp), carryF k (cell_new2 rfl a b t).2 (by go_simp)⟩

theorem kept2d {w w' : World} {a b : Value} {t : TypeId} (k : Below (w.alloc (.cells #[a, b] t)).drew.heap.size (w.alloc (.cells #[a, b] t)).drew w') :
    (w'.cell? ⟨w.heap.size, 0, none⟩ = some a ∧ w'.cell? ⟨w.heap.size, 1, none⟩ = some b) ∧ (w'.frozen? ⟨w.heap.size, 0, none⟩ = false ∧ w'.frozen? ⟨w.heap.size, 1, none⟩ = false) :=
  kept2 (((Below.refl _ _).drew).trans k)

theorem carry2 {w w' : World} (k : Below w.heap.size w w') {p q : Addr} {a b : Value} (h : (w.cell? p = some a ∧ w.cell? q = some b) ∧ (w.frozen? p = false ∧ w.frozen? q = false)) :
    (w'.cell? p = some a ∧ w'.cell? q = some b) ∧ (w'.frozen? p = false ∧ w'.frozen? q = false) :=
  ⟨⟨carry k h.1.1, carry k h.1.2⟩, carryF k h.1.1 h.2.1, carryF k h.1.2 h.2.2⟩

theorem Held.drew {B : Nat} {V : World} {r : Nat} {w : World} (h : Held B V r w) : Held B V r w.drew := ⟨h.bel.drew, h.two⟩

theorem Held.step {B : Nat} {V : World} {r : Nat} {w w' : World} (h : Held B V r w) (k : Below w.heap.size w w') (hB : B ≤ w.heap.size) : Held B V r w' := by
  refine ⟨h.bel.trans (k.mono hB), ?_⟩
  obtain ⟨a, b, t, e⟩ := h.two
  have hr : r < w.heap.size := by
    rcases Nat.lt_or_ge r w.heap.size with h | h
    · exact h
    · rw [Array.getElem?_eq_none h] at e; cases e
  exact ⟨a, b, t, by rw [k.block r hr]; exact e⟩

theorem Held.set {B : Nat} {V : World} {r : Nat} {w : World} (h : Held B V r w) (hB : B ≤ r) (i : Nat) (u : Value) (hi : i < 2) : Held B V r (w.setCell ⟨r, i, none⟩ u) := by
  refine ⟨h.bel.setCell hB _, ?_⟩
  obtain ⟨a, b, t, e⟩ := h.two
  match i, hi with
  | 0, _ => exact ⟨u, b, t, by simpa using Joins.block_setCell (i := 0) e u⟩
  | 1, _ => exact ⟨a, u, t, by simpa using Joins.block_setCell (i := 1) e u⟩

theorem Held.cells {B : Nat} {V : World} {r : Nat} : ∃ F G : World → Value, (∀ w, Held B V r w → w.cell? ⟨r, 0, none⟩ = some (F w)) ∧ (∀ w, Held B V r w → w.cell? ⟨r, 1, none⟩ = some (G w)) ∧
    (∀ w, Held B V r w → w.frozen? ⟨r, 0, none⟩ = false) ∧ (∀ w, Held B V r w → w.frozen? ⟨r, 1, none⟩ = false) := by
  refine ⟨fun w => (w.cell? ⟨r, 0, none⟩).getD undef, fun w => (w.cell? ⟨r, 1, none⟩).getD undef, ?_, ?_, ?_, ?_⟩
  · intro w h; obtain ⟨a, b, t, e⟩ := h.two; show w.cell? ⟨r, 0, none⟩ = some ((w.cell? ⟨r, 0, none⟩).getD undef); rw [Joins.cell_of_block e]; simp
  · intro w h; obtain ⟨a, b, t, e⟩ := h.two; show w.cell? ⟨r, 1, none⟩ = some ((w.cell? ⟨r, 1, none⟩).getD undef); rw [Joins.cell_of_block e]; simp
  · intro w h; obtain ⟨a, b, t, e⟩ := h.two; exact Joins.unfrozen_of_block e 0
  · intro w h; obtain ⟨a, b, t, e⟩ := h.two; exact Joins.unfrozen_of_block e 1

end Go.Proofs.Ytipcbhodlgoflab

/- Stores into one cell, and what the others hold. -/
namespace Go.Proofs.Ytipcbhodlgoflab
open Go.RowKit

theorem cell_set_ne {v : World} {b i j : Nat} {u : Value} (h : i ≠ j) : (v.setCell ⟨b, j, none⟩ u).cell? ⟨b, i, none⟩ = v.cell? ⟨b, i, none⟩ := World.cell?_setCell_other _ _ _ _ (fun e => h (by injection e with _ e2; exact e2.symm))
theorem cell_set_eq {v : World} {b j : Nat} {u a : Value} (h : v.cell? ⟨b, j, none⟩ = some a) : (v.setCell ⟨b, j, none⟩ u).cell? ⟨b, j, none⟩ = some u := World.cell?_setCell_same' _ _ _ (by rw [h]; rfl)

end Go.Proofs.Ytipcbhodlgoflab

/- What frac.MayPoint, layout.fits, layout.Goes and layout.Worth do. -/
namespace Go.Proofs.Ytipcbhodlgoflab
open Go.RowKit

theorem bstep {V w1 w2 : World} (h : Below V.heap.size V w1) (k : Below w1.heap.size w1 w2) : Below V.heap.size V w2 := h.trans (k.mono h.size)

end Go.Proofs.Ytipcbhodlgoflab

/- What layout.Goes and layout.Worth do. -/
namespace Go.Proofs.Ytipcbhodlgoflab
open Go.RowKit

theorem below_of_drew {P : Program} {f : FuncId} {args : Array Value} {w : World} {v : Value} (h : Calls P f args w fun e w' => e = .returned v ∧ ∃ n, w' = w.drewN n) : Calls P f args w fun e w' => e = .returned v ∧ Below w.heap.size w w' :=
  h.mono fun _ w' ⟨he, n, hn⟩ => ⟨he, by rw [hn]; exact bdrewN (Below.refl _ _) n⟩

/-- What a point is worth. -/
def Num.worth (p : Num.Lp) (x : List Int) (d : Int) : Int × Int × Int := if p.fits x d = true then Num.mk (Num.dotN p.costs x x.length) d else (0, 0, 2)

end Go.Proofs.Ytipcbhodlgoflab
