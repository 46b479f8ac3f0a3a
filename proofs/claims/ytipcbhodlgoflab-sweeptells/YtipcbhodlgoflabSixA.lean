/- A box of six cells. -/
import Derived.Test.YtipcbhodlgoflabLayH
import Derived.Test.YtipcbhodlgoflabCornW
import Derived.Test.YtipcbhodlgoflabCornL
namespace Go.Proofs.Ytipcbhodlgoflab
open Go.RowKit

/-- A box of six cells from b on, all below b being as in V. -/
structure Six (V : World) (b : Nat) (v0 v1 v2 v3 v4 v5 : Value) (w : World) : Prop where
  bel : Below V.heap.size V w
  lo : V.heap.size ≤ b
  c0 : w.cell? ⟨b, 0, none⟩ = some v0
  c1 : w.cell? ⟨b, 1, none⟩ = some v1
  c2 : w.cell? ⟨b, 2, none⟩ = some v2
  c3 : w.cell? ⟨b, 3, none⟩ = some v3
  c4 : w.cell? ⟨b, 4, none⟩ = some v4
  c5 : w.cell? ⟨b, 5, none⟩ = some v5
  fz : ∀ i, w.frozen? ⟨b, i, none⟩ = false

theorem Six.new (V : World) (v0 v1 v2 v3 v4 v5 : Value) (t : TypeId) : Six V V.heap.size v0 v1 v2 v3 v4 v5 (V.alloc (.cells #[v0, v1, v2, v3, v4, v5] t)) :=
  ⟨balloc _ _, Nat.le_refl _, by simp, by simp, by simp, by simp, by simp, by simp, fun i => by go_simp⟩

theorem Six.hi {V : World} {b : Nat} {v0 v1 v2 v3 v4 v5 : Value} {w : World} (h : Six V b v0 v1 v2 v3 v4 v5 w) : b < w.heap.size := World.block_lt_of_cell? w _ h.c0

theorem Six.step {V : World} {b : Nat} {v0 v1 v2 v3 v4 v5 : Value} {w w' : World} (h : Six V b v0 v1 v2 v3 v4 v5 w) (hb : Below w.heap.size w w') : Six V b v0 v1 v2 v3 v4 v5 w' :=
  ⟨bstep h.bel hb, h.lo, carry hb h.c0, carry hb h.c1, carry hb h.c2, carry hb h.c3, carry hb h.c4, carry hb h.c5, fun i => by rw [hb.frozen (p := ⟨b, i, none⟩) h.hi]; exact h.fz i⟩

theorem Six.set01 {V : World} {b : Nat} {v0 v1 v2 v3 v4 v5 : Value} {w : World} (h : Six V b v0 v1 v2 v3 v4 v5 w) (u u' : Value) : Six V b u u' v2 v3 v4 v5 ((w.setCell ⟨b, 0, none⟩ u).setCell ⟨b, 1, none⟩ u') :=
  ⟨bset (bset h.bel h.lo _) h.lo _, h.lo, by rw [cell_set_ne (by decide)]; exact cell_set_eq h.c0, cell_set_eq (by rw [cell_set_ne (by decide)]; exact h.c1), by rw [cell_set_ne (by decide), cell_set_ne (by decide)]; exact h.c2, by rw [cell_set_ne (by decide), cell_set_ne (by decide)]; exact h.c3,
    by rw [cell_set_ne (by decide), cell_set_ne (by decide)]; exact h.c4, by rw [cell_set_ne (by decide), cell_set_ne (by decide)]; exact h.c5, fun i => by simpa using h.fz i⟩

theorem Six.set23 {V : World} {b : Nat} {v0 v1 v2 v3 v4 v5 : Value} {w : World} (h : Six V b v0 v1 v2 v3 v4 v5 w) (u u' : Value) : Six V b v0 v1 u u' v4 v5 ((w.setCell ⟨b, 2, none⟩ u).setCell ⟨b, 3, none⟩ u') :=
  ⟨bset (bset h.bel h.lo _) h.lo _, h.lo, by rw [cell_set_ne (by decide), cell_set_ne (by decide)]; exact h.c0, by rw [cell_set_ne (by decide), cell_set_ne (by decide)]; exact h.c1, by rw [cell_set_ne (by decide)]; exact cell_set_eq h.c2, cell_set_eq (by rw [cell_set_ne (by decide)]; exact h.c3),
    by rw [cell_set_ne (by decide), cell_set_ne (by decide)]; exact h.c4, by rw [cell_set_ne (by decide), cell_set_ne (by decide)]; exact h.c5, fun i => by simpa using h.fz i⟩

theorem Six.set45 {V : World} {b : Nat} {v0 v1 v2 v3 v4 v5 : Value} {w : World} (h : Six V b v0 v1 v2 v3 v4 v5 w) (u u' : Value) : Six V b v0 v1 v2 v3 u u' ((w.setCell ⟨b, 4, none⟩ u).setCell ⟨b, 5, none⟩ u') :=
  ⟨bset (bset h.bel h.lo _) h.lo _, h.lo, by rw [cell_set_ne (by decide), cell_set_ne (by decide)]; exact h.c0, by rw [cell_set_ne (by decide), cell_set_ne (by decide)]; exact h.c1, by rw [cell_set_ne (by decide), cell_set_ne (by decide)]; exact h.c2, by rw [cell_set_ne (by decide), cell_set_ne (by decide)]; exact h.c3,
    by rw [cell_set_ne (by decide)]; exact cell_set_eq h.c4, cell_set_eq (by rw [cell_set_ne (by decide)]; exact h.c5), fun i => by simpa using h.fz i⟩

theorem six_set' {w : World} {b : Nat} {a0 a1 a2 a3 a4 a5 : Value} (c0 : w.cell? ⟨b, 0, none⟩ = some a0) (c1 : w.cell? ⟨b, 1, none⟩ = some a1) (c2 : w.cell? ⟨b, 2, none⟩ = some a2) (c3 : w.cell? ⟨b, 3, none⟩ = some a3) (c4 : w.cell? ⟨b, 4, none⟩ = some a4) (c5 : w.cell? ⟨b, 5, none⟩ = some a5)
    (u0 u1 u2 u3 u4 u5 : Value) (X : World) (hX : X = ((((((w.setCell ⟨b, 0, none⟩ u0).setCell ⟨b, 1, none⟩ u1).setCell ⟨b, 2, none⟩ u2).setCell ⟨b, 3, none⟩ u3).setCell ⟨b, 4, none⟩ u4).setCell ⟨b, 5, none⟩ u5)) :
    X.cell? ⟨b, 0, none⟩ = some u0 ∧ X.cell? ⟨b, 1, none⟩ = some u1 ∧ X.cell? ⟨b, 2, none⟩ = some u2 ∧ X.cell? ⟨b, 3, none⟩ = some u3 ∧ X.cell? ⟨b, 4, none⟩ = some u4 ∧ X.cell? ⟨b, 5, none⟩ = some u5 := by
  subst hX
  refine ⟨?_, ?_, ?_, ?_, ?_, ?_⟩
  · rw [cell_set_ne (by decide), cell_set_ne (by decide), cell_set_ne (by decide), cell_set_ne (by decide), cell_set_ne (by decide)]; exact cell_set_eq c0
  · rw [cell_set_ne (by decide), cell_set_ne (by decide), cell_set_ne (by decide), cell_set_ne (by decide)]; exact cell_set_eq (by rw [cell_set_ne (by decide)]; exact c1)
  · rw [cell_set_ne (by decide), cell_set_ne (by decide), cell_set_ne (by decide)]; exact cell_set_eq (by rw [cell_set_ne (by decide), cell_set_ne (by decide)]; exact c2)
  · rw [cell_set_ne (by decide), cell_set_ne (by decide)]; exact cell_set_eq (by rw [cell_set_ne (by decide), cell_set_ne (by decide), cell_set_ne (by decide)]; exact c3)
  · rw [cell_set_ne (by decide)]; exact cell_set_eq (by rw [cell_set_ne (by decide), cell_set_ne (by decide), cell_set_ne (by decide), cell_set_ne (by decide)]; exact c4)
  · exact cell_set_eq (by rw [cell_set_ne (by decide), cell_set_ne (by decide), cell_set_ne (by decide), cell_set_ne (by decide), cell_set_ne (by decide)]; exact c5)

end Go.Proofs.Ytipcbhodlgoflab

/- What layout.Asking does: a program with other mosts. -/
namespace Go.Proofs.Ytipcbhodlgoflab
open Go.RowKit

/-- Two boxes of two cells, in every later world. -/
theorem boxes {w w1 : World} {a b c d : Value} {t t' : TypeId} (hb : Below ((w.alloc (.cells #[a, b] t)).alloc (.cells #[c, d] t')).heap.size ((w.alloc (.cells #[a, b] t)).alloc (.cells #[c, d] t')) w1) :
    (w1.cell? ⟨w.heap.size, 0, none⟩ = some a ∧ w1.cell? ⟨w.heap.size, 1, none⟩ = some b) ∧ (w1.cell? ⟨w.heap.size + 1, 0, none⟩ = some c ∧ w1.cell? ⟨w.heap.size + 1, 1, none⟩ = some d) ∧ (w1.frozen? ⟨w.heap.size + 1, 0, none⟩ = false ∧ w1.frozen? ⟨w.heap.size + 1, 1, none⟩ = false) ∧ w.heap.size + 1 < w1.heap.size ∧ Below w.heap.size w w1 := by
  have h2 := binto hb
  have hs : (w.alloc (.cells #[a, b] t)).heap.size = w.heap.size + 1 := by simp
  have k := kept2 hb
  rw [hs] at k
  refine ⟨(kept2 h2).1, k.1, k.2, ?_, binto h2⟩
  have := hb.size
  simp at this
  omega

/-- A slice of the call's own of n rows, of which the first k are laid. -/
def RowsMk (w : World) (base g n k : Nat) (F : Nat → Value) (G : Nat → Int) : Prop :=
  ∃ vs : List Value, w.ownsRow base 51 2 (.slice (some ⟨g, 0, none⟩) n n) n vs ∧ ∀ j, j < k → vs[j * 2]? = some (F j) ∧ vs[j * 2 + 1]? = some (.int .i64 (G j))

theorem RowsMk.lt {w : World} {base g n k : Nat} {F : Nat → Value} {G : Nat → Int} (h : RowsMk w base g n k F G) : base ≤ g ∧ g < w.heap.size := by
  obtain ⟨vs, h, _⟩ := h
  exact World.ownsRow.lt h g rfl

theorem RowsMk.cell' {w : World} {base g n k : Nat} {F : Nat → Value} {G : Nat → Int} (h : RowsMk w base g n k F G) (j : Nat) (hj : j < n) : ((∃ u, w.cell? ⟨g, j * 2, none⟩ = some u) ∧ ∃ u, w.cell? ⟨g, j * 2 + 1, none⟩ = some u) ∧ (w.frozen? ⟨g, j * 2, none⟩ = false ∧ w.frozen? ⟨g, j * 2 + 1, none⟩ = false) := by
  obtain ⟨vs, h, _⟩ := h
  have hl : vs.length = n * 2 := h.1
  refine ⟨⟨⟨vs[j * 2], ?_⟩, ⟨vs[j * 2 + 1], ?_⟩⟩, World.ownsRow.frozenAt h _, World.ownsRow.frozenAt h _⟩
  · rw [World.ownsRow.cellAt h _ (by omega)]; exact List.getElem?_eq_getElem (by omega)
  · rw [World.ownsRow.cellAt h _ (by omega)]; exact List.getElem?_eq_getElem (by omega)

theorem RowsMk.below {w w' : World} {base g n k : Nat} {F : Nat → Value} {G : Nat → Int} (h : RowsMk w base g n k F G) (hb : Below w.heap.size w w') : RowsMk w' base g n k F G := by
  obtain ⟨vs, h, hin⟩ := h
  exact ⟨vs, World.ownsRow.kept (row := none) h ⟨hb.os, hb.tape, hb.output, hb.size, fun k hk _ => hb.block k hk⟩ (by simp [Value.ownBlock]), hin⟩

theorem RowsMk.store {w : World} {base g n k : Nat} {F : Nat → Value} {G : Nat → Int} (h : RowsMk w base g n k F G) (hk : k < n) {u : Value} {x : Int} (hu : u = F k) (hx : x = G k) : RowsMk ((w.setCell ⟨g, k * 2, none⟩ u).setCell ⟨g, k * 2 + 1, none⟩ (.int .i64 x)) base g n (k + 1) F G := by
  obtain ⟨vs, h, hin⟩ := h
  have hl : vs.length = n * 2 := h.1
  subst hu hx
  refine ⟨(vs.set (k * 2) (F k)).set (k * 2 + 1) (.int .i64 (G k)), (World.ownsRow.stored (World.ownsRow.stored h (k * 2) _).1 (k * 2 + 1) _).1, fun j hj => ?_⟩
  by_cases hjk : j = k
  · subst hjk
    refine ⟨?_, ?_⟩
    · rw [List.getElem?_set_ne (by omega), List.getElem?_set_self (by omega)]
    · rw [List.getElem?_set_self (by rw [List.length_set]; omega)]
  · obtain ⟨h1, h2⟩ := hin j (by omega)
    refine ⟨?_, ?_⟩
    · rw [List.getElem?_set_ne (by omega), List.getElem?_set_ne (by omega)]; exact h1
    · rw [List.getElem?_set_ne (by omega), List.getElem?_set_ne (by omega)]; exact h2

theorem RowsMk.setLow {w : World} {base g n k : Nat} {F : Nat → Value} {G : Nat → Int} (h : RowsMk w base g n k F G) {q j : Nat} (hq : q < base) (u : Value) : RowsMk (w.setCell ⟨q, j, none⟩ u) base g n k F G := by
  obtain ⟨vs, h, hin⟩ := h
  exact ⟨vs, ownsRow_setCell_below h (a := ⟨q, j, none⟩) hq u, hin⟩

theorem RowsMk.rows {w : World} {base g n : Nat} {F : Nat → Value} {G : Nat → Int} {rs : List (List Int × Int)} (h : RowsMk w base g n n F G) (hn : n = rs.length) (hF : ∀ j, j < n → ∃ xa xl xc, F j = .slice xa xl xc ∧ Ints w xa xl (rs[j]?.getD ([], 0)).1 ∧ xl ≤ 9223372036854775807) (hG : ∀ j, j < n → G j = (rs[j]?.getD ([], 0)).2) : RowsAt w (some ⟨g, 0, none⟩) n rs := by
  have hlt := h.lt.2
  obtain ⟨vs, h, hin⟩ := h
  refine ⟨hn, Or.inr ⟨g, 0, rfl, hlt, fun j hj => ?_⟩⟩
  obtain ⟨xa, xl, xc, f1, f2, f3⟩ := hF j hj
  obtain ⟨h1, h2⟩ := hin j hj
  refine ⟨xa, xl, xc, ?_, ?_, f2, f3⟩
  · rw [Nat.zero_add, World.ownsRow.cellAt h _ (by omega), h1, f1]
  · rw [Nat.zero_add, World.ownsRow.cellAt h _ (by omega), h2, hG j hj]

end Go.Proofs.Ytipcbhodlgoflab
