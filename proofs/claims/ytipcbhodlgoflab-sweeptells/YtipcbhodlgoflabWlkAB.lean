/- What walk.first does with the closure of walk.ComesIn, walk.ComesIn, and walk.goesOut. -/
import Derived.Test.YtipcbhodlgoflabPlnA
import Derived.Test.YtipcbhodlgoflabSixA
import Derived.Test.YtipcbhodlgoflabLayH
namespace Go.Proofs.Ytipcbhodlgoflab
open Go.RowKit

end Go.Proofs.Ytipcbhodlgoflab

/- A program that asks what a column has. -/
namespace Go.Proofs.Ytipcbhodlgoflab
open Go.RowKit

end Go.Proofs.Ytipcbhodlgoflab

/- A box of a corner that is laid ahead of a call: what it holds behind it. -/
namespace Go.Proofs.Ytipcbhodlgoflab
open Go.RowKit

/-- A zero corner's box. -/
abbrev ZC (b : Nat) (w : World) : Prop :=
  w.heap[b]? = some (.cells #[.slice none 0 0, .int .i64 0, .slice none 0 0, .int .i64 0, .slice none 0 0, .int .i64 0] 39) ∧
    (w.cell? ⟨b, 0, none⟩ = some (.slice none 0 0) ∧ w.cell? ⟨b, 1, none⟩ = some (.int .i64 0) ∧ w.cell? ⟨b, 2, none⟩ = some (.slice none 0 0) ∧ w.cell? ⟨b, 3, none⟩ = some (.int .i64 0) ∧ w.cell? ⟨b, 4, none⟩ = some (.slice none 0 0) ∧ w.cell? ⟨b, 5, none⟩ = some (.int .i64 0)) ∧
    (w.frozen? ⟨b, 0, none⟩ = false ∧ w.frozen? ⟨b, 1, none⟩ = false ∧ w.frozen? ⟨b, 2, none⟩ = false ∧ w.frozen? ⟨b, 3, none⟩ = false ∧ w.frozen? ⟨b, 4, none⟩ = false ∧ w.frozen? ⟨b, 5, none⟩ = false)

theorem ZC.new (w : World) : ZC w.heap.size (w.alloc (.cells #[.slice none 0 0, .int .i64 0, .slice none 0 0, .int .i64 0, .slice none 0 0, .int .i64 0] 39)) :=
  ⟨heap_new rfl _, ⟨by simp, by simp, by simp, by simp, by simp, by simp⟩, by go_simp, by go_simp, by go_simp, by go_simp, by go_simp, by go_simp⟩

theorem ZC.step {b : Nat} {w w' : World} (h : ZC b w) (hb : Below w.heap.size w w') : ZC b w' := by
  obtain ⟨h0, ⟨c0, c1, c2, c3, c4, c5⟩, f0, f1, f2, f3, f4, f5⟩ := h
  have hlt := World.block_lt_of_cell? w _ c0
  dsimp only at hlt
  exact ⟨by rw [hb.block b hlt]; exact h0, ⟨carry hb c0, carry hb c1, carry hb c2, carry hb c3, carry hb c4, carry hb c5⟩, carryF hb c0 f0, carryF hb c1 f1, carryF hb c2 f2, carryF hb c3 f3, carryF hb c4 f4, carryF hb c5 f5⟩

theorem zeroC {w w' : World} (hb : Below (w.alloc (.cells #[.slice none 0 0, .int .i64 0, .slice none 0 0, .int .i64 0, .slice none 0 0, .int .i64 0] 39)).heap.size (w.alloc (.cells #[.slice none 0 0, .int .i64 0, .slice none 0 0, .int .i64 0, .slice none 0 0, .int .i64 0] 39)) w') : ZC w.heap.size w' :=
  (ZC.new w).step hb

theorem zeroCd {w w' : World} (hb : Below (w.alloc (.cells #[.slice none 0 0, .int .i64 0, .slice none 0 0, .int .i64 0, .slice none 0 0, .int .i64 0] 39)).drew.heap.size (w.alloc (.cells #[.slice none 0 0, .int .i64 0, .slice none 0 0, .int .i64 0, .slice none 0 0, .int .i64 0] 39)).drew w') : ZC w.heap.size w' :=
  zeroC (((Below.refl _ _).drew).trans hb)

/-- Numbers, two or more, do not lie in a zero corner's box. -/
theorem ZC.apart {b : Nat} {w : World} (h : ZC b w) {b' off n : Nat} {l : List Int} (hi : Ints w (some ⟨b', off, none⟩) n l) (h2 : 2 ≤ n) : b' ≠ b := by
  intro e
  subst e
  rcases hi.2 with h0 | ⟨b2, off2, ha, hs, hc⟩
  · omega
  · simp only [Option.some.injEq, Addr.mk.injEq, and_true] at ha
    obtain ⟨rfl, rfl⟩ := ha
    have a0 := hc 0 (by omega)
    have a1 := hc 1 (by omega)
    obtain ⟨h0, ⟨c0, c1, c2, c3, c4, c5⟩, _⟩ := h
    have hbig : ∀ j, 6 ≤ j → w.cell? ⟨b', j, none⟩ = none := by
      intro j hj
      rw [cell_of_row w b' j _ _ (0, 0) h0]
      first | exact Array.getElem?_eq_none hj | exact List.getElem?_eq_none hj
    match off, a0, a1 with
    | 0, a0, _ => rw [Nat.zero_add, c0] at a0; simp at a0
    | 1, _, a1 => rw [c2] at a1; simp at a1
    | 2, a0, _ => rw [Nat.add_zero, c2] at a0; simp at a0
    | 3, _, a1 => rw [c4] at a1; simp at a1
    | 4, a0, _ => rw [Nat.add_zero, c4] at a0; simp at a0
    | 5, _, a1 => rw [hbig 6 (by omega)] at a1; simp at a1
    | k + 6, a0, _ => rw [hbig _ (by omega)] at a0; simp at a0

theorem Ints.setApart {w : World} {a : Option Addr} {n : Nat} {l : List Int} (h : Ints w a n l) {b j : Nat} (hne : ∀ b' off, a = some ⟨b', off, none⟩ → b' ≠ b) (u : Value) : Ints (w.setCell ⟨b, j, none⟩ u) a n l := by
  obtain ⟨h1, h2⟩ := h
  refine ⟨h1, ?_⟩
  rcases h2 with h2 | ⟨b', off, ha, hs, hc⟩
  · exact Or.inl h2
  · refine Or.inr ⟨b', off, ha, by simpa using hs, fun j' hj => ?_⟩
    rw [World.cell?_setCell_other _ _ _ _ (by intro e; injection e with e1; exact hne b' off ha e1.symm)]
    exact hc j' hj

/-- Numbers, two or more, are kept where a zero corner's box is filled. -/
theorem ZC.kept {b : Nat} {w : World} (h : ZC b w) {a : Option Addr} {n : Nat} {l : List Int} (hi : Ints w a n l) (h2 : 2 ≤ n) (u0 u1 u2 u3 u4 u5 : Value) :
    Ints ((((((w.setCell ⟨b, 0, none⟩ u0).setCell ⟨b, 1, none⟩ u1).setCell ⟨b, 2, none⟩ u2).setCell ⟨b, 3, none⟩ u3).setCell ⟨b, 4, none⟩ u4).setCell ⟨b, 5, none⟩ u5) a n l := by
  have hne : ∀ b' off, a = some ⟨b', off, none⟩ → b' ≠ b := fun b' off e => h.apart (by rw [← e]; exact hi) h2
  exact (((((hi.setApart hne u0).setApart hne u1).setApart hne u2).setApart hne u3).setApart hne u4).setApart hne u5

/-- A zero point's box. -/
structure ZP (b : Nat) (w : World) : Prop where
  row : w.heap[b]? = some (.cells #[.slice none 0 0, .int .i64 0] 37)
  c0 : w.cell? ⟨b, 0, none⟩ = some (.slice none 0 0)
  c1 : w.cell? ⟨b, 1, none⟩ = some (.int .i64 0)
  f0 : w.frozen? ⟨b, 0, none⟩ = false
  f1 : w.frozen? ⟨b, 1, none⟩ = false

theorem ZP.new (w : World) : ZP w.heap.size (w.alloc (.cells #[.slice none 0 0, .int .i64 0] 37)) :=
  ⟨heap_new rfl _, by simp, by simp, by go_simp, by go_simp⟩

theorem ZP.lt {b : Nat} {w : World} (h : ZP b w) : b < w.heap.size := World.block_lt_of_cell? w _ h.c0

theorem ZP.step {b : Nat} {w w' : World} (h : ZP b w) (hb : Below w.heap.size w w') : ZP b w' :=
  ⟨by rw [hb.block b h.lt]; exact h.row, carry hb h.c0, carry hb h.c1, carryF hb h.c0 h.f0, carryF hb h.c1 h.f1⟩

/-- Numbers, two or more, do not lie in a zero point's box. -/
theorem ZP.apart {b : Nat} {w : World} (h : ZP b w) {b' off n : Nat} {l : List Int} (hi : Ints w (some ⟨b', off, none⟩) n l) (h2 : 2 ≤ n) : b' ≠ b := by
  intro e
  subst e
  rcases hi.2 with h0 | ⟨b2, off2, ha, hs, hc⟩
  · omega
  · simp only [Option.some.injEq, Addr.mk.injEq, and_true] at ha
    obtain ⟨rfl, rfl⟩ := ha
    have a0 := hc 0 (by omega)
    have a1 := hc 1 (by omega)
    have hbig : ∀ j, 2 ≤ j → w.cell? ⟨b', j, none⟩ = none := by
      intro j hj
      rw [cell_of_row w b' j _ _ (0, 0) h.row]
      first | exact Array.getElem?_eq_none hj | exact List.getElem?_eq_none hj
    match off, a0, a1 with
    | 0, a0, _ => rw [Nat.zero_add, h.c0] at a0; simp at a0
    | 1, _, a1 => rw [hbig 2 (by omega)] at a1; simp at a1
    | k + 2, a0, _ => rw [hbig _ (by omega)] at a0; simp at a0

/-- Numbers, two or more, are kept where a zero point's box is filled; and what it then holds. -/
theorem ZP.fill {b : Nat} {w : World} (h : ZP b w) {a : Option Addr} {n : Nat} {l : List Int} (hi : Ints w a n l) (h2 : 2 ≤ n) (u0 u1 : Value) (X : World) (hX : X = (w.setCell ⟨b, 0, none⟩ u0).setCell ⟨b, 1, none⟩ u1) :
    Ints X a n l ∧ X.cell? ⟨b, 0, none⟩ = some u0 ∧ X.cell? ⟨b, 1, none⟩ = some u1 := by
  subst hX
  have hne : ∀ b' off, a = some ⟨b', off, none⟩ → b' ≠ b := fun b' off e => h.apart (by rw [← e]; exact hi) h2
  exact ⟨(hi.setApart hne u0).setApart hne u1, by rw [cell_set_ne (by decide)]; exact cell_set_eq h.c0, cell_set_eq (by rw [cell_set_ne (by decide)]; exact h.c1)⟩

end Go.Proofs.Ytipcbhodlgoflab

/- What walk.Falls does. -/
namespace Go.Proofs.Ytipcbhodlgoflab
open Go.RowKit

end Go.Proofs.Ytipcbhodlgoflab
