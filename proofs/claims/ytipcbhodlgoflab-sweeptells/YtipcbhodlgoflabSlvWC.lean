/- What solve.prices does. -/
import Derived.Test.YtipcbhodlgoflabSlvWA
import Derived.Deep.CutRange
import Derived.Test.YtipcbhodlgoflabPrfAB
import Derived.Test.YtipcbhodlgoflabSlvE
namespace Go.Proofs.Ytipcbhodlgoflab
open Go.RowKit

end Go.Proofs.Ytipcbhodlgoflab

/- A box of nine cells (an answer), and what solve.refused does. -/
namespace Go.Proofs.Ytipcbhodlgoflab
open Go.RowKit

/-- A box of nine cells, that may be written. -/
structure Box9 (b : Nat) (v0 v1 v2 v3 v4 v5 v6 v7 v8 : Value) (w : World) : Prop where
  c0 : w.cell? ⟨b, 0, none⟩ = some v0
  c1 : w.cell? ⟨b, 1, none⟩ = some v1
  c2 : w.cell? ⟨b, 2, none⟩ = some v2
  c3 : w.cell? ⟨b, 3, none⟩ = some v3
  c4 : w.cell? ⟨b, 4, none⟩ = some v4
  c5 : w.cell? ⟨b, 5, none⟩ = some v5
  c6 : w.cell? ⟨b, 6, none⟩ = some v6
  c7 : w.cell? ⟨b, 7, none⟩ = some v7
  c8 : w.cell? ⟨b, 8, none⟩ = some v8
  fz : ∀ i, w.frozen? ⟨b, i, none⟩ = false

theorem Box9.new (w : World) (v0 v1 v2 v3 v4 v5 v6 v7 v8 : Value) (t : TypeId) : Box9 w.heap.size v0 v1 v2 v3 v4 v5 v6 v7 v8 (w.alloc (.cells #[v0, v1, v2, v3, v4, v5, v6, v7, v8] t)) :=
  ⟨by simp, by simp, by simp, by simp, by simp, by simp, by simp, by simp, by simp, fun i => by go_simp⟩

theorem Box9.lt {b : Nat} {v0 v1 v2 v3 v4 v5 v6 v7 v8 : Value} {w : World} (h : Box9 b v0 v1 v2 v3 v4 v5 v6 v7 v8 w) : b < w.heap.size := World.block_lt_of_cell? w _ h.c0

theorem Box9.step {b : Nat} {v0 v1 v2 v3 v4 v5 v6 v7 v8 : Value} {w w' : World} (h : Box9 b v0 v1 v2 v3 v4 v5 v6 v7 v8 w) (hb : Below w.heap.size w w') : Box9 b v0 v1 v2 v3 v4 v5 v6 v7 v8 w' :=
  ⟨carry hb h.c0, carry hb h.c1, carry hb h.c2, carry hb h.c3, carry hb h.c4, carry hb h.c5, carry hb h.c6, carry hb h.c7, carry hb h.c8, fun i => by rw [hb.frozen (p := ⟨b, i, none⟩) h.lt]; exact h.fz i⟩

theorem Box9.set {b : Nat} {v0 v1 v2 v3 v4 v5 v6 v7 v8 : Value} {w : World} (h : Box9 b v0 v1 v2 v3 v4 v5 v6 v7 v8 w) (u0 u1 u2 u3 u4 u5 u6 u7 u8 : Value) (X : World) (hX : X = ((((((((w.setCell ⟨b, 0, none⟩ u0).setCell ⟨b, 1, none⟩ u1).setCell ⟨b, 2, none⟩ u2).setCell ⟨b, 3, none⟩ u3).setCell ⟨b, 4, none⟩ u4).setCell ⟨b, 5, none⟩ u5).setCell ⟨b, 6, none⟩ u6).setCell ⟨b, 7, none⟩ u7).setCell ⟨b, 8, none⟩ u8) : Box9 b u0 u1 u2 u3 u4 u5 u6 u7 u8 X := by
  subst hX
  refine ⟨?_, ?_, ?_, ?_, ?_, ?_, ?_, ?_, ?_, fun i => by simpa using h.fz i⟩
  · rw [cell_set_ne (by decide), cell_set_ne (by decide), cell_set_ne (by decide), cell_set_ne (by decide), cell_set_ne (by decide), cell_set_ne (by decide), cell_set_ne (by decide), cell_set_ne (by decide)]; exact cell_set_eq (by exact h.c0)
  · rw [cell_set_ne (by decide), cell_set_ne (by decide), cell_set_ne (by decide), cell_set_ne (by decide), cell_set_ne (by decide), cell_set_ne (by decide), cell_set_ne (by decide)]; exact cell_set_eq (by rw [cell_set_ne (by decide)]; exact h.c1)
  · rw [cell_set_ne (by decide), cell_set_ne (by decide), cell_set_ne (by decide), cell_set_ne (by decide), cell_set_ne (by decide), cell_set_ne (by decide)]; exact cell_set_eq (by rw [cell_set_ne (by decide), cell_set_ne (by decide)]; exact h.c2)
  · rw [cell_set_ne (by decide), cell_set_ne (by decide), cell_set_ne (by decide), cell_set_ne (by decide), cell_set_ne (by decide)]; exact cell_set_eq (by rw [cell_set_ne (by decide), cell_set_ne (by decide), cell_set_ne (by decide)]; exact h.c3)
  · rw [cell_set_ne (by decide), cell_set_ne (by decide), cell_set_ne (by decide), cell_set_ne (by decide)]; exact cell_set_eq (by rw [cell_set_ne (by decide), cell_set_ne (by decide), cell_set_ne (by decide), cell_set_ne (by decide)]; exact h.c4)
  · rw [cell_set_ne (by decide), cell_set_ne (by decide), cell_set_ne (by decide)]; exact cell_set_eq (by rw [cell_set_ne (by decide), cell_set_ne (by decide), cell_set_ne (by decide), cell_set_ne (by decide), cell_set_ne (by decide)]; exact h.c5)
  · rw [cell_set_ne (by decide), cell_set_ne (by decide)]; exact cell_set_eq (by rw [cell_set_ne (by decide), cell_set_ne (by decide), cell_set_ne (by decide), cell_set_ne (by decide), cell_set_ne (by decide), cell_set_ne (by decide)]; exact h.c6)
  · rw [cell_set_ne (by decide)]; exact cell_set_eq (by rw [cell_set_ne (by decide), cell_set_ne (by decide), cell_set_ne (by decide), cell_set_ne (by decide), cell_set_ne (by decide), cell_set_ne (by decide), cell_set_ne (by decide)]; exact h.c7)
  · exact cell_set_eq (by rw [cell_set_ne (by decide), cell_set_ne (by decide), cell_set_ne (by decide), cell_set_ne (by decide), cell_set_ne (by decide), cell_set_ne (by decide), cell_set_ne (by decide), cell_set_ne (by decide)]; exact h.c8)

theorem bset9 {B : Nat} {a w : World} (h : Below B a w) {b : Nat} (hg : B ≤ b) (u0 u1 u2 u3 u4 u5 u6 u7 u8 : Value) : Below B a (((((((((w.setCell ⟨b, 0, none⟩ u0).setCell ⟨b, 1, none⟩ u1).setCell ⟨b, 2, none⟩ u2).setCell ⟨b, 3, none⟩ u3).setCell ⟨b, 4, none⟩ u4).setCell ⟨b, 5, none⟩ u5).setCell ⟨b, 6, none⟩ u6).setCell ⟨b, 7, none⟩ u7).setCell ⟨b, 8, none⟩ u8) :=
  bset (bset (bset (bset (bset (bset (bset (bset (bset h hg _) hg _) hg _) hg _) hg _) hg _) hg _) hg _) hg _

theorem Ints.set9 {w : World} {a : Option Addr} {n b : Nat} {l : List Int} (h : Ints w a n l) (hf : n = 0 ∨ ∃ g, a = some ⟨g, 0, none⟩ ∧ b + 1 ≤ g) (u0 u1 u2 u3 u4 u5 u6 u7 u8 : Value) : Ints (((((((((w.setCell ⟨b, 0, none⟩ u0).setCell ⟨b, 1, none⟩ u1).setCell ⟨b, 2, none⟩ u2).setCell ⟨b, 3, none⟩ u3).setCell ⟨b, 4, none⟩ u4).setCell ⟨b, 5, none⟩ u5).setCell ⟨b, 6, none⟩ u6).setCell ⟨b, 7, none⟩ u7).setCell ⟨b, 8, none⟩ u8) a n l :=
  Ints.set (base := b + 1) (Ints.set (base := b + 1) (Ints.set (base := b + 1) (Ints.set (base := b + 1) (Ints.set (base := b + 1) (Ints.set (base := b + 1) (Ints.set (base := b + 1) (Ints.set (base := b + 1) (Ints.set (base := b + 1) h hf (Nat.lt_succ_self b) _) hf (Nat.lt_succ_self b) _) hf (Nat.lt_succ_self b) _) hf (Nat.lt_succ_self b) _) hf (Nat.lt_succ_self b) _) hf (Nat.lt_succ_self b) _) hf (Nat.lt_succ_self b) _) hf (Nat.lt_succ_self b) _) hf (Nat.lt_succ_self b) _

end Go.Proofs.Ytipcbhodlgoflab

/- What solve.walked does. -/
namespace Go.Proofs.Ytipcbhodlgoflab
open Go.RowKit

theorem Ints.take {w : World} {a : Option Addr} {n k : Nat} {l : List Int} (h : Ints w a n l) (hk : k ≤ n) : Ints w a k (l.take k) := by
  obtain ⟨h1, h2⟩ := h
  refine ⟨by rw [List.length_take]; omega, ?_⟩
  rcases h2 with h2 | ⟨b, off, ha, hs, hc⟩
  · exact Or.inl (by omega)
  · exact Or.inr ⟨b, off, ha, hs, fun j hj => by rw [List.getElem?_take, if_pos hj]; exact hc j (by omega)⟩

/-- All blocks of V lie as they lay but b, which has nine cells that may be written. -/
structure But9 (b : Nat) (V w : World) : Prop where
  size : V.heap.size ≤ w.heap.size
  same : ∀ j, j < V.heap.size → j ≠ b → w.heap[j]? = V.heap[j]?
  nine : ∃ v0 v1 v2 v3 v4 v5 v6 v7 v8 t, w.heap[b]? = some (.cells #[v0, v1, v2, v3, v4, v5, v6, v7, v8] t)

theorem But9.below {b : Nat} {V w w' : World} (h : But9 b V w) (hb : Below w.heap.size w w') : But9 b V w' := by
  refine ⟨Nat.le_trans h.size hb.size, fun j hj hne => ?_, ?_⟩
  · rw [hb.block j (Nat.lt_of_lt_of_le hj h.size)]; exact h.same j hj hne
  · obtain ⟨v0, v1, v2, v3, v4, v5, v6, v7, v8, t, e⟩ := h.nine
    have hr : b < w.heap.size := by
      rcases Nat.lt_or_ge b w.heap.size with h | h
      · exact h
      · rw [Array.getElem?_eq_none h] at e; cases e
    exact ⟨v0, v1, v2, v3, v4, v5, v6, v7, v8, t, by rw [hb.block b hr]; exact e⟩

theorem But9.drew {b : Nat} {V w : World} (h : But9 b V w) : But9 b V w.drew := ⟨h.size, h.same, h.nine⟩

theorem But9.cell {b : Nat} {V w : World} (h : But9 b V w) {p : Addr} {v : Value} (hp : p.block ≠ b) (hc : V.cell? p = some v) : w.cell? p = some v := by
  rw [World.cell?_of_block (h.same p.block (World.block_lt_of_cell? V p hc) hp)]; exact hc

theorem But9.set {b : Nat} {V w : World} (h : But9 b V w) (i : Nat) (u : Value) (hi : i < 9) : But9 b V (w.setCell ⟨b, i, none⟩ u) := by
  refine ⟨by simpa using h.size, fun j hj hne => ?_, ?_⟩
  · rw [Below.heap_setCell _ _ _ j hne]; exact h.same j hj hne
  · obtain ⟨v0, v1, v2, v3, v4, v5, v6, v7, v8, t, e⟩ := h.nine
    match i, hi with
    | 0, _ => exact ⟨u, v1, v2, v3, v4, v5, v6, v7, v8, t, by simpa using Joins.block_setCell (i := 0) e u⟩
    | 1, _ => exact ⟨v0, u, v2, v3, v4, v5, v6, v7, v8, t, by simpa using Joins.block_setCell (i := 1) e u⟩
    | 2, _ => exact ⟨v0, v1, u, v3, v4, v5, v6, v7, v8, t, by simpa using Joins.block_setCell (i := 2) e u⟩
    | 3, _ => exact ⟨v0, v1, v2, u, v4, v5, v6, v7, v8, t, by simpa using Joins.block_setCell (i := 3) e u⟩
    | 4, _ => exact ⟨v0, v1, v2, v3, u, v5, v6, v7, v8, t, by simpa using Joins.block_setCell (i := 4) e u⟩
    | 5, _ => exact ⟨v0, v1, v2, v3, v4, u, v6, v7, v8, t, by simpa using Joins.block_setCell (i := 5) e u⟩
    | 6, _ => exact ⟨v0, v1, v2, v3, v4, v5, u, v7, v8, t, by simpa using Joins.block_setCell (i := 6) e u⟩
    | 7, _ => exact ⟨v0, v1, v2, v3, v4, v5, v6, u, v8, t, by simpa using Joins.block_setCell (i := 7) e u⟩
    | 8, _ => exact ⟨v0, v1, v2, v3, v4, v5, v6, v7, u, t, by simpa using Joins.block_setCell (i := 8) e u⟩

theorem But9.set9 {b : Nat} {V w : World} (h : But9 b V w) (u0 u1 u2 u3 u4 u5 u6 u7 u8 : Value) : But9 b V (((((((((w.setCell ⟨b, 0, none⟩ u0).setCell ⟨b, 1, none⟩ u1).setCell ⟨b, 2, none⟩ u2).setCell ⟨b, 3, none⟩ u3).setCell ⟨b, 4, none⟩ u4).setCell ⟨b, 5, none⟩ u5).setCell ⟨b, 6, none⟩ u6).setCell ⟨b, 7, none⟩ u7).setCell ⟨b, 8, none⟩ u8) :=
  But9.set (But9.set (But9.set (But9.set (But9.set (But9.set (But9.set (But9.set (But9.set h 0 u0 (by decide)) 1 u1 (by decide)) 2 u2 (by decide)) 3 u3 (by decide)) 4 u4 (by decide)) 5 u5 (by decide)) 6 u6 (by decide)) 7 u7 (by decide)) 8 u8 (by decide)

theorem But9.cells {b : Nat} {V : World} : ∃ F0 F1 F2 F3 F4 F5 F6 F7 F8 : World → Value, (∀ w, But9 b V w → w.cell? ⟨b, 0, none⟩ = some (F0 w)) ∧ (∀ w, But9 b V w → w.cell? ⟨b, 1, none⟩ = some (F1 w)) ∧ (∀ w, But9 b V w → w.cell? ⟨b, 2, none⟩ = some (F2 w)) ∧ (∀ w, But9 b V w → w.cell? ⟨b, 3, none⟩ = some (F3 w)) ∧ (∀ w, But9 b V w → w.cell? ⟨b, 4, none⟩ = some (F4 w)) ∧ (∀ w, But9 b V w → w.cell? ⟨b, 5, none⟩ = some (F5 w)) ∧ (∀ w, But9 b V w → w.cell? ⟨b, 6, none⟩ = some (F6 w)) ∧ (∀ w, But9 b V w → w.cell? ⟨b, 7, none⟩ = some (F7 w)) ∧ (∀ w, But9 b V w → w.cell? ⟨b, 8, none⟩ = some (F8 w)) ∧ (∀ w, But9 b V w → w.frozen? ⟨b, 0, none⟩ = false) ∧ (∀ w, But9 b V w → w.frozen? ⟨b, 1, none⟩ = false) ∧ (∀ w, But9 b V w → w.frozen? ⟨b, 2, none⟩ = false) ∧ (∀ w, But9 b V w → w.frozen? ⟨b, 3, none⟩ = false) ∧ (∀ w, But9 b V w → w.frozen? ⟨b, 4, none⟩ = false) ∧ (∀ w, But9 b V w → w.frozen? ⟨b, 5, none⟩ = false) ∧ (∀ w, But9 b V w → w.frozen? ⟨b, 6, none⟩ = false) ∧ (∀ w, But9 b V w → w.frozen? ⟨b, 7, none⟩ = false) ∧ (∀ w, But9 b V w → w.frozen? ⟨b, 8, none⟩ = false) := by
  refine ⟨fun w => (w.cell? ⟨b, 0, none⟩).getD undef, fun w => (w.cell? ⟨b, 1, none⟩).getD undef, fun w => (w.cell? ⟨b, 2, none⟩).getD undef, fun w => (w.cell? ⟨b, 3, none⟩).getD undef, fun w => (w.cell? ⟨b, 4, none⟩).getD undef, fun w => (w.cell? ⟨b, 5, none⟩).getD undef, fun w => (w.cell? ⟨b, 6, none⟩).getD undef, fun w => (w.cell? ⟨b, 7, none⟩).getD undef, fun w => (w.cell? ⟨b, 8, none⟩).getD undef, ?_, ?_, ?_, ?_, ?_, ?_, ?_, ?_, ?_, ?_, ?_, ?_, ?_, ?_, ?_, ?_, ?_, ?_⟩
  · intro w h; obtain ⟨v0, v1, v2, v3, v4, v5, v6, v7, v8, t, e⟩ := h.nine; show w.cell? ⟨b, 0, none⟩ = some ((w.cell? ⟨b, 0, none⟩).getD undef); rw [Joins.cell_of_block e]; simp
  · intro w h; obtain ⟨v0, v1, v2, v3, v4, v5, v6, v7, v8, t, e⟩ := h.nine; show w.cell? ⟨b, 1, none⟩ = some ((w.cell? ⟨b, 1, none⟩).getD undef); rw [Joins.cell_of_block e]; simp
  · intro w h; obtain ⟨v0, v1, v2, v3, v4, v5, v6, v7, v8, t, e⟩ := h.nine; show w.cell? ⟨b, 2, none⟩ = some ((w.cell? ⟨b, 2, none⟩).getD undef); rw [Joins.cell_of_block e]; simp
  · intro w h; obtain ⟨v0, v1, v2, v3, v4, v5, v6, v7, v8, t, e⟩ := h.nine; show w.cell? ⟨b, 3, none⟩ = some ((w.cell? ⟨b, 3, none⟩).getD undef); rw [Joins.cell_of_block e]; simp
  · intro w h; obtain ⟨v0, v1, v2, v3, v4, v5, v6, v7, v8, t, e⟩ := h.nine; show w.cell? ⟨b, 4, none⟩ = some ((w.cell? ⟨b, 4, none⟩).getD undef); rw [Joins.cell_of_block e]; simp
  · intro w h; obtain ⟨v0, v1, v2, v3, v4, v5, v6, v7, v8, t, e⟩ := h.nine; show w.cell? ⟨b, 5, none⟩ = some ((w.cell? ⟨b, 5, none⟩).getD undef); rw [Joins.cell_of_block e]; simp
  · intro w h; obtain ⟨v0, v1, v2, v3, v4, v5, v6, v7, v8, t, e⟩ := h.nine; show w.cell? ⟨b, 6, none⟩ = some ((w.cell? ⟨b, 6, none⟩).getD undef); rw [Joins.cell_of_block e]; simp
  · intro w h; obtain ⟨v0, v1, v2, v3, v4, v5, v6, v7, v8, t, e⟩ := h.nine; show w.cell? ⟨b, 7, none⟩ = some ((w.cell? ⟨b, 7, none⟩).getD undef); rw [Joins.cell_of_block e]; simp
  · intro w h; obtain ⟨v0, v1, v2, v3, v4, v5, v6, v7, v8, t, e⟩ := h.nine; show w.cell? ⟨b, 8, none⟩ = some ((w.cell? ⟨b, 8, none⟩).getD undef); rw [Joins.cell_of_block e]; simp
  · intro w h; obtain ⟨v0, v1, v2, v3, v4, v5, v6, v7, v8, t, e⟩ := h.nine; exact Joins.unfrozen_of_block e 0
  · intro w h; obtain ⟨v0, v1, v2, v3, v4, v5, v6, v7, v8, t, e⟩ := h.nine; exact Joins.unfrozen_of_block e 1
  · intro w h; obtain ⟨v0, v1, v2, v3, v4, v5, v6, v7, v8, t, e⟩ := h.nine; exact Joins.unfrozen_of_block e 2
  · intro w h; obtain ⟨v0, v1, v2, v3, v4, v5, v6, v7, v8, t, e⟩ := h.nine; exact Joins.unfrozen_of_block e 3
  · intro w h; obtain ⟨v0, v1, v2, v3, v4, v5, v6, v7, v8, t, e⟩ := h.nine; exact Joins.unfrozen_of_block e 4
  · intro w h; obtain ⟨v0, v1, v2, v3, v4, v5, v6, v7, v8, t, e⟩ := h.nine; exact Joins.unfrozen_of_block e 5
  · intro w h; obtain ⟨v0, v1, v2, v3, v4, v5, v6, v7, v8, t, e⟩ := h.nine; exact Joins.unfrozen_of_block e 6
  · intro w h; obtain ⟨v0, v1, v2, v3, v4, v5, v6, v7, v8, t, e⟩ := h.nine; exact Joins.unfrozen_of_block e 7
  · intro w h; obtain ⟨v0, v1, v2, v3, v4, v5, v6, v7, v8, t, e⟩ := h.nine; exact Joins.unfrozen_of_block e 8

/-- An answer that lies in a world, new since there were B blocks. -/
structure AnsAt (B : Nat) (w : World) (a : Num.Ans) (xa : Option Addr) (xl : Nat) (ya : Option Addr) (yl : Nat) (za : Option Addr) (zl : Nat) : Prop where
  x : Ints w xa xl a.x
  y : Ints w ya yl a.y
  r : Ints w za zl a.r
  x8 : xl ≤ 8
  y8 : yl ≤ 8
  z8 : zl ≤ 8
  xf : xl = 0 ∨ ∃ g, xa = some ⟨g, 0, none⟩ ∧ B ≤ g
  yf : yl = 0 ∨ ∃ g, ya = some ⟨g, 0, none⟩ ∧ B ≤ g
  zf : zl = 0 ∨ ∃ g, za = some ⟨g, 0, none⟩ ∧ B ≤ g

end Go.Proofs.Ytipcbhodlgoflab
