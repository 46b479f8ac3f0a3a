/- What the document's Has and Cost do; rows that a function appends. -/
import Derived.Test.YtipcbhodlgoflabGreatCornW
namespace Go.Proofs.YtipcbhodlgoflabGreat
open Go.RowKit

/-- A row of numbers of a call's own. -/
def RowOwn (w : World) (base : Nat) (v : Value) (l : List Int) : Prop := w.ownsRow base 2 1 v l.length (l.map (Value.int .i64))

/-- A slice of the call's own of rows of its own. -/
def RowsOwn (w : World) (base : Nat) (v : Value) (ls : List (List Int)) : Prop :=
  ∃ vs : List Value, w.ownsRow base 22 1 v ls.length vs ∧ ∀ j, j < ls.length → ∃ u, vs[j]? = some u ∧ RowOwn w base u (ls[j]?.getD [])

theorem own_block {w : World} {base n : Nat} {t : TypeId} {v : Value} {xs : List Value} (h : w.ownsRow base t 1 v n xs) {g : Nat} (hg : v.ownBlock = some g) : ∃ cur, w.heap[g]? = some (.cells cur t (0, 0)) := by
  rcases h.2 with ⟨hv, _⟩ | ⟨g', cap, cur, hv, _, hh, _⟩
  · subst hv; simp [Value.ownBlock] at hg
  · subst hv
    simp [Value.ownBlock] at hg
    subst hg
    exact ⟨cur, hh⟩

/-- A row of numbers is kept where a row of slices grows. -/
theorem RowOwn.grown {w w' : World} {base n : Nat} {u v : Value} {l : List Int} {vs : List Value} (h : RowOwn w base u l) (ho : w.ownsRow base 22 1 v n vs) (hg : w.grownBy w' v.ownBlock) : RowOwn w' base u l := by
  refine World.ownsRow.kept h hg ?_
  cases e : u.ownBlock with
  | none => exact Or.inl rfl
  | some g =>
    refine Or.inr fun e2 => ?_
    obtain ⟨c1, h1⟩ := own_block h e
    obtain ⟨c2, h2⟩ := own_block ho e2.symm
    rw [h1] at h2
    simp at h2

theorem RowOwn.kept {w w' : World} {base : Nat} {u : Value} {l : List Int} (h : RowOwn w base u l) (hb : Below w.heap.size w w') : RowOwn w' base u l :=
  World.ownsRow.kept (row := none) h ⟨hb.os, hb.tape, hb.output, hb.size, fun k hk _ => hb.block k hk⟩ (by cases u.ownBlock <;> simp)

theorem RowsOwn.kept {w w' : World} {base : Nat} {v : Value} {ls : List (List Int)} (h : RowsOwn w base v ls) (hb : Below w.heap.size w w') : RowsOwn w' base v ls := by
  obtain ⟨vs, h, hin⟩ := h
  refine ⟨vs, World.ownsRow.kept (row := none) h ⟨hb.os, hb.tape, hb.output, hb.size, fun k hk _ => hb.block k hk⟩ (by cases v.ownBlock <;> simp), fun j hj => ?_⟩
  obtain ⟨u, h1, h2⟩ := hin j hj
  exact ⟨u, h1, h2.kept hb⟩

theorem RowsOwn.nil (w : World) (base : Nat) : RowsOwn w base (.slice none 0 0) [] := ⟨[], World.ownsRow_nil _ _ _ _, fun _ hj => absurd hj (Nat.not_lt_zero _)⟩

/-- One more row. -/
theorem RowsOwn.push {w w' : World} {base : Nat} {u v v' : Value} {ls : List (List Int)} {l : List Int} {vs : List Value} (ho : w.ownsRow base 22 1 v ls.length vs) (hin : ∀ j, j < ls.length → ∃ u, vs[j]? = some u ∧ RowOwn w base u (ls[j]?.getD [])) (hu : RowOwn w base u l)
    (ho' : w'.ownsRow base 22 1 v' (ls.length + 1) (vs ++ [u])) (hg : w.grownBy w' v.ownBlock) : RowsOwn w' base v' (ls ++ [l]) := by
  have hl : vs.length = ls.length := by simpa using ho.1
  refine ⟨vs ++ [u], by simpa using ho', fun j hj => ?_⟩
  rw [List.length_append, List.length_singleton] at hj
  by_cases hjk : j < ls.length
  · obtain ⟨u', h1, h2⟩ := hin j hjk
    refine ⟨u', by rw [List.getElem?_append_left (by omega)]; exact h1, ?_⟩
    rw [List.getElem?_append_left hjk]
    exact h2.grown ho hg
  · obtain rfl : j = ls.length := by omega
    refine ⟨u, by rw [List.getElem?_append_right (by omega), hl]; simp, ?_⟩
    rw [List.getElem?_append_right (by omega)]
    simpa using hu.grown ho hg

theorem RowOwn.ints {w : World} {base : Nat} {u : Value} {l : List Int} (h : RowOwn w base u l) : ∃ a c, u = .slice a l.length c ∧ l.length ≤ c ∧ Ints w a l.length l := by
  have h' := h
  rcases h.2 with ⟨hv, h0⟩ | ⟨g, cap, cur, hv, hb, _, hc, _⟩
  · refine ⟨none, 0, by rw [h0]; exact hv, by omega, ⟨rfl, Or.inl h0⟩⟩
  · subst hv
    refine ⟨_, cap, rfl, hc, Ints.ofOwn h' rfl fun j hj => ?_⟩
    rw [List.getElem?_map, List.getElem?_eq_getElem hj]
    simp

/-- Rows of the call's own, read. -/
theorem RowsOwn.lines {w : World} {base : Nat} {v : Value} {ls : List (List Int)} (h : RowsOwn w base v ls) : ∃ a c, v = .slice a ls.length c ∧ ls.length ≤ c ∧ Lines w a ls.length ls := by
  obtain ⟨vs, h, hin⟩ := h
  have hl : vs.length = ls.length := by simpa using h.1
  have h' := h
  rcases h.2 with ⟨hv, h0⟩ | ⟨g, cap, cur, hv, hb, _, hc, _⟩
  · refine ⟨none, 0, by rw [h0]; exact hv, by omega, ⟨rfl, Or.inl h0⟩⟩
  · subst hv
    refine ⟨_, cap, rfl, hc, rfl, Or.inr ⟨g, 0, rfl, (World.ownsRow.lt h' g rfl).2, fun j hj => ?_⟩⟩
    obtain ⟨u, h1, h2⟩ := hin j hj
    obtain ⟨a, c, hu, hc', hi⟩ := h2.ints
    refine ⟨a, _, c, ?_, hi, hc'⟩
    rw [Nat.zero_add, World.ownsRow.cellAt h' j (by omega), h1, hu]

end Go.Proofs.YtipcbhodlgoflabGreat

/- What the document's det does. -/
namespace Go.Proofs.YtipcbhodlgoflabGreat
open Go.RowKit

/-- The line i of lines. -/
theorem Lines.at {w : World} {a : Option Addr} {n : Nat} {ls : List (List Int)} (h : Lines w a n ls) (i : Nat) (hi : i < n) : ∃ b off ra rl rc, a = some ⟨b, off, none⟩ ∧ b < w.heap.size ∧ w.cell? ⟨b, off + i, none⟩ = some (.slice ra rl rc) ∧ Ints w ra rl (ls[i]?.getD []) ∧ rl ≤ rc := by
  rcases h.2 with h0 | ⟨b, off, ha, hs, hc⟩
  · omega
  · obtain ⟨ra, rl, rc, c0, h1, h2⟩ := hc i hi
    exact ⟨b, off, ra, rl, rc, ha, hs, c0, h1, h2⟩

end Go.Proofs.YtipcbhodlgoflabGreat

/- What the document's put does. -/
namespace Go.Proofs.YtipcbhodlgoflabGreat
open Go.RowKit

namespace Num
/-- Rows, with a column in the place of another one. -/
def putL (ls : List (List Int)) (k : Nat) (col : List Int) (n : Nat) : List (List Int) := (List.range n).map fun i => (ls[i]?.getD []).set k (col[i]?.getD 0)
end Num

end Go.Proofs.YtipcbhodlgoflabGreat

/- The document's determinants are the program's volumes. -/
namespace Go.Proofs.YtipcbhodlgoflabGreat
namespace Num

def downL (p : Lp) (at' : List Int) (m : Nat) : List (List Int) := (List.range m).map fun i => (List.range m).map fun k => hasF p (atF at' k) i

theorem ext_range {α : Type} (f g : Nat → α) (n : Nat) (h : ∀ i, i < n → f i = g i) : (List.range n).map f = (List.range n).map g :=
  List.map_congr_left fun i hi => h i (by simpa using hi)

theorem turn_eq (ls : List (List Int)) (m : Nat) (h : ls.length = m) : turnL ls = (List.range m).map fun i => (List.range m).map fun k => at2 ls k i := by subst h; rfl

theorem at2_grid (f : Nat → Nat → Int) (m i j : Nat) (hi : i < m) (hj : j < m) : at2 ((List.range m).map fun i => (List.range m).map fun k => f i k) i j = f i j := by
  rw [at2_range, if_pos hi, range_getD, if_pos hj]

theorem down_turn (p : Lp) (at' : List Int) (m : Nat) : downL p at' m = turnL (chosenL p at' m) := by
  rw [turn_eq _ m (chosen_len p at' m).1]
  unfold downL
  refine ext_range _ _ _ fun i hi => ext_range _ _ _ fun k hk => ?_
  unfold chosenL
  rw [at2_range, if_pos hk, range_getD, if_pos hi]

theorem chosen_sq (p : Lp) (at' : List Int) (m : Nat) : Sq m (chosenL p at' m) := chosen_len p at' m

theorem set_sq (ls : List (List Int)) (m k : Nat) (want : List Int) (h : Sq m ls) (hw : want.length = m) : Sq m (ls.set k want) := by
  refine ⟨by simpa using h.1, fun l hl => ?_⟩
  rcases List.mem_or_eq_of_mem_set hl with h1 | rfl
  · exact h.2 l h1
  · exact hw

theorem turn_sq (ls : List (List Int)) (m : Nat) (h : Sq m ls) : Sq m (turnL ls) := turn_len ls m h.1

end Num
end Go.Proofs.YtipcbhodlgoflabGreat
