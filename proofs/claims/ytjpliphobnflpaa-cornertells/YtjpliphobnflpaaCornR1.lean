/- What the document's Has and Cost do; rows that a function appends. -/
import Derived.Test.YtjpliphobnflpaaCorn1
namespace Go.Proofs.Ytjpliphobnflpaa
open Go.RowKit

set_option maxHeartbeats 400000 in
theorem has_any (ca : Option Addr) (cl cc : Nat) (ra : Option Addr) (rl rc : Nat) (p : Num.Lp) (w : World) (hcl : cl = p.costs.length) (hr : RowsAt w ra rl p.rows) (hm : p.may = true) (i j : Nat) (hi : i < rl) (hj : j ≤ 8) :
    Calls Try.prog 60 #[.agg #[.slice ca cl cc, .slice ra rl rc], .int .i64 i, .int .i64 j] w fun e w' => e = .returned (.int .i64 (Num.hasF p j i)) ∧ Below w.heap.size w w' := by
  have h4 : rl ≤ 4 := by have := hr.1; have := (p.may_of hm).2.2.1.2; omega
  have hc4 : cl ≤ 4 := by have := (p.may_of hm).1.2; omega
  have hrow := (p.row_of hm i (by have := hr.1; omega)).1
  have HR : Hid (RowsAt w ra rl p.rows) := hr
  clear hr hm
  by_cases hjc : (j : Int) < cl
  · have HE : Hid (Num.hasF p j i = (p.rows[i]?.getD ([], 0)).1[j]?.getD 0) := Num.hasF_in p j i _ rfl (by omega)
    rcases (RowsAt.below HR.out (balloc w (.cells #[.slice ca cl cc, .slice ra rl rc] 40)) (Nat.le_refl _)).2 with h | ⟨b, off, ha, hbs, hc⟩
    · omega
    obtain ⟨xa, xl, xc, c0, c1, hx, hxl⟩ := hc i hi
    clear hc
    generalize p.rows[i]?.getD ([], 0) = r at *
    rcases hx.2 with h | ⟨b2, o2, ha2, hb2, hc2⟩
    · have := hx.1; omega
    have hxe : xl = cl := by have := hx.1; omega
    have c2 := hc2 j (by omega)
    clear hc2 hx hxl hrow
    generalize r.1[j]?.getD 0 = x at c2 HE
    clear hcl
    subst ha ha2 hxe
    go_enter Try.func60, Try.ntmps60
    go_wp2_with fail
    go_ret
    exact ⟨ret_int HE.out.symm, balloc _ _⟩
  · have hjc' : decide ((j : Int) < cl) = false := by simpa using hjc
    by_cases hje : j = cl + i
    · have HE : Hid (Num.hasF p j i = 1) := Num.hasF_one p j i (by omega)
      have hje' : ((j : Int) == cl + i) = true := beq_iff_eq.2 (by omega)
      clear hje hcl hrow
      go_enter Try.func60, Try.ntmps60
      go_wp2_with fail
      go_ret
      exact ⟨ret_int HE.out.symm, balloc _ _⟩
    · have HE : Hid (Num.hasF p j i = 0) := Num.hasF_zero p j i (by omega) (by omega)
      have hje' : ((j : Int) == cl + i) = false := beq_eq_false_iff_ne.2 (by omega)
      clear hje hcl hrow
      go_enter Try.func60, Try.ntmps60
      go_wp2_with fail
      go_ret
      exact ⟨ret_int HE.out.symm, balloc _ _⟩

set_option maxHeartbeats 400000 in
theorem cost_any (ca : Option Addr) (cl cc : Nat) (ra : Option Addr) (rl rc : Nat) (costs : List Int) (w : World) (hc : Ints w ca cl costs) (j : Nat) :
    Calls Try.prog 61 #[.agg #[.slice ca cl cc, .slice ra rl rc], .int .i64 j] w fun e w' => e = .returned (.int .i64 (costs[j]?.getD 0)) ∧ Below w.heap.size w w' := by
  have HL : Hid (cl = costs.length) := hc.1
  by_cases hj : (j : Int) < cl
  · rcases (Ints.below hc (balloc w (.cells #[.slice ca cl cc, .slice ra rl rc] 40)) (Nat.le_refl _)).2 with hi | ⟨b, off, ha, hb, hcc⟩
    · omega
    have hck := hcc j (by omega)
    clear hcc
    generalize costs[j]?.getD 0 = x at *
    clear hc
    subst ha
    go_enter Try.func61, Try.ntmps61
    go_wp2_with fail
    go_ret
    exact ⟨rfl, balloc _ _⟩
  · have hj' : decide ((j : Int) < cl) = false := by simpa using hj
    have HZ : Hid (costs[j]?.getD 0 = 0) := by have := HL.out; show costs[j]?.getD 0 = 0; rw [List.getElem?_eq_none (by omega)]; rfl
    clear hc
    go_enter Try.func61, Try.ntmps61
    go_wp2_with fail
    go_ret
    exact ⟨ret_int HZ.out.symm, balloc _ _⟩

/-- A row of numbers of a call's own. -/
def RowOwn (w : World) (base : Nat) (v : Value) (l : List Int) : Prop := w.ownsRow base 2 1 v l.length (l.map (Value.int .i64))

/-- A slice of the call's own of rows of its own. -/
def RowsOwn (w : World) (base : Nat) (v : Value) (ls : List (List Int)) : Prop :=
  ∃ vs : List Value, w.ownsRow base 22 1 v ls.length vs ∧ ∀ j, j < ls.length → ∃ u, vs[j]? = some u ∧ RowOwn w base u (ls[j]?.getD [])

theorem own_block {w : World} {base n : Nat} {t : TypeId} {v : Value} {xs : List Value} (h : w.ownsRow base t 1 v n xs) {g : Nat} (hg : v.ownBlock = some g) : ∃ cur, w.heap[g]? = some (.cells cur t (0, 0)) := by
  rcases h.2 with ⟨hv, _⟩ | ⟨g', cap, cur, hv, _, hh, _⟩
  · subst hv; simp [Value.ownBlock] at hg
  · subst hv
    simp [Value.ownBlock] at hg
    subst hg
    exact ⟨cur, hh⟩

/-- A row of numbers is kept where a row of slices grows. -/
theorem RowOwn.grown {w w' : World} {base n : Nat} {u v : Value} {l : List Int} {vs : List Value} (h : RowOwn w base u l) (ho : w.ownsRow base 22 1 v n vs) (hg : w.grownBy w' v.ownBlock) : RowOwn w' base u l := by
  refine World.ownsRow.kept h hg ?_
  cases e : u.ownBlock with
  | none => exact Or.inl rfl
  | some g =>
    refine Or.inr fun e2 => ?_
    obtain ⟨c1, h1⟩ := own_block h e
    obtain ⟨c2, h2⟩ := own_block ho e2.symm
    rw [h1] at h2
    simp at h2

theorem RowOwn.kept {w w' : World} {base : Nat} {u : Value} {l : List Int} (h : RowOwn w base u l) (hb : Below w.heap.size w w') : RowOwn w' base u l :=
  World.ownsRow.kept (row := none) h ⟨hb.os, hb.tape, hb.output, hb.size, fun k hk _ => hb.block k hk⟩ (by cases u.ownBlock <;> simp)

theorem RowsOwn.kept {w w' : World} {base : Nat} {v : Value} {ls : List (List Int)} (h : RowsOwn w base v ls) (hb : Below w.heap.size w w') : RowsOwn w' base v ls := by
  obtain ⟨vs, h, hin⟩ := h
  refine ⟨vs, World.ownsRow.kept (row := none) h ⟨hb.os, hb.tape, hb.output, hb.size, fun k hk _ => hb.block k hk⟩ (by cases v.ownBlock <;> simp), fun j hj => ?_⟩
  obtain ⟨u, h1, h2⟩ := hin j hj
  exact ⟨u, h1, h2.kept hb⟩

theorem RowsOwn.nil (w : World) (base : Nat) : RowsOwn w base (.slice none 0 0) [] := ⟨[], World.ownsRow_nil _ _ _ _, fun _ hj => absurd hj (Nat.not_lt_zero _)⟩

/-- One more row. -/
theorem RowsOwn.push {w w' : World} {base : Nat} {u v v' : Value} {ls : List (List Int)} {l : List Int} {vs : List Value} (ho : w.ownsRow base 22 1 v ls.length vs) (hin : ∀ j, j < ls.length → ∃ u, vs[j]? = some u ∧ RowOwn w base u (ls[j]?.getD [])) (hu : RowOwn w base u l)
    (ho' : w'.ownsRow base 22 1 v' (ls.length + 1) (vs ++ [u])) (hg : w.grownBy w' v.ownBlock) : RowsOwn w' base v' (ls ++ [l]) := by
  have hl : vs.length = ls.length := by simpa using ho.1
  refine ⟨vs ++ [u], by simpa using ho', fun j hj => ?_⟩
  rw [List.length_append, List.length_singleton] at hj
  by_cases hjk : j < ls.length
  · obtain ⟨u', h1, h2⟩ := hin j hjk
    refine ⟨u', by rw [List.getElem?_append_left (by omega)]; exact h1, ?_⟩
    rw [List.getElem?_append_left hjk]
    exact h2.grown ho hg
  · obtain rfl : j = ls.length := by omega
    refine ⟨u, by rw [List.getElem?_append_right (by omega), hl]; simp, ?_⟩
    rw [List.getElem?_append_right (by omega)]
    simpa using hu.grown ho hg

theorem RowOwn.ints {w : World} {base : Nat} {u : Value} {l : List Int} (h : RowOwn w base u l) : ∃ a c, u = .slice a l.length c ∧ l.length ≤ c ∧ Ints w a l.length l := by
  have h' := h
  rcases h.2 with ⟨hv, h0⟩ | ⟨g, cap, cur, hv, hb, _, hc, _⟩
  · refine ⟨none, 0, by rw [h0]; exact hv, by omega, ⟨rfl, Or.inl h0⟩⟩
  · subst hv
    refine ⟨_, cap, rfl, hc, Ints.ofOwn h' rfl fun j hj => ?_⟩
    rw [List.getElem?_map, List.getElem?_eq_getElem hj]
    simp

/-- Rows of the call's own, read. -/
theorem RowsOwn.lines {w : World} {base : Nat} {v : Value} {ls : List (List Int)} (h : RowsOwn w base v ls) : ∃ a c, v = .slice a ls.length c ∧ ls.length ≤ c ∧ Lines w a ls.length ls := by
  obtain ⟨vs, h, hin⟩ := h
  have hl : vs.length = ls.length := by simpa using h.1
  have h' := h
  rcases h.2 with ⟨hv, h0⟩ | ⟨g, cap, cur, hv, hb, _, hc, _⟩
  · refine ⟨none, 0, by rw [h0]; exact hv, by omega, ⟨rfl, Or.inl h0⟩⟩
  · subst hv
    refine ⟨_, cap, rfl, hc, rfl, Or.inr ⟨g, 0, rfl, (World.ownsRow.lt h' g rfl).2, fun j hj => ?_⟩⟩
    obtain ⟨u, h1, h2⟩ := hin j hj
    obtain ⟨a, c, hu, hc', hi⟩ := h2.ints
    refine ⟨a, _, c, ?_, hi, hc'⟩
    rw [Nat.zero_add, World.ownsRow.cellAt h' j (by omega), h1, hu]

end Go.Proofs.Ytjpliphobnflpaa
