/- A slice of the call's own of slices of ints that lie elsewhere: it grows, one by one. -/
import Derived.Test.YtipcbhodlgoflabGreatSrt0
import Derived.Maps.AppendAt
namespace Go.Proofs.YtipcbhodlgoflabGreat
open Go.RowKit

theorem Tryz.infoSlI : (Tryz.prog.info? 58).map (fun i => (i.zero, i.size, i.bytes)) = some (some (.slice none 0 0), 1, 24) := by kernel_rfl

/-- A slice of slices of numbers. -/
def LinesN (w : World) (a : Option Addr) (len : Nat) (ls : List (List Int)) : Prop :=
  len = ls.length ∧ (len = 0 ∨ ∃ b off, a = some ⟨b, off, none⟩ ∧ b < w.heap.size ∧ ∀ j, j < len → ∃ ra rl rc, w.cell? ⟨b, off + j, none⟩ = some (.slice ra rl rc) ∧ Ints w ra rl (ls[j]?.getD []))

theorem LinesN.below {w w' : World} {a : Option Addr} {len : Nat} {ls : List (List Int)} (h : LinesN w a len ls) (hb : Below w.heap.size w w') : LinesN w' a len ls := by
  obtain ⟨h1, h2⟩ := h
  refine ⟨h1, ?_⟩
  rcases h2 with h2 | ⟨b, off, ha, hs, hc⟩
  · exact Or.inl h2
  · refine Or.inr ⟨b, off, ha, Nat.lt_of_lt_of_le hs hb.size, fun j hj => ?_⟩
    obtain ⟨ra, rl, rc, c0, hi⟩ := hc j hj
    exact ⟨ra, rl, rc, by rw [hb.cell (p := ⟨b, off + j, none⟩) hs]; exact c0, hi.below hb (Nat.le_refl _)⟩

theorem LinesN.nil (w : World) : LinesN w none 0 [] := ⟨rfl, Or.inl rfl⟩

/-- A slice of numbers that lies not in the row of v. -/
def Off (w : World) (v : Value) (a : Option Addr) (n : Nat) : Prop := n = 0 ∨ ∃ b off, a = some ⟨b, off, none⟩ ∧ b < w.heap.size ∧ v.ownBlock ≠ some b

/-- A slice of the call's own of slices that lie elsewhere. -/
def LinesO (w : World) (base : Nat) (v : Value) (ls : List (List Int)) : Prop :=
  ∃ vs : List Value, w.ownsRow base 58 1 v ls.length vs ∧ ∀ j, j < ls.length → ∃ a n c, vs[j]? = some (.slice a n c) ∧ Ints w a n (ls[j]?.getD []) ∧ Off w v a n

theorem LinesO.nil (w : World) (base : Nat) : LinesO w base (.slice none 0 0) [] := ⟨[], World.ownsRow_nil _ _ _ _, fun _ hj => absurd hj (Nat.not_lt_zero _)⟩

theorem Off.below {w w' : World} {v : Value} {a : Option Addr} {n : Nat} (h : Off w v a n) (hb : Below w.heap.size w w') : Off w' v a n := by
  rcases h with h | ⟨b, off, h1, h2, h3⟩
  · exact Or.inl h
  · exact Or.inr ⟨b, off, h1, Nat.lt_of_lt_of_le h2 hb.size, h3⟩

theorem LinesO.below {w w' : World} {base : Nat} {v : Value} {ls : List (List Int)} (h : LinesO w base v ls) (hb : Below w.heap.size w w') : LinesO w' base v ls := by
  obtain ⟨vs, h, hin⟩ := h
  refine ⟨vs, World.ownsRow.kept (row := none) h ⟨hb.os, hb.tape, hb.output, hb.size, fun k hk _ => hb.block k hk⟩ (by cases v.ownBlock <;> simp), fun j hj => ?_⟩
  obtain ⟨a, n, c, h1, h3, h4⟩ := hin j hj
  exact ⟨a, n, c, h1, h3.below hb (Nat.le_refl _), h4.below hb⟩

theorem Ints.grown {w w' : World} {v : Value} {a : Option Addr} {n : Nat} {l : List Int} (h : Ints w a n l) (ho : Off w v a n) (hg : w.grownBy w' v.ownBlock) : Ints w' a n l := by
  obtain ⟨h1, h2⟩ := h
  refine ⟨h1, ?_⟩
  rcases ho with h0 | ⟨b, off, ha, hlt, hne⟩
  · exact Or.inl h0
  · rcases h2 with h2 | ⟨b', off', ha', hs, hc⟩
    · exact Or.inl h2
    · rw [ha] at ha'
      simp only [Option.some.injEq, Addr.mk.injEq, and_true] at ha'
      obtain ⟨rfl, rfl⟩ := ha'
      refine Or.inr ⟨b, off, ha, Nat.lt_of_lt_of_le hs hg.size, fun j hj => ?_⟩
      rw [World.cell?_of_block (w := w) (a := ⟨b, off + j, none⟩) (hg.block b hlt (fun e => hne e.symm))]
      exact hc j hj

theorem Off.grown {w w' : World} {v v' : Value} {a : Option Addr} {n : Nat} (ho : Off w v a n) (hg : w.grownBy w' v.ownBlock) (hv : v'.ownBlock = v.ownBlock ∨ v'.ownBlock = some w.heap.size) : Off w' v' a n := by
  rcases ho with h0 | ⟨b, off, ha, hlt, hne⟩
  · exact Or.inl h0
  · refine Or.inr ⟨b, off, ha, Nat.lt_of_lt_of_le hlt hg.size, ?_⟩
    rcases hv with hv | hv
    · rw [hv]; exact hne
    · rw [hv]
      intro e
      simp only [Option.some.injEq] at e
      omega

/-- One more. -/
theorem LinesO.push {w w' : World} {base : Nat} {v v' : Value} {ls : List (List Int)} {l : List Int} {vs : List Value} {a : Option Addr} {n c : Nat} (ho : w.ownsRow base 58 1 v ls.length vs)
    (hin : ∀ j, j < ls.length → ∃ a n c, vs[j]? = some (.slice a n c) ∧ Ints w a n (ls[j]?.getD []) ∧ Off w v a n) (hi : Ints w a n l) (hoff : Off w v a n)
    (ho' : w'.ownsRow base 58 1 v' (ls.length + 1) (vs ++ [.slice a n c])) (hg : w.grownBy w' v.ownBlock) (hv : v'.ownBlock = v.ownBlock ∨ v'.ownBlock = some w.heap.size) : LinesO w' base v' (ls ++ [l]) := by
  have hl : vs.length = ls.length := by simpa using ho.1
  refine ⟨vs ++ [.slice a n c], by simpa using ho', fun j hj => ?_⟩
  rw [List.length_append, List.length_singleton] at hj
  by_cases hjk : j < ls.length
  · obtain ⟨a', n', c', h1, h3, h4⟩ := hin j hjk
    refine ⟨a', n', c', by rw [List.getElem?_append_left (by omega)]; exact h1, ?_, h4.grown hg hv⟩
    rw [List.getElem?_append_left hjk]
    exact h3.grown h4 hg
  · obtain rfl : j = ls.length := by omega
    refine ⟨a, n, c, by rw [List.getElem?_append_right (by omega), hl]; simp, ?_, hoff.grown hg hv⟩
    rw [List.getElem?_append_right (by omega)]
    simpa using hi.grown hoff hg

theorem LinesO.lines {w : World} {base : Nat} {v : Value} {ls : List (List Int)} (h : LinesO w base v ls) : ∃ a c, v = .slice a ls.length c ∧ LinesN w a ls.length ls := by
  obtain ⟨vs, h, hin⟩ := h
  have hl : vs.length = ls.length := by simpa using h.1
  have h' := h
  rcases h.2 with ⟨hv, h0⟩ | ⟨g, cap, cur, hv, hb, _, hc, _⟩
  · refine ⟨none, 0, by rw [h0]; exact hv, ⟨rfl, Or.inl h0⟩⟩
  · subst hv
    refine ⟨_, cap, rfl, rfl, Or.inr ⟨g, 0, rfl, (World.ownsRow.lt h' g rfl).2, fun j hj => ?_⟩⟩
    obtain ⟨a, n, c, h1, h3, _⟩ := hin j hj
    refine ⟨a, n, c, ?_, h3⟩
    rw [Nat.zero_add, World.ownsRow.cellAt h' j (by omega), h1]

/-- A slice's length. -/
def lenOf : Value → Nat
  | .slice _ n _ => n
  | _ => 0

/-- The block of a row lies from its base on, and was there. -/
theorem own_lt {w : World} {base n : Nat} {t : TypeId} {v : Value} {xs : List Value} (h : w.ownsRow base t 1 v n xs) (g : Nat) (hg : v.ownBlock = some g) : base ≤ g ∧ g < w.heap.size := World.ownsRow.lt h g hg

theorem Off.fresh {w : World} {v : Value} {base n : Nat} {t : TypeId} {xs : List Value} (h : w.ownsRow base t 1 v n xs) {w' : World} {a : Option Addr} {k : Nat} (hf : k = 0 ∨ ∃ g, a = some ⟨g, 0, none⟩ ∧ w.heap.size ≤ g) {l : List Int} (hi : Ints w' a k l) : Off w' v a k := by
  rcases hf with h0 | ⟨g, ha, hg⟩
  · exact Or.inl h0
  · rcases hi.2 with h0 | ⟨b, off, ha', hs, _⟩
    · exact Or.inl h0
    · rw [ha] at ha'
      simp only [Option.some.injEq, Addr.mk.injEq, and_true] at ha'
      obtain ⟨rfl, rfl⟩ := ha'
      refine Or.inr ⟨g, 0, ha, hs, fun e => ?_⟩
      have := (own_lt h g e).2
      omega

theorem Off.low {w : World} {v : Value} {base n : Nat} {t : TypeId} {xs : List Value} {wv : World} (h : wv.ownsRow base t 1 v n xs) {a : Option Addr} {k : Nat} {l : List Int} (hi : Ints w a k l) (hlow : k = 0 ∨ ∃ b off, a = some ⟨b, off, none⟩ ∧ b < base) : Off w v a k := by
  rcases hlow with h0 | ⟨b, off, ha, hb⟩
  · exact Or.inl h0
  · rcases hi.2 with h0 | ⟨b', off', ha', hs, _⟩
    · exact Or.inl h0
    · rw [ha] at ha'
      simp only [Option.some.injEq, Addr.mk.injEq, and_true] at ha'
      obtain ⟨rfl, rfl⟩ := ha'
      refine Or.inr ⟨b, off, ha, hs, fun e => ?_⟩
      have := (own_lt h b e).1
      omega

end Go.Proofs.YtipcbhodlgoflabGreat
