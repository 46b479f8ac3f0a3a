/- What the document's Costs does (chapter 7). -/
import Derived.Test.YtloncgmgcnaalabSpnW4
import Derived.Test.YtloncgmgcnaalabCornR5
namespace Go.Proofs.Ytloncgmgcnaalab
open Go.RowKit

theorem Num.span_bd {A B : Nat → Int} {k : Nat} {s : Num.Spn} (h : Num.SpanIs A B k s) :
    (-1073741824 ≤ s.n ∧ s.n ≤ 1073741824) ∧ (-1073741824 ≤ s.d ∧ s.d ≤ 1073741824) ∧ (-1073741824 ≤ s.n2 ∧ s.n2 ≤ 1073741824) ∧ (-1073741824 ≤ s.d2 ∧ s.d2 ≤ 1073741824) := by
  have h1 : (-1073741824 ≤ s.n ∧ s.n ≤ 1073741824) ∧ (-1073741824 ≤ s.d ∧ s.d ≤ 1073741824) := by
    rcases h.lo with ⟨_, e1, e2, _⟩ | ⟨e0, _⟩
    · rw [e1, e2]; decide
    · have := Num.may_bd (Num.lo_den A B k _ _ _ h.lo e0).2; omega
  have h2 : (-1073741824 ≤ s.n2 ∧ s.n2 ≤ 1073741824) ∧ (-1073741824 ≤ s.d2 ∧ s.d2 ≤ 1073741824) := by
    rcases h.hi with ⟨_, e1, e2, _⟩ | ⟨e0, _⟩
    · rw [e1, e2]; decide
    · have := Num.may_bd (Num.hi_den A B k _ _ _ h.hi e0).2; omega
  exact ⟨h1.1, h1.2, h2.1, h2.2⟩

/-- The document's Look, of columns of which there is one way. -/
theorem rlook_is (ca : Option Addr) (cl cc : Nat) (ra : Option Addr) (rl rc : Nat) (p : Num.Lp) (w : World) (hc : Ints w ca cl p.costs) (hr : RowsAt w ra rl p.rows) (aa : Option Addr) (al ac : Nat) (at' : List Int) (ha : Ints w aa al at')
    (h : p.may = true ∧ Num.rightB at' p.rows.length (p.costs.length + p.rows.length) = true ∧ Num.denL p at' p.rows.length ≠ 0) :
    Calls Try.prog 10 #[.agg #[.slice ca cl cc, .slice ra rl rc], .slice aa al ac] w fun e w' => ∃ xa xl xc ya yl yc ga gl gc, e = .returned (.tuple #[.agg #[.slice xa xl xc, .int .i64 (Num.look p at').xd, .slice ya yl yc, .int .i64 (Num.look p at').yd, .slice ga gl gc, .int .i64 (Num.look p at').gd], .bool true]) ∧
      Ints w' xa xl (Num.look p at').x ∧ Ints w' ga gl (Num.look p at').g ∧ Below w.heap.size w w' := by
  obtain ⟨hm, hri, hd⟩ := h
  have e1 := hr.1
  have e2 := hc.1
  have h1 := (p.may_of hm).1.2
  have h2 := (p.may_of hm).2.2.1.2
  obtain ⟨hl, hat⟩ := Num.right_all at' p.rows.length _ hri
  have e3 : al = rl := by have := ha.1; omega
  subst e3
  rw [Num.look_some p at' hm hri hd al (cl + al) e1 (by rw [← e2, ← e1])]
  refine (rlook_any ca cl cc ra al rc p w hc hr aa ac at' ha hm (cl + al) rfl (by omega) (fun k hk => by have := hat k (by omega); omega) _ _ _ _ _ _ _ _ _ rfl rfl rfl).mono ?_
  rintro e w' ⟨hb, ⟨h0, _⟩ | ⟨_, xa, xl, xc, ya, yl, yc, ga, gl, gc, he, hx, _, hg, _, _, _⟩⟩
  · rw [e1] at h0; exact absurd h0 hd
  · exact ⟨xa, xl, xc, ya, yl, yc, ga, gl, gc, he, hx, hg, hb⟩

end Go.Proofs.Ytloncgmgcnaalab
