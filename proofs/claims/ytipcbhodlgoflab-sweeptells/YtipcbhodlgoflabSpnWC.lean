/- What the document's Costs does (chapter 7). -/
import Derived.Test.YtipcbhodlgoflabSpnWB
import Derived.Test.YtipcbhodlgoflabCornR
namespace Go.Proofs.Ytipcbhodlgoflab
open Go.RowKit

theorem Num.span_bd {A B : Nat → Int} {k : Nat} {s : Num.Spn} (h : Num.SpanIs A B k s) :
    (-1073741824 ≤ s.n ∧ s.n ≤ 1073741824) ∧ (-1073741824 ≤ s.d ∧ s.d ≤ 1073741824) ∧ (-1073741824 ≤ s.n2 ∧ s.n2 ≤ 1073741824) ∧ (-1073741824 ≤ s.d2 ∧ s.d2 ≤ 1073741824) := by
  have h1 : (-1073741824 ≤ s.n ∧ s.n ≤ 1073741824) ∧ (-1073741824 ≤ s.d ∧ s.d ≤ 1073741824) := by
    rcases h.lo with ⟨_, e1, e2, _⟩ | ⟨e0, _⟩
    · rw [e1, e2]; decide
    · have := Num.may_bd (Num.lo_den A B k _ _ _ h.lo e0).2; omega
  have h2 : (-1073741824 ≤ s.n2 ∧ s.n2 ≤ 1073741824) ∧ (-1073741824 ≤ s.d2 ∧ s.d2 ≤ 1073741824) := by
    rcases h.hi with ⟨_, e1, e2, _⟩ | ⟨e0, _⟩
    · rw [e1, e2]; decide
    · have := Num.may_bd (Num.hi_den A B k _ _ _ h.hi e0).2; omega
  exact ⟨h1.1, h1.2, h2.1, h2.2⟩

/-- The document's Look, of columns of which there is one way. -/
theorem rlook_is (ca : Option Addr) (cl cc : Nat) (ra : Option Addr) (rl rc : Nat) (p : Num.Lp) (w : World) (hc : Ints w ca cl p.costs) (hr : RowsAt w ra rl p.rows) (aa : Option Addr) (al ac : Nat) (at' : List Int) (ha : Ints w aa al at')
    (h : p.may = true ∧ Num.rightB at' p.rows.length (p.costs.length + p.rows.length) = true ∧ Num.denL p at' p.rows.length ≠ 0) :
    Calls Try.prog 10 #[.agg #[.slice ca cl cc, .slice ra rl rc], .slice aa al ac] w fun e w' => ∃ xa xl xc ya yl yc ga gl gc, e = .returned (.tuple #[.agg #[.slice xa xl xc, .int .i64 (Num.look p at').xd, .slice ya yl yc, .int .i64 (Num.look p at').yd, .slice ga gl gc, .int .i64 (Num.look p at').gd], .bool true]) ∧
      Ints w' xa xl (Num.look p at').x ∧ Ints w' ga gl (Num.look p at').g ∧ Below w.heap.size w w' := by
  obtain ⟨hm, hri, hd⟩ := h
  have e1 := hr.1
  have e2 := hc.1
  have h1 := (p.may_of hm).1.2
  have h2 := (p.may_of hm).2.2.1.2
  obtain ⟨hl, hat⟩ := Num.right_all at' p.rows.length _ hri
  have e3 : al = rl := by have := ha.1; omega
  subst e3
  rw [Num.look_some p at' hm hri hd al (cl + al) e1 (by rw [← e2, ← e1])]
  refine (rlook_any ca cl cc ra al rc p w hc hr aa ac at' ha hm (cl + al) rfl (by omega) (fun k hk => by have := hat k (by omega); omega) _ _ _ _ _ _ _ _ _ rfl rfl rfl).mono ?_
  rintro e w' ⟨hb, ⟨h0, _⟩ | ⟨_, xa, xl, xc, ya, yl, yc, ga, gl, gc, he, hx, _, hg, _, _, _⟩⟩
  · rw [e1] at h0; exact absurd h0 hd
  · exact ⟨xa, xl, xc, ya, yl, yc, ga, gl, gc, he, hx, hg, hb⟩

theorem rlook_cap (ca : Option Addr) (cl cc : Nat) (ra : Option Addr) (rl rc : Nat) (p : Num.Lp) (w : World) (hc : Ints w ca cl p.costs) (hr : RowsAt w ra rl p.rows) (aa : Option Addr) (al ac : Nat) (at' : List Int) (ha : Ints w aa al at')
    (h : p.may = true ∧ Num.rightB at' p.rows.length (p.costs.length + p.rows.length) = true ∧ Num.denL p at' p.rows.length ≠ 0) :
    Calls Try.prog 10 #[.agg #[.slice ca cl cc, .slice ra rl rc], .slice aa al ac] w fun e w' => ∃ xa xl xc ya yl yc ga gl gc, e = .returned (.tuple #[.agg #[.slice xa xl xc, .int .i64 (Num.look p at').xd, .slice ya yl yc, .int .i64 (Num.look p at').yd, .slice ga gl gc, .int .i64 (Num.look p at').gd], .bool true]) ∧
      Ints w' xa xl (Num.look p at').x ∧ Ints w' ga gl (Num.look p at').g ∧ Below w.heap.size w w' ∧ xl ≤ xc := by
  obtain ⟨hm, hri, hd⟩ := h
  have e1 := hr.1
  have e2 := hc.1
  have h1 := (p.may_of hm).1.2
  have h2 := (p.may_of hm).2.2.1.2
  obtain ⟨hl, hat⟩ := Num.right_all at' p.rows.length _ hri
  have e3 : al = rl := by have := ha.1; omega
  subst e3
  rw [Num.look_some p at' hm hri hd al (cl + al) e1 (by rw [← e2, ← e1])]
  refine (rlook_farC ca cl cc ra al rc p w hc hr aa ac at' ha hm (cl + al) rfl (by omega) (fun k hk => by have := hat k (by omega); omega) _ _ _ _ _ _ _ _ _ rfl rfl rfl).mono ?_
  rintro e w' ⟨hb, ⟨h0, _⟩ | ⟨_, xa, xl, xc, ya, yl, yc, ga, gl, gc, he, hx, _, hg, _, _, _, _, hxc⟩⟩
  · rw [e1] at h0; exact absurd h0 hd
  · exact ⟨xa, xl, xc, ya, yl, yc, ga, gl, gc, he, hx, hg, hb, hxc⟩

/-- The document's Look, of columns of which there is not one way. -/
theorem rlook_no (ca : Option Addr) (cl cc : Nat) (ra : Option Addr) (rl rc : Nat) (p : Num.Lp) (w : World) (hc : Ints w ca cl p.costs) (hr : RowsAt w ra rl p.rows) (aa : Option Addr) (al ac : Nat) (at' : List Int) (ha : Ints w aa al at')
    (hm : p.may = true) (hri : Num.rightB at' p.rows.length (p.costs.length + p.rows.length) = true) (hd : Num.denL p at' p.rows.length = 0) :
    Calls Try.prog 10 #[.agg #[.slice ca cl cc, .slice ra rl rc], .slice aa al ac] w fun e w' => e = .returned (.tuple #[.agg #[.slice none 0 0, .int .i64 0, .slice none 0 0, .int .i64 0, .slice none 0 0, .int .i64 0], .bool false]) ∧ Below w.heap.size w w' := by
  have e1 := hr.1
  have e2 := hc.1
  have h1 := (p.may_of hm).1.2
  have h2 := (p.may_of hm).2.2.1.2
  obtain ⟨hl, hat⟩ := Num.right_all at' p.rows.length _ hri
  have e3 : al = rl := by have := ha.1; omega
  subst e3
  refine (rlook_any ca cl cc ra al rc p w hc hr aa ac at' ha hm (cl + al) rfl (by omega) (fun k hk => by have := hat k (by omega); omega) _ _ _ _ _ _ _ _ _ rfl rfl rfl).mono ?_
  rintro e w' ⟨hb, ⟨_, he⟩ | ⟨h0, _⟩⟩
  · exact ⟨he, hb⟩
  · rw [e1] at h0; exact absurd hd h0

end Go.Proofs.Ytipcbhodlgoflab

/- The boxes of the document's Costs and Mosts (chapter 7). -/
namespace Go.Proofs.Ytipcbhodlgoflab
open Go.RowKit

section
variable {P : Program} {l : List Oper} {Q : Exit → Act → World → Prop} {md : Region.Mode} {S : World → Prop}

/-- Take number i first, the region being written out. -/
theorem takeS {i : Nat} {oi : Oper} {v : Value} {fuel : Nat} {listed : Array Bool} {a : Act} {w : World} (hi : l[i]? = some oi)
    (hs : Region.noSelect l.toArray = true) (hf : Region.free md l.toArray listed i = true) (hr : (Region.ready md l.toArray listed).contains i = true)
    (hQ : ∀ c a w, Q (.panic c) (a.put oi.dst v) w → Q (.panic c) a w) (hy : YieldsIf P l.toArray S oi v a) (hS : S w)
    (h : wpAnyH P md l.toArray Q S fuel (listed.setIfInBounds i true) (a.put oi.dst v) w) : wpAnyH P md l.toArray Q S (fuel + 1) listed a w :=
  wpAnyH_take (by rw [List.getElem?_toArray]; exact hi) hs hf hr hQ hy hS h

/-- The one that is ready is carried out. -/
theorem readyS {i : Nat} {o : Oper} {fuel : Nat} {listed : Array Bool} {a : Act} {w : World} (hi : l[i]? = some o)
    (h : ∀ K' : Act → World → Prop, Shut (∀ a w, S w → (S w → wpAnyH P md l.toArray Q S fuel (listed.setIfInBounds i true) a w) → K' a w) → if Region.wanted o (yielded l.toArray a.tmps) = true then Oper.wp P o a w K' Q else K' (a.put o.dst undef) w) :
    AllReadyH P md l.toArray Q S fuel listed a w [i] :=
  AllReadyH.cons (by rw [List.getElem?_toArray]; exact hi) h AllReadyH.nil
end


theorem Ints.where_ {w : World} {a : Option Addr} {n : Nat} {l : List Int} (h : Ints w a n l) : n = 0 ∨ ∃ b off, a = some ⟨b, off, none⟩ ∧ b < w.heap.size := by
  rcases h.2 with h | ⟨b, off, e, hl, _⟩
  · exact Or.inl h
  · exact Or.inr ⟨b, off, e, hl⟩

theorem Ints.setOver {w : World} {a : Option Addr} {n g j B : Nat} {l : List Int} (h : Ints w a n l) (hf : n = 0 ∨ ∃ b off, a = some ⟨b, off, none⟩ ∧ b < B) (hg : B ≤ g) (u : Value) : Ints (w.setCell ⟨g, j, none⟩ u) a n l := by
  refine ⟨h.1, ?_⟩
  rcases h.2 with h0 | ⟨b', off, e, hlt, hc⟩
  · exact Or.inl h0
  · rcases hf with h0 | ⟨b, off2, e2, hb⟩
    · exact Or.inl h0
    · rw [e] at e2
      simp only [Option.some.injEq, Addr.mk.injEq] at e2
      refine Or.inr ⟨b', off, e, by simpa using hlt, fun k hk => ?_⟩
      rw [World.cell?_setCell_other _ _ _ _ (fun e => by injection e with e1; omega)]
      exact hc k hk

theorem Bx.other7 {b g : Nat} {vs : List Value} {w : World} (h : Bx b vs w) (hne : b ≠ g) (u0 u1 u2 u3 u4 u5 u6 : Value) : Bx b vs ((((((((w).setCell ⟨g, 0, none⟩ (u0)).setCell ⟨g, 1, none⟩ (u1)).setCell ⟨g, 2, none⟩ (u2)).setCell ⟨g, 3, none⟩ (u3)).setCell ⟨g, 4, none⟩ (u4)).setCell ⟨g, 5, none⟩ (u5)).setCell ⟨g, 6, none⟩ (u6)) :=
  ((((((h.other hne 0 u0).other hne 1 u1).other hne 2 u2).other hne 3 u3).other hne 4 u4).other hne 5 u5).other hne 6 u6

theorem Ints.setOver7 {w : World} {a : Option Addr} {n g B : Nat} {l : List Int} (h : Ints w a n l) (hf : n = 0 ∨ ∃ b off, a = some ⟨b, off, none⟩ ∧ b < B) (hg : B ≤ g) (u0 u1 u2 u3 u4 u5 u6 : Value) : Ints ((((((((w).setCell ⟨g, 0, none⟩ (u0)).setCell ⟨g, 1, none⟩ (u1)).setCell ⟨g, 2, none⟩ (u2)).setCell ⟨g, 3, none⟩ (u3)).setCell ⟨g, 4, none⟩ (u4)).setCell ⟨g, 5, none⟩ (u5)).setCell ⟨g, 6, none⟩ (u6)) a n l :=
  Ints.setOver (Ints.setOver (Ints.setOver (Ints.setOver (Ints.setOver (Ints.setOver (Ints.setOver h hf hg _) hf hg _) hf hg _) hf hg _) hf hg _) hf hg _) hf hg _

/-- The boxes of the document's Costs, and of its Mosts. -/
structure RC (w : World) (b8 b10 b12 : Nat) (c8 c10 : List Value) (ga ga2 : Option Addr) (N : Nat) (lg lg2 : List Int) (s : Num.Spn) (v : World) : Prop where
  bel : Below w.heap.size w v
  x8 : Bx b8 c8 v
  x10 : Bx b10 c10 v
  x12 : Bx b12 [.bool s.o, .int .i64 s.n, .int .i64 s.d, .bool s.o2, .int .i64 s.n2, .int .i64 s.d2, .bool s.no] v
  r : Bx (w.heap.size + 1) [.bool false, .int .i64 0, .int .i64 0, .bool false, .int .i64 0, .int .i64 0, .bool false] v
  i8 : Ints v ga N lg
  i10 : Ints v ga2 N lg2
  h8 : w.heap.size + 1 < b8
  h10 : b8 < b10
  h12 : b10 < b12
  ja : N = 0 ∨ ∃ b off, ga = some ⟨b, off, none⟩ ∧ b < b12
  ja2 : N = 0 ∨ ∃ b off, ga2 = some ⟨b, off, none⟩ ∧ b < b12

theorem RC.step {w : World} {b8 b10 b12 : Nat} {c8 c10 : List Value} {ga ga2 : Option Addr} {N : Nat} {lg lg2 : List Int} {s : Num.Spn} {v v' : World} (h : RC w b8 b10 b12 c8 c10 ga ga2 N lg lg2 s v) (hb : Below v.heap.size v v') : RC w b8 b10 b12 c8 c10 ga ga2 N lg lg2 s v' :=
  ⟨bstep h.bel hb, h.x8.step hb, h.x10.step hb, h.x12.step hb, h.r.step hb, h.i8.below hb (Nat.le_refl _), h.i10.below hb (Nat.le_refl _), h.h8, h.h10, h.h12, h.ja, h.ja2⟩

theorem RC.set {w : World} {b8 b10 b12 : Nat} {c8 c10 : List Value} {ga ga2 : Option Addr} {N : Nat} {lg lg2 : List Int} {s : Num.Spn} {v : World} (h : RC w b8 b10 b12 c8 c10 ga ga2 N lg lg2 s v) (s' : Num.Spn) : RC w b8 b10 b12 c8 c10 ga ga2 N lg lg2 s' ((((((((v).setCell ⟨b12, 0, none⟩ (.bool s'.o)).setCell ⟨b12, 1, none⟩ (.int .i64 s'.n)).setCell ⟨b12, 2, none⟩ (.int .i64 s'.d)).setCell ⟨b12, 3, none⟩ (.bool s'.o2)).setCell ⟨b12, 4, none⟩ (.int .i64 s'.n2)).setCell ⟨b12, 5, none⟩ (.int .i64 s'.d2)).setCell ⟨b12, 6, none⟩ (.bool s'.no)) := by
  have h8 := h.h8
  have h10 := h.h10
  have h12 := h.h12
  exact ⟨bset7 h.bel (by omega) _ _ _ _ _ _ _, h.x8.other7 (by omega) _ _ _ _ _ _ _, h.x10.other7 (by omega) _ _ _ _ _ _ _, h.x12.set7 _ _ _ _ _ _ _, h.r.other7 (by omega) _ _ _ _ _ _ _, h.i8.setOver7 h.ja (Nat.le_refl _) _ _ _ _ _ _ _, h.i10.setOver7 h.ja2 (Nat.le_refl _) _ _ _ _ _ _ _, h8, h10, h12, h.ja, h.ja2⟩

theorem endV_form (s : Num.Spn) : ∃ (o : Bool) (n d : Int) (o2 : Bool) (n2 d2 : Int) (no b : Bool), endV s = .tuple #[.agg #[.bool o, .int .i64 n, .int .i64 d, .bool o2, .int .i64 n2, .int .i64 d2, .bool no], .bool b] := by
  unfold endV
  split
  · exact ⟨_, _, _, _, _, _, _, _, rfl⟩
  · exact ⟨_, _, _, _, _, _, _, _, rfl⟩

/-- The boxes, whatever the span's own holds. -/
def RS (w : World) (b8 b10 b12 : Nat) (c8 c10 : List Value) (ga ga2 : Option Addr) (N : Nat) (lg lg2 : List Int) (v : World) : Prop := ∃ s, RC w b8 b10 b12 c8 c10 ga ga2 N lg lg2 s v

theorem RS.step {w : World} {b8 b10 b12 : Nat} {c8 c10 : List Value} {ga ga2 : Option Addr} {N : Nat} {lg lg2 : List Int} {v v' : World} (h : RS w b8 b10 b12 c8 c10 ga ga2 N lg lg2 v) (hb : Below v.heap.size v v') : RS w b8 b10 b12 c8 c10 ga ga2 N lg lg2 v' := by
  obtain ⟨s, h⟩ := h
  exact ⟨s, h.step hb⟩

theorem RS.set7 {w : World} {b8 b10 b12 : Nat} {c8 c10 : List Value} {ga ga2 : Option Addr} {N : Nat} {lg lg2 : List Int} {v : World} (h : RS w b8 b10 b12 c8 c10 ga ga2 N lg lg2 v) (o : Bool) (n d : Int) (o2 : Bool) (n2 d2 : Int) (no : Bool) : RS w b8 b10 b12 c8 c10 ga ga2 N lg lg2 ((((((((v).setCell ⟨b12, 0, none⟩ (.bool o)).setCell ⟨b12, 1, none⟩ (.int .i64 n)).setCell ⟨b12, 2, none⟩ (.int .i64 d)).setCell ⟨b12, 3, none⟩ (.bool o2)).setCell ⟨b12, 4, none⟩ (.int .i64 n2)).setCell ⟨b12, 5, none⟩ (.int .i64 d2)).setCell ⟨b12, 6, none⟩ (.bool no)) := by
  obtain ⟨s, h⟩ := h
  exact ⟨⟨o, n, d, o2, n2, d2, no⟩, h.set ⟨o, n, d, o2, n2, d2, no⟩⟩

end Go.Proofs.Ytipcbhodlgoflab

/- What the document's Costs does (chapter 7). -/
namespace Go.Proofs.Ytipcbhodlgoflab
open Go.RowKit

set_option maxRecDepth 4000 in
set_option maxHeartbeats 1600000 in
theorem rcosts_any (ca : Option Addr) (cl cc : Nat) (ra : Option Addr) (rl rc : Nat) (p : Num.Lp) (w : World) (hc : Ints w ca cl p.costs) (hr : RowsAt w ra rl p.rows)
    (aa : Option Addr) (al ac : Nat) (at' : List Int) (ha : Ints w aa al at') (ba : Option Addr) (bl bc : Nat) (y : List Int) (hy : Ints w ba bl y)
    (h : p.may = true ∧ Num.rightB at' p.rows.length (p.costs.length + p.rows.length) = true ∧ Num.denL p at' p.rows.length ≠ 0) (hly : y.length = p.costs.length) (hw : Num.withinB 400 y = true) :
    Calls Try.prog 12 #[.agg #[.slice ca cl cc, .slice ra rl rc], .slice aa al ac, .slice ba bl bc] w fun e w' => e = .returned (endV (Num.costsN p at' y)) ∧ Below w.heap.size w w' := by
  have HC : Hid (Ints w ca cl p.costs) := hc
  have HRo : Hid (RowsAt w ra rl p.rows) := hr
  have HA : Hid (Ints w aa al at') := ha
  have HY : Hid (Ints w ba bl y) := hy
  have HH : Hid (p.may = true ∧ Num.rightB at' p.rows.length (p.costs.length + p.rows.length) = true ∧ Num.denL p at' p.rows.length ≠ 0) := h
  have HH2 : Hid ((Num.withC p y).may = true ∧ Num.rightB at' (Num.withC p y).rows.length ((Num.withC p y).costs.length + (Num.withC p y).rows.length) = true ∧ Num.denL (Num.withC p y) at' (Num.withC p y).rows.length ≠ 0) := by
    refine ⟨Num.withC_may p y hly h.1 hw, ?_, ?_⟩
    · show Num.rightB at' p.rows.length (y.length + p.rows.length) = true
      rw [hly]; exact h.2.1
    · show Num.denL (Num.withC p y) at' p.rows.length ≠ 0
      rw [Num.withC_den p y hly]; exact h.2.2
  obtain ⟨N, hN⟩ : ∃ N, N = p.costs.length + p.rows.length := ⟨_, rfl⟩
  have hN8 : N ≤ 8 := by have := (p.may_of h.1).1.2; have := (p.may_of h.1).2.2.1.2; omega
  obtain ⟨k1, k2, k3, k4, _, _⟩ := Num.costs_parts p at' y h hly hw N hN
  obtain ⟨_, _, g1, _⟩ := Num.look_gain p at' p.rows.length p.costs.length h.1 rfl rfl h.2.1 h.2.2
  obtain ⟨_, _, g2, _⟩ := Num.look_gain (Num.withC p y) at' p.rows.length p.costs.length HH2.out.1 rfl hly.symm h.2.1 HH2.out.2.2
  have sp := Num.costs_span p p.costs y at' p.rows.length p.costs.length rfl rfl rfl hly h.1 HH2.out.1 h.2.1 h.2.2
  rw [Num.withC_self] at sp
  have HSM := sp.1
  generalize hA : (fun j : Nat => 0 - (Num.look p at').g[j]?.getD 0 * (Num.look (Num.withC p y) at').gd) = A
  generalize hB : (fun j : Nat => 0 - (Num.look (Num.withC p y) at').g[j]?.getD 0 * (Num.look p at').gd) = B
  have HAj : Hid (∀ j : Nat, A j = 0 - (Num.look p at').g[j]?.getD 0 * (Num.look (Num.withC p y) at').gd) := by intro j; rw [← hA]
  have HBj : Hid (∀ j : Nat, B j = 0 - (Num.look (Num.withC p y) at').g[j]?.getD 0 * (Num.look p at').gd) := by intro j; rw [← hB]
  have HSj : Hid (∀ j : Nat, Num.SmallP (A j) (B j)) := by intro j; rw [← hA, ← hB]; exact HSM j
  have HSI : Hid (∀ k : Nat, Num.SpanIs A B k (Num.spanS A B k)) := fun k => Num.span_is A B k fun j _ => HSj.out j
  have HRS : Hid (endV (Num.costsN p at' y) = endV (Num.spanS A B N)) := by show _ = _; unfold Num.costsN; rw [hA, hB, hN]
  rw [HRS.out]
  generalize hres : endV (Num.spanS A B N) = res
  have HRES : Hid (endV (Num.spanS A B N) = res) := hres
  have HK1 : Hid _ := k1
  have HK2 : Hid _ := k2
  have HK3 : Hid _ := k3
  have HK4 : Hid _ := k4
  clear hres HRS hA hB sp HSM k1 k2 k3 k4 hc hr ha hy h hly hw hN
  go_enter Try.func12, Try.ntmps12
  go_wp2_with fail
  have HB0 : Hid (Below w.heap.size w ((w.alloc (.cells #[.slice ca cl cc, .slice ra rl rc] 25)).alloc (.cells #[.bool false, .int .i64 0, .int .i64 0, .bool false, .int .i64 0, .int .i64 0, .bool false] 44))) := bstep (balloc _ _) (balloc _ _)
  refine (rlook_is _ _ _ _ _ _ p _ (Ints.below HC.out HB0.out (Nat.le_refl _)) (RowsAt.below HRo.out HB0.out (Nat.le_refl _)) _ _ _ at' (Ints.below HA.out HB0.out (Nat.le_refl _)) HH.out).mono ?_
  rintro e w1 ⟨xa, xl, xc, ya, yl, yc, ga, gl, gc, rfl, _, hg, hb1⟩
  have HP : Hid (Bx (w.heap.size) [.slice ca cl cc, .slice ra rl rc] w1) := ((Bx.new rfl _ _).step (balloc _ _)).step hb1
  have HR : Hid (Bx (w.heap.size + 1) [.bool false, .int .i64 0, .int .i64 0, .bool false, .int .i64 0, .int .i64 0, .bool false] w1) := (Bx.new (by simp) _ _).step hb1
  have HB1 : Hid (Below w.heap.size w w1) := bstep HB0.out hb1
  have hgl : N = gl := by have := hg.1; have := HK1.out; omega
  subst hgl
  have HG : Hid (Ints w1 ga N (Num.look p at').g) := hg
  clear hb1 hg HB0
  obtain ⟨p0, p1, _, _⟩ := HP.out.all2
  have z0 : w.heap.size < w1.heap.size := HP.out.lt
  generalize (Num.look p at').xd = dx at *
  generalize (Num.look p at').yd = dy at *
  generalize (Num.look p at').gd = dg at *
  generalize (Num.look p at').g = lg at *
  go_wp2_with fail
  have HB2 : Hid (Below w.heap.size w (w1.alloc (.cells #[.slice xa xl xc, .int .i64 dx, .slice ya yl yc, .int .i64 dy, .slice ga N gc, .int .i64 dg] 39))) := bstep HB1.out (balloc _ _)
  refine (rlook_is _ _ _ _ _ _ (Num.withC p y) _ (Ints.below HY.out HB2.out (Nat.le_refl _)) (RowsAt.below HRo.out HB2.out (Nat.le_refl _)) _ _ _ at' (Ints.below HA.out HB2.out (Nat.le_refl _)) HH2.out).mono ?_
  rintro e w2 ⟨xa2, xl2, xc2, ya2, yl2, yc2, ga2, gl2, gc2, rfl, _, hg2, hb2⟩
  have hgl2 : N = gl2 := by have := hg2.1; have := HK2.out; omega
  subst hgl2
  have HG2 : Hid (Ints w2 ga2 N (Num.look (Num.withC p y) at').g) := hg2
  have HX8 : Hid (Bx w1.heap.size [.slice xa xl xc, .int .i64 dx, .slice ya yl yc, .int .i64 dy, .slice ga N gc, .int .i64 dg] w2) := (Bx.new rfl _ _).step hb2
  have HR2 : Hid (Bx (w.heap.size + 1) [.bool false, .int .i64 0, .int .i64 0, .bool false, .int .i64 0, .int .i64 0, .bool false] w2) := (HR.out.step (balloc _ _)).step hb2
  have HGa : Hid (Ints w2 ga N lg) := Ints.below (Ints.below HG.out (balloc _ _) (Nat.le_refl _)) hb2 (Nat.le_refl _)
  have HB3 : Hid (Below w.heap.size w w2) := bstep HB2.out hb2
  have z1 : w.heap.size + 1 < w1.heap.size := HR.out.lt
  clear hb2 hg2 HG HR HP HB2 HB1 p0 p1 z0
  generalize (Num.look (Num.withC p y) at').xd = dx2 at *
  generalize (Num.look (Num.withC p y) at').yd = dy2 at *
  generalize (Num.look (Num.withC p y) at').gd = dg2 at *
  generalize (Num.look (Num.withC p y) at').g = lg2 at *
  go_wp2_with fail
  refine (whole_any _).mono ?_
  rintro e w3 ⟨rfl, hb3⟩
  have HRC : Hid (RC w w1.heap.size w2.heap.size w3.heap.size [.slice xa xl xc, .int .i64 dx, .slice ya yl yc, .int .i64 dy, .slice ga N gc, .int .i64 dg] [.slice xa2 xl2 xc2, .int .i64 dx2, .slice ya2 yl2 yc2, .int .i64 dy2, .slice ga2 N gc2, .int .i64 dg2] ga ga2 N lg lg2 (Num.spanS A B 0) (w3.alloc (.cells #[.bool true, .int .i64 0, .int .i64 0, .bool true, .int .i64 0, .int .i64 0, .bool false] 44))) := by
    have hs3 : w2.heap.size < w3.heap.size := by have := hb3.size; simp at this; omega
    have hw3 := HB3.out
    refine ⟨bstep (bstep (bstep HB3.out (balloc _ _)) hb3) (balloc _ _), ((HX8.out.step (balloc _ _)).step hb3).step (balloc _ _), ((Bx.new rfl _ _).step hb3).step (balloc _ _), Bx.new rfl _ _, ((HR2.out.step (balloc _ _)).step hb3).step (balloc _ _), Ints.below (Ints.below (Ints.below HGa.out (balloc _ _) (Nat.le_refl _)) hb3 (Nat.le_refl _)) (balloc _ _) (Nat.le_refl _), Ints.below (Ints.below (Ints.below HG2.out (balloc _ _) (Nat.le_refl _)) hb3 (Nat.le_refl _)) (balloc _ _) (Nat.le_refl _), z1, HX8.out.lt, hs3, ?_, ?_⟩
    · rcases HGa.out.where_ with h | ⟨b, off, h1, h2⟩
      · exact Or.inl h
      · exact Or.inr ⟨b, off, h1, by omega⟩
    · rcases HG2.out.where_ with h | ⟨b, off, h1, h2⟩
      · exact Or.inl h
      · exact Or.inr ⟨b, off, h1, by omega⟩
  clear hb3 HX8 HR2 HGa HG2 HB3
  generalize w1.heap.size = b8 at *
  generalize w2.heap.size = b10 at *
  generalize hb12 : w3.heap.size = b12 at HRC
  unfold spanV
  simp only [Num.wholeS]
  go_wp2_with fail
  clear hb12
  generalize w3.alloc (.cells #[.bool true, .int .i64 0, .int .i64 0, .bool true, .int .i64 0, .int .i64 0, .bool false] 44) = V at *
  generalize hc8 : ([.slice xa xl xc, .int .i64 dx, .slice ya yl yc, .int .i64 dy, .slice ga N gc, .int .i64 dg] : List Value) = c8 at HRC
  generalize hc10 : ([.slice xa2 xl2 xc2, .int .i64 dx2, .slice ya2 yl2 yc2, .int .i64 dy2, .slice ga2 N gc2, .int .i64 dg2] : List Value) = c10 at HRC
  have HC8 : Hid (∀ v, Bx b8 c8 v → v.cell? ⟨b8, 4, none⟩ = some (.slice ga N gc) ∧ v.cell? ⟨b8, 5, none⟩ = some (.int .i64 dg)) := by intro v h; subst hc8; exact ⟨h.c 4 _ rfl, h.c 5 _ rfl⟩
  have HC10 : Hid (∀ v, Bx b10 c10 v → v.cell? ⟨b10, 4, none⟩ = some (.slice ga2 N gc2) ∧ v.cell? ⟨b10, 5, none⟩ = some (.int .i64 dg2)) := by intro v h; subst hc10; exact ⟨h.c 4 _ rfl, h.c 5 _ rfl⟩
  clear hc8 hc10
  go_loopw [13] (fun i wr => ∃ k : Nat, k ≤ N ∧ i = .int .i64 k ∧ RC w b8 b10 b12 c8 c10 ga ga2 N lg lg2 (Num.spanS A B k) wr) (fun i _ => N - (intOf i).toNat)
  case atStart => exact ⟨0, Nat.zero_le _, rfl, HRC.out⟩
  case round =>
    obtain ⟨k, hk, rfl, hN⟩ := hrel
    have hS := HSI.out k
    obtain ⟨bd1, bd2, bd3, bd4⟩ := Num.span_bd hS
    obtain ⟨d0, d1⟩ := HC8.out _ hN.x8
    obtain ⟨d2, d3⟩ := HC10.out _ hN.x10
    obtain ⟨⟨s0, s1, s2, s3, s4, s5, s6⟩, sf0, sf1, sf2, sf3, sf4, sf5, sf6⟩ := hN.x12.all7
    have z8 : b8 < wr.heap.size := hN.x8.lt
    have z10 : b10 < wr.heap.size := hN.x10.lt
    have z12 : b12 < wr.heap.size := hN.x12.lt
    have HN : Hid _ := hN
    by_cases hlt : k < N
    · have HE : Hid (Num.spanS A B (k + 1) = Num.aboveS (Num.spanS A B k) (A k) (B k)) := rfl
      have hM := HSj.out k
      rcases hN.i8.2 with h | ⟨bn, on, hna, hbn, hcn⟩
      · omega
      rcases hN.i10.2 with h | ⟨bs, os, hsa, hbs, hcs⟩
      · omega
      have cn := hcn k hlt
      have cs := hcs k hlt
      have hx := HK3.out k
      have hx2 := HK4.out k
      have HAk := HAj.out k
      have HBk := HBj.out k
      clear hcn hcs hN hS
      have HXk : Hid (∀ v, Ints v ga N lg → v.cell? ⟨bn, on + k, none⟩ = some (.int .i64 (lg[k]?.getD 0))) := by
        intro v h
        rcases h.2 with h0 | ⟨b', o', he, _, hcc⟩
        · omega
        · rw [hna] at he
          simp only [Option.some.injEq, Addr.mk.injEq, and_true] at he
          rw [he.1, he.2]; exact hcc k hlt
      have HX2k : Hid (∀ v, Ints v ga2 N lg2 → v.cell? ⟨bs, os + k, none⟩ = some (.int .i64 (lg2[k]?.getD 0))) := by
        intro v h
        rcases h.2 with h0 | ⟨b', o', he, _, hcc⟩
        · omega
        · rw [hsa] at he
          simp only [Option.some.injEq, Addr.mk.injEq, and_true] at he
          rw [he.1, he.2]; exact hcc k hlt
      generalize lg[k]?.getD 0 = x at cn hx HAk HXk
      generalize lg2[k]?.getD 0 = x2 at cs hx2 HBk HX2k
      have hp1 := Num.mul_bd x dg2 1073741824 hx (by omega) (by omega)
      have hp2 := Num.mul_bd x2 dg 1073741824 hx2 (by omega) (by omega)
      simp only [show (1073741824 : Int) * 1073741824 = 1152921504606846976 from rfl] at hp1 hp2
      generalize hq1 : x * dg2 = q1 at *
      generalize hq2 : x2 * dg = q2 at *
      rw [HAk, HBk] at hM
      generalize hs1 : Num.spanS A B (k + 1) = s' at HE
      have HS1 : Hid (Num.spanS A B (k + 1) = s') := hs1
      clear hs1
      generalize Num.spanS A B k = s at *
      have KA : Hid (∀ v, Calls Try.prog 34 #[.agg #[.bool s.o, .int .i64 s.n, .int .i64 s.d, .bool s.o2, .int .i64 s.n2, .int .i64 s.d2, .bool s.no], .int .i64 (-q1), .int .i64 (-q2)] v fun e v' => e = .returned (.agg #[.bool s'.o, .int .i64 s'.n, .int .i64 s'.d, .bool s'.o2, .int .i64 s'.n2, .int .i64 s'.d2, .bool s'.no]) ∧ Below v.heap.size v v') := by
        intro v
        have := above7_any s (0 - q1) (0 - q2) v hM bd1 bd2 bd3 bd4
        rw [← HAk, ← HBk, ← HE.out, HAk, HBk, Int.zero_sub, Int.zero_sub] at this
        exact this
      clear HE hM HAk HBk HAj HBj HSj HSI HK1 HK2 HK3 HK4 HC HRo HA HY HH HH2
      subst hna hsa
      obtain ⟨so, sn, sd, so2, sn2, sd2, sno⟩ := s
      obtain ⟨so', sn', sd', so2', sn2', sd2', sno'⟩ := s'
      dsimp only at *
      go_wp2_with fail
      have wq1 : IntKind.i64.wrap q1 = q1 := by rw [IntWalk.i64_left]; exact IntWalk.wrap64_in _ (by omega)
      have wq2 : IntKind.i64.wrap q2 = q2 := by rw [IntWalk.i64_left]; exact IntWalk.wrap64_in _ (by omega)
      have wn1 : IntKind.i64.wrap (-q1) = -q1 := by rw [IntWalk.i64_left]; exact IntWalk.wrap64_in _ (by omega)
      have wn2 : IntKind.i64.wrap (-q2) = -q2 := by rw [IntWalk.i64_left]; exact IntWalk.wrap64_in _ (by omega)
      have q0 : ∀ v, RS w b8 b10 b12 c8 c10 (some ⟨bn, on, none⟩) (some ⟨bs, os, none⟩) N lg lg2 v → v.cell? ⟨b8, 4, none⟩ = some (.slice (some ⟨bn, on, none⟩) N gc) := fun v h => by obtain ⟨s, h⟩ := h; exact (HC8.out v h.x8).1
      have q1' : ∀ v, RS w b8 b10 b12 c8 c10 (some ⟨bn, on, none⟩) (some ⟨bs, os, none⟩) N lg lg2 v → v.cell? ⟨b8, 5, none⟩ = some (.int .i64 dg) := fun v h => by obtain ⟨s, h⟩ := h; exact (HC8.out v h.x8).2
      have q2' : ∀ v, RS w b8 b10 b12 c8 c10 (some ⟨bn, on, none⟩) (some ⟨bs, os, none⟩) N lg lg2 v → v.cell? ⟨b10, 4, none⟩ = some (.slice (some ⟨bs, os, none⟩) N gc2) := fun v h => by obtain ⟨s, h⟩ := h; exact (HC10.out v h.x10).1
      have q3 : ∀ v, RS w b8 b10 b12 c8 c10 (some ⟨bn, on, none⟩) (some ⟨bs, os, none⟩) N lg lg2 v → v.cell? ⟨b10, 5, none⟩ = some (.int .i64 dg2) := fun v h => by obtain ⟨s, h⟩ := h; exact (HC10.out v h.x10).2
      have q4 : ∀ v, RS w b8 b10 b12 c8 c10 (some ⟨bn, on, none⟩) (some ⟨bs, os, none⟩) N lg lg2 v → v.cell? ⟨bn, on + k, none⟩ = some (.int .i64 x) := fun v h => by obtain ⟨s, h⟩ := h; exact HXk.out v h.i8
      have q5 : ∀ v, RS w b8 b10 b12 c8 c10 (some ⟨bn, on, none⟩) (some ⟨bs, os, none⟩) N lg lg2 v → v.cell? ⟨bs, os + k, none⟩ = some (.int .i64 x2) := fun v h => by obtain ⟨s, h⟩ := h; exact HX2k.out v h.i10
      have hS0 : RS w b8 b10 b12 c8 c10 (some ⟨bn, on, none⟩) (some ⟨bs, os, none⟩) N lg lg2 wr.drew := ⟨_, HN.out.step (Below.refl _ _).drew⟩
      have i0 : (0 : Int) ≤ (k : Int) := by omega
      have i1 : (k : Int) < (N : Int) := by omega
      clear d0 d1 d2 d3 cn cs
      refine wp_region_held_drew (S := fun v => RS w b8 b10 b12 c8 c10 (some ⟨bn, on, none⟩) (some ⟨bs, os, none⟩) N lg lg2 v) (by kernel_rfl) ?_ (fun hHeld => ?_)
      · assumption
      refine takeS (i := 1) (v := ?_) rfl (by kernel_rfl) (by kernel_rfl) (by kernel_rfl) (fun _ _ _ h => h) (Or.inl ⟨by rfl, ?_⟩) (by assumption) ?_
      rotate_left
      · (intro w' hSw; go_simp; (try with_reducible rfl))
      simp only [Act.put, List.setIfInBounds_toArray, List.set_cons_zero, List.set_cons_succ]
      refine takeS (i := 2) (v := ?_) rfl (by kernel_rfl) (by kernel_rfl) (by kernel_rfl) (fun _ _ _ h => h) (Or.inl ⟨by rfl, ?_⟩) (by assumption) ?_
      rotate_left
      · (intro w' hSw; go_simp; (try with_reducible rfl))
      simp only [Act.put, List.setIfInBounds_toArray, List.set_cons_zero, List.set_cons_succ]
      refine takeS (i := 3) (v := ?_) rfl (by kernel_rfl) (by kernel_rfl) (by kernel_rfl) (fun _ _ _ h => h) (Or.inl ⟨by rfl, ?_⟩) (by assumption) ?_
      rotate_left
      · (intro w' hSw; go_simp; (try with_reducible rfl))
      simp only [Act.put, List.setIfInBounds_toArray, List.set_cons_zero, List.set_cons_succ]
      refine takeS (i := 4) (v := ?_) rfl (by kernel_rfl) (by kernel_rfl) (by kernel_rfl) (fun _ _ _ h => h) (Or.inl ⟨by rfl, ?_⟩) (by assumption) ?_
      rotate_left
      · (intro w' hSw; go_simp; (try with_reducible rfl))
      simp only [Act.put, List.setIfInBounds_toArray, List.set_cons_zero, List.set_cons_succ]
      refine takeS (i := 5) (v := ?_) rfl (by kernel_rfl) (by kernel_rfl) (by kernel_rfl) (fun _ _ _ h => h) (Or.inl ⟨by rfl, ?_⟩) (by assumption) ?_
      rotate_left
      · (intro w' hSw; go_simp; (try with_reducible rfl))
      simp only [Act.put, List.setIfInBounds_toArray, List.set_cons_zero, List.set_cons_succ]
      refine takeS (i := 6) (v := ?_) rfl (by kernel_rfl) (by kernel_rfl) (by kernel_rfl) (fun _ _ _ h => h) (Or.inl ⟨by rfl, ?_⟩) (by assumption) ?_
      rotate_left
      · (intro w' hSw; go_simp; (try with_reducible rfl))
      simp only [Act.put, List.setIfInBounds_toArray, List.set_cons_zero, List.set_cons_succ]
      refine takeS (i := 7) (v := ?_) rfl (by kernel_rfl) (by kernel_rfl) (by kernel_rfl) (fun _ _ _ h => h) (Or.inl ⟨by rfl, ?_⟩) (by assumption) ?_
      rotate_left
      · (intro w' hSw; go_simp; (try with_reducible rfl))
      simp only [Act.put, List.setIfInBounds_toArray, List.set_cons_zero, List.set_cons_succ]
      refine takeS (i := 8) (v := ?_) rfl (by kernel_rfl) (by kernel_rfl) (by kernel_rfl) (fun _ _ _ h => h) (Or.inl ⟨by rfl, ?_⟩) (by assumption) ?_
      rotate_left
      · (intro w' hSw; go_simp; (try with_reducible rfl))
      simp only [Act.put, List.setIfInBounds_toArray, List.set_cons_zero, List.set_cons_succ]
      refine takeS (i := 9) (v := ?_) rfl (by kernel_rfl) (by kernel_rfl) (by kernel_rfl) (fun _ _ _ h => h) (Or.inl ⟨by rfl, ?_⟩) (by assumption) ?_
      rotate_left
      · (intro w' hSw; go_simp; (try with_reducible rfl))
      simp only [Act.put, List.setIfInBounds_toArray, List.set_cons_zero, List.set_cons_succ]
      refine takeS (i := 10) (v := ?_) rfl (by kernel_rfl) (by kernel_rfl) (by kernel_rfl) (fun _ _ _ h => h) (Or.inl ⟨by rfl, ?_⟩) (by assumption) ?_
      rotate_left
      · (intro w' hSw; go_simp; (try with_reducible rfl))
      simp only [Act.put, List.setIfInBounds_toArray, List.set_cons_zero, List.set_cons_succ]
      refine takeS (i := 11) (v := ?_) rfl (by kernel_rfl) (by kernel_rfl) (by kernel_rfl) (fun _ _ _ h => h) (Or.inl ⟨by rfl, ?_⟩) (by assumption) ?_
      rotate_left
      · (intro w' hSw; go_simp; (try with_reducible rfl))
      simp only [Act.put, List.setIfInBounds_toArray, List.set_cons_zero, List.set_cons_succ]
      refine takeS (i := 12) (v := ?_) rfl (by kernel_rfl) (by kernel_rfl) (by kernel_rfl) (fun _ _ _ h => h) (Or.inl ⟨by rfl, ?_⟩) (by assumption) ?_
      rotate_left
      · (intro w' hSw; go_simp; (try with_reducible rfl))
      simp only [Act.put, List.setIfInBounds_toArray, List.set_cons_zero, List.set_cons_succ]
      refine takeS (i := 13) (v := ?_) rfl (by kernel_rfl) (by kernel_rfl) (by kernel_rfl) (fun _ _ _ h => h) (Or.inl ⟨by rfl, ?_⟩) (by assumption) ?_
      rotate_left
      · (intro w' hSw; go_simp; (try with_reducible rfl))
      simp only [Act.put, List.setIfInBounds_toArray, List.set_cons_zero, List.set_cons_succ]
      refine takeS (i := 14) (v := ?_) rfl (by kernel_rfl) (by kernel_rfl) (by kernel_rfl) (fun _ _ _ h => h) (Or.inl ⟨by rfl, ?_⟩) (by assumption) ?_
      rotate_left
      · (intro w' hSw; go_simp; (try with_reducible rfl))
      simp only [Act.put, List.setIfInBounds_toArray, List.set_cons_zero, List.set_cons_succ]
      refine takeS (i := 15) (v := ?_) rfl (by kernel_rfl) (by kernel_rfl) (by kernel_rfl) (fun _ _ _ h => h) (Or.inl ⟨by rfl, ?_⟩) (by assumption) ?_
      rotate_left
      · (intro w' hSw; go_simp; (try with_reducible rfl))
      simp only [Act.put, List.setIfInBounds_toArray, List.set_cons_zero, List.set_cons_succ]
      refine takeS (i := 16) (v := ?_) rfl (by kernel_rfl) (by kernel_rfl) (by kernel_rfl) (fun _ _ _ h => h) (Or.inl ⟨by rfl, ?_⟩) (by assumption) ?_
      rotate_left
      · (intro w' hSw; go_simp; (try with_reducible rfl))
      simp only [Act.put, List.setIfInBounds_toArray, List.set_cons_zero, List.set_cons_succ]
      refine takeS (i := 17) (v := ?_) rfl (by kernel_rfl) (by kernel_rfl) (by kernel_rfl) (fun _ _ _ h => h) (Or.inl ⟨by rfl, ?_⟩) (by assumption) ?_
      rotate_left
      · (intro w' hSw; go_simp; (try with_reducible rfl))
      simp only [Act.put, List.setIfInBounds_toArray, List.set_cons_zero, List.set_cons_succ]
      refine takeS (i := 18) (v := ?_) rfl (by kernel_rfl) (by kernel_rfl) (by kernel_rfl) (fun _ _ _ h => h) (Or.inl ⟨by rfl, ?_⟩) (by assumption) ?_
      rotate_left
      · (intro w' hSw; go_simp; (try with_reducible rfl))
      simp only [Act.put, List.setIfInBounds_toArray, List.set_cons_zero, List.set_cons_succ]
      refine takeS (i := 19) (v := ?_) rfl (by kernel_rfl) (by kernel_rfl) (by kernel_rfl) (fun _ _ _ h => h) (Or.inl ⟨by rfl, ?_⟩) (by assumption) ?_
      rotate_left
      · (intro w' hSw; go_simp; (try with_reducible rfl))
      simp only [Act.put, List.setIfInBounds_toArray, List.set_cons_zero, List.set_cons_succ]
      refine takeS (i := 20) (v := ?_) rfl (by kernel_rfl) (by kernel_rfl) (by kernel_rfl) (fun _ _ _ h => h) (Or.inl ⟨by rfl, ?_⟩) (by assumption) ?_
      rotate_left
      · (intro w' hSw; go_simp; (try with_reducible rfl))
      simp only [Act.put, List.setIfInBounds_toArray, List.set_cons_zero, List.set_cons_succ]
      refine takeS (i := 21) (v := ?_) rfl (by kernel_rfl) (by kernel_rfl) (by kernel_rfl) (fun _ _ _ h => h) (Or.inl ⟨by rfl, ?_⟩) (by assumption) ?_
      rotate_left
      · (intro w' hSw; go_simp; (try with_reducible rfl))
      simp only [Act.put, List.setIfInBounds_toArray, List.set_cons_zero, List.set_cons_succ]
      refine takeS (i := 22) (v := ?_) rfl (by kernel_rfl) (by kernel_rfl) (by kernel_rfl) (fun _ _ _ h => h) (Or.inl ⟨by rfl, ?_⟩) (by assumption) ?_
      rotate_left
      · (intro w' hSw; go_simp; (try with_reducible rfl))
      simp only [Act.put, List.setIfInBounds_toArray, List.set_cons_zero, List.set_cons_succ]
      refine wpAnyH_ready (rs := [0]) (by kernel_rfl) (by simp) ?_
      refine readyS rfl (fun K hK => ?_)
      go_simp
      refine hK.out _ _ ?_ (fun hHeld => ?_)
      · (first | (with_reducible assumption) | (with_reducible refine RS.set7 ?_ _ _ _ _ _ _ _; with_reducible assumption))
      clear hK K
      refine wpAnyH_ready (rs := [23]) (by kernel_rfl) (by simp) ?_
      refine readyS rfl (fun K hK => ?_)
      go_simp
      with_reducible refine (KA.out _).mono ?_
      rintro e w4 ⟨rfl, hb4⟩
      have hR4 := RS.step hS0 hb4
      have hX4 := (HN.out.x12.step (Below.refl _ _).drew).step hb4
      obtain ⟨⟨e0, e1, e2, e3, e4, e5, e6⟩, ef0, ef1, ef2, ef3, ef4, ef5, ef6⟩ := hX4.all7
      clear hX4
      go_wp2_with fail
      refine hK.out _ _ ?_ (fun hHeld => ?_)
      · (first | (with_reducible assumption) | (with_reducible refine RS.set7 ?_ _ _ _ _ _ _ _; with_reducible assumption))
      clear hK K
      refine wpAnyH_ready (rs := [24]) (by kernel_rfl) (by simp) ?_
      refine readyS rfl (fun K hK => ?_)
      go_simp
      refine hK.out _ _ ?_ (fun hHeld => ?_)
      · (first | (with_reducible assumption) | (with_reducible refine RS.set7 ?_ _ _ _ _ _ _ _; with_reducible assumption))
      clear hK K
      refine wpAnyH_done (by kernel_rfl) ?_ _
      go_wp2_with fail
      go_roundw
      case rel => exact ⟨k + 1, hlt, by go_num, by rw [HS1.out]; exact RC.set (HN.out.step ((Below.refl _ _).drew.trans (hb4.mono (Nat.le_refl _)))) ⟨so', sn', sd', so2', sn2', sd2', sno'⟩⟩
      case measure => simp [intOf]; omega
    · have hke : k = N := by omega
      subst hke
      obtain ⟨⟨r0, r1, r2, r3, r4, r5, r6⟩, rf0, rf1, rf2, rf3, rf4, rf5, rf6⟩ := hN.r.all7
      have zr : w.heap.size + 1 < wr.heap.size := hN.r.lt
      generalize Num.spanS A B k = s at *
      clear hN hS HSI HSj HAj HBj
      have KE : Hid (∀ v, Calls Try.prog 35 #[.agg #[.bool s.o, .int .i64 s.n, .int .i64 s.d, .bool s.o2, .int .i64 s.n2, .int .i64 s.d2, .bool s.no]] v fun e v' => e = .returned res ∧ Below v.heap.size v v') := by
        intro v
        have := end_any s v bd1 bd2 bd3 bd4
        rw [HRES.out] at this
        exact this
      obtain ⟨so', sn', sd', so2', sn2', sd2', sno', sb, hform⟩ := endV_form s
      rw [HRES.out] at hform
      subst hform
      obtain ⟨so, sn, sd, so2, sn2, sd2, sno⟩ := s
      dsimp only at *
      clear HRES
      go_wp2_with fail
      refine (KE.out _).mono ?_
      rintro e w4 ⟨rfl, hb4⟩
      have HR4 : Hid (Bx (w.heap.size + 1) [.bool false, .int .i64 0, .int .i64 0, .bool false, .int .i64 0, .int .i64 0, .bool false] w4) := HN.out.r.step hb4
      have HB4 : Hid (Below w.heap.size w w4) := bstep HN.out.bel hb4
      clear s0 s1 s2 s3 s4 s5 s6 sf0 sf1 sf2 sf3 sf4 sf5 sf6 r0 r1 r2 r3 r4 r5 r6 rf0 rf1 rf2 rf3 rf4 rf5 rf6 zr hb4 d0 d1 d2 d3 KE
      obtain ⟨⟨r0, r1, r2, r3, r4, r5, r6⟩, rf0, rf1, rf2, rf3, rf4, rf5, rf6⟩ := HR4.out.all7
      have zr : w.heap.size + 1 < w4.heap.size := HR4.out.lt
      go_wp2_with fail
      generalize hX : (((((((w4).setCell ⟨w.heap.size + 1, 0, none⟩ (.bool so')).setCell ⟨w.heap.size + 1, 1, none⟩ (.int .i64 sn')).setCell ⟨w.heap.size + 1, 2, none⟩ (.int .i64 sd')).setCell ⟨w.heap.size + 1, 3, none⟩ (.bool so2')).setCell ⟨w.heap.size + 1, 4, none⟩ (.int .i64 sn2')).setCell ⟨w.heap.size + 1, 5, none⟩ (.int .i64 sd2')).setCell ⟨w.heap.size + 1, 6, none⟩ (.bool sno') = X
      have hXR : Bx (w.heap.size + 1) [.bool so', .int .i64 sn', .int .i64 sd', .bool so2', .int .i64 sn2', .int .i64 sd2', .bool sno'] X := by rw [← hX]; exact HR4.out.set7 _ _ _ _ _ _ _
      have hXB : Below w.heap.size w X := by rw [← hX]; exact bset7 HB4.out (Nat.le_succ _) _ _ _ _ _ _ _
      obtain ⟨⟨x0, x1, x2, x3, x4, x5, x6⟩, _⟩ := hXR.all7
      exact bodyPost_ret (v := .tuple #[.agg #[.bool so', .int .i64 sn', .int .i64 sd', .bool so2', .int .i64 sn2', .int .i64 sd2', .bool sno'], .bool sb]) (by simp [results, Try.results12, go_sem, x0, x1, x2, x3, x4, x5, x6]) rfl ⟨rfl, hXB⟩

end Go.Proofs.Ytipcbhodlgoflab
