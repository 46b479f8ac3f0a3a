/- The boxes of the document's Costs and Mosts (chapter 7). -/
import Derived.Test.YtloncgmgcnaalabSpnW7
namespace Go.Proofs.Ytloncgmgcnaalab
open Go.RowKit

section
variable {P : Program} {l : List Oper} {Q : Exit → Act → World → Prop} {md : Region.Mode} {S : World → Prop}

/-- Take number i first, the region being written out. -/
theorem takeS {i : Nat} {oi : Oper} {v : Value} {fuel : Nat} {listed : Array Bool} {a : Act} {w : World} (hi : l[i]? = some oi)
    (hs : Region.noSelect l.toArray = true) (hf : Region.free md l.toArray listed i = true) (hr : (Region.ready md l.toArray listed).contains i = true)
    (hQ : ∀ c a w, Q (.panic c) (a.put oi.dst v) w → Q (.panic c) a w) (hy : YieldsIf P l.toArray S oi v a) (hS : S w)
    (h : wpAnyH P md l.toArray Q S fuel (listed.setIfInBounds i true) (a.put oi.dst v) w) : wpAnyH P md l.toArray Q S (fuel + 1) listed a w :=
  wpAnyH_take (by rw [List.getElem?_toArray]; exact hi) hs hf hr hQ hy hS h

/-- The one that is ready is carried out. -/
theorem readyS {i : Nat} {o : Oper} {fuel : Nat} {listed : Array Bool} {a : Act} {w : World} (hi : l[i]? = some o)
    (h : ∀ K' : Act → World → Prop, Shut (∀ a w, S w → (S w → wpAnyH P md l.toArray Q S fuel (listed.setIfInBounds i true) a w) → K' a w) → if Region.wanted o (yielded l.toArray a.tmps) = true then Oper.wp P o a w K' Q else K' (a.put o.dst undef) w) :
    AllReadyH P md l.toArray Q S fuel listed a w [i] :=
  AllReadyH.cons (by rw [List.getElem?_toArray]; exact hi) h AllReadyH.nil
end


theorem Ints.where_ {w : World} {a : Option Addr} {n : Nat} {l : List Int} (h : Ints w a n l) : n = 0 ∨ ∃ b off, a = some ⟨b, off, none⟩ ∧ b < w.heap.size := by
  rcases h.2 with h | ⟨b, off, e, hl, _⟩
  · exact Or.inl h
  · exact Or.inr ⟨b, off, e, hl⟩

theorem Ints.setOver {w : World} {a : Option Addr} {n g j B : Nat} {l : List Int} (h : Ints w a n l) (hf : n = 0 ∨ ∃ b off, a = some ⟨b, off, none⟩ ∧ b < B) (hg : B ≤ g) (u : Value) : Ints (w.setCell ⟨g, j, none⟩ u) a n l := by
  refine ⟨h.1, ?_⟩
  rcases h.2 with h0 | ⟨b', off, e, hlt, hc⟩
  · exact Or.inl h0
  · rcases hf with h0 | ⟨b, off2, e2, hb⟩
    · exact Or.inl h0
    · rw [e] at e2
      simp only [Option.some.injEq, Addr.mk.injEq] at e2
      refine Or.inr ⟨b', off, e, by simpa using hlt, fun k hk => ?_⟩
      rw [World.cell?_setCell_other _ _ _ _ (fun e => by injection e with e1; omega)]
      exact hc k hk

theorem Bx.other7 {b g : Nat} {vs : List Value} {w : World} (h : Bx b vs w) (hne : b ≠ g) (u0 u1 u2 u3 u4 u5 u6 : Value) : Bx b vs ((((((((w).setCell ⟨g, 0, none⟩ (u0)).setCell ⟨g, 1, none⟩ (u1)).setCell ⟨g, 2, none⟩ (u2)).setCell ⟨g, 3, none⟩ (u3)).setCell ⟨g, 4, none⟩ (u4)).setCell ⟨g, 5, none⟩ (u5)).setCell ⟨g, 6, none⟩ (u6)) :=
  ((((((h.other hne 0 u0).other hne 1 u1).other hne 2 u2).other hne 3 u3).other hne 4 u4).other hne 5 u5).other hne 6 u6

theorem Ints.setOver7 {w : World} {a : Option Addr} {n g B : Nat} {l : List Int} (h : Ints w a n l) (hf : n = 0 ∨ ∃ b off, a = some ⟨b, off, none⟩ ∧ b < B) (hg : B ≤ g) (u0 u1 u2 u3 u4 u5 u6 : Value) : Ints ((((((((w).setCell ⟨g, 0, none⟩ (u0)).setCell ⟨g, 1, none⟩ (u1)).setCell ⟨g, 2, none⟩ (u2)).setCell ⟨g, 3, none⟩ (u3)).setCell ⟨g, 4, none⟩ (u4)).setCell ⟨g, 5, none⟩ (u5)).setCell ⟨g, 6, none⟩ (u6)) a n l :=
  Ints.setOver (Ints.setOver (Ints.setOver (Ints.setOver (Ints.setOver (Ints.setOver (Ints.setOver h hf hg _) hf hg _) hf hg _) hf hg _) hf hg _) hf hg _) hf hg _

/-- The boxes of the document's Costs, and of its Mosts. -/
structure RC (w : World) (b8 b10 b12 : Nat) (c8 c10 : List Value) (ga ga2 : Option Addr) (N : Nat) (lg lg2 : List Int) (s : Num.Spn) (v : World) : Prop where
  bel : Below w.heap.size w v
  x8 : Bx b8 c8 v
  x10 : Bx b10 c10 v
  x12 : Bx b12 [.bool s.o, .int .i64 s.n, .int .i64 s.d, .bool s.o2, .int .i64 s.n2, .int .i64 s.d2, .bool s.no] v
  r : Bx (w.heap.size + 1) [.bool false, .int .i64 0, .int .i64 0, .bool false, .int .i64 0, .int .i64 0, .bool false] v
  i8 : Ints v ga N lg
  i10 : Ints v ga2 N lg2
  h8 : w.heap.size + 1 < b8
  h10 : b8 < b10
  h12 : b10 < b12
  ja : N = 0 ∨ ∃ b off, ga = some ⟨b, off, none⟩ ∧ b < b12
  ja2 : N = 0 ∨ ∃ b off, ga2 = some ⟨b, off, none⟩ ∧ b < b12

theorem RC.step {w : World} {b8 b10 b12 : Nat} {c8 c10 : List Value} {ga ga2 : Option Addr} {N : Nat} {lg lg2 : List Int} {s : Num.Spn} {v v' : World} (h : RC w b8 b10 b12 c8 c10 ga ga2 N lg lg2 s v) (hb : Below v.heap.size v v') : RC w b8 b10 b12 c8 c10 ga ga2 N lg lg2 s v' :=
  ⟨bstep h.bel hb, h.x8.step hb, h.x10.step hb, h.x12.step hb, h.r.step hb, h.i8.below hb (Nat.le_refl _), h.i10.below hb (Nat.le_refl _), h.h8, h.h10, h.h12, h.ja, h.ja2⟩

theorem RC.set {w : World} {b8 b10 b12 : Nat} {c8 c10 : List Value} {ga ga2 : Option Addr} {N : Nat} {lg lg2 : List Int} {s : Num.Spn} {v : World} (h : RC w b8 b10 b12 c8 c10 ga ga2 N lg lg2 s v) (s' : Num.Spn) : RC w b8 b10 b12 c8 c10 ga ga2 N lg lg2 s' ((((((((v).setCell ⟨b12, 0, none⟩ (.bool s'.o)).setCell ⟨b12, 1, none⟩ (.int .i64 s'.n)).setCell ⟨b12, 2, none⟩ (.int .i64 s'.d)).setCell ⟨b12, 3, none⟩ (.bool s'.o2)).setCell ⟨b12, 4, none⟩ (.int .i64 s'.n2)).setCell ⟨b12, 5, none⟩ (.int .i64 s'.d2)).setCell ⟨b12, 6, none⟩ (.bool s'.no)) := by
  have h8 := h.h8
  have h10 := h.h10
  have h12 := h.h12
  exact ⟨bset7 h.bel (by omega) _ _ _ _ _ _ _, h.x8.other7 (by omega) _ _ _ _ _ _ _, h.x10.other7 (by omega) _ _ _ _ _ _ _, h.x12.set7 _ _ _ _ _ _ _, h.r.other7 (by omega) _ _ _ _ _ _ _, h.i8.setOver7 h.ja (Nat.le_refl _) _ _ _ _ _ _ _, h.i10.setOver7 h.ja2 (Nat.le_refl _) _ _ _ _ _ _ _, h8, h10, h12, h.ja, h.ja2⟩

theorem endV_form (s : Num.Spn) : ∃ (o : Bool) (n d : Int) (o2 : Bool) (n2 d2 : Int) (no b : Bool), endV s = .tuple #[.agg #[.bool o, .int .i64 n, .int .i64 d, .bool o2, .int .i64 n2, .int .i64 d2, .bool no], .bool b] := by
  unfold endV
  split
  · exact ⟨_, _, _, _, _, _, _, _, rfl⟩
  · exact ⟨_, _, _, _, _, _, _, _, rfl⟩

/-- The boxes, whatever the span's own holds. -/
def RS (w : World) (b8 b10 b12 : Nat) (c8 c10 : List Value) (ga ga2 : Option Addr) (N : Nat) (lg lg2 : List Int) (v : World) : Prop := ∃ s, RC w b8 b10 b12 c8 c10 ga ga2 N lg lg2 s v

theorem RS.step {w : World} {b8 b10 b12 : Nat} {c8 c10 : List Value} {ga ga2 : Option Addr} {N : Nat} {lg lg2 : List Int} {v v' : World} (h : RS w b8 b10 b12 c8 c10 ga ga2 N lg lg2 v) (hb : Below v.heap.size v v') : RS w b8 b10 b12 c8 c10 ga ga2 N lg lg2 v' := by
  obtain ⟨s, h⟩ := h
  exact ⟨s, h.step hb⟩

theorem RS.set7 {w : World} {b8 b10 b12 : Nat} {c8 c10 : List Value} {ga ga2 : Option Addr} {N : Nat} {lg lg2 : List Int} {v : World} (h : RS w b8 b10 b12 c8 c10 ga ga2 N lg lg2 v) (o : Bool) (n d : Int) (o2 : Bool) (n2 d2 : Int) (no : Bool) : RS w b8 b10 b12 c8 c10 ga ga2 N lg lg2 ((((((((v).setCell ⟨b12, 0, none⟩ (.bool o)).setCell ⟨b12, 1, none⟩ (.int .i64 n)).setCell ⟨b12, 2, none⟩ (.int .i64 d)).setCell ⟨b12, 3, none⟩ (.bool o2)).setCell ⟨b12, 4, none⟩ (.int .i64 n2)).setCell ⟨b12, 5, none⟩ (.int .i64 d2)).setCell ⟨b12, 6, none⟩ (.bool no)) := by
  obtain ⟨s, h⟩ := h
  exact ⟨⟨o, n, d, o2, n2, d2, no⟩, h.set ⟨o, n, d, o2, n2, d2, no⟩⟩

end Go.Proofs.Ytloncgmgcnaalab
