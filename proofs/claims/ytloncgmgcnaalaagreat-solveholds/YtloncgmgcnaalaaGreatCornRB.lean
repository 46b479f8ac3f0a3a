/- What the document's Look keeps in its first loop. -/
import Derived.Test.YtloncgmgcnaalaaGreatCorn2
import Derived.Test.YtloncgmgcnaalaaGreatCornL
import Derived.Maps.AppendAt
import Derived.Test.YtloncgmgcnaalaaGreatSix
namespace Go.Proofs.YtloncgmgcnaalaaGreat
open Go.RowKit

theorem Own.grown {w w' : World} {base b2 g n n' : Nat} {l : List Int} {v : Value} {vs : List Value} (h : Own w base g n l) (ho : w.ownsRow b2 22 1 v n' vs) (hg : w.grownBy w' v.ownBlock) : Own w' base g n l := by
  refine World.ownsRow.kept h hg (Or.inr fun e2 => ?_)
  obtain ⟨c1, h1⟩ := own_block h (g := g) rfl
  obtain ⟨c2, h2⟩ := own_block ho e2.symm
  rw [h1] at h2
  simp at h2

theorem RowsOwn.grown {w w' : World} {base n : Nat} {u v : Value} {ls : List (List Int)} {vs : List Value} (h : RowsOwn w base u ls) (ho : w.ownsRow base 22 1 v n vs) (hg : w.grownBy w' v.ownBlock) (hap : u.ownBlock = none ∨ u.ownBlock ≠ v.ownBlock) : RowsOwn w' base u ls := by
  obtain ⟨us, h, hin⟩ := h
  refine ⟨us, World.ownsRow.kept h hg hap, fun j hj => ?_⟩
  obtain ⟨x, h1, h2⟩ := hin j hj
  exact ⟨x, h1, h2.grown ho hg⟩

theorem Own.setOther {w : World} {base b2 g g2 n n2 k : Nat} {l l2 : List Int} (h : Own w base g n l) (ho : Own w b2 g2 n2 l2) (hne : g ≠ g2) (x : Value) : Own (w.setCell ⟨g2, k, none⟩ x) base g n l :=
  World.ownsRow.kept h (World.ownsRow.stored ho k x).2 (Or.inr (by simpa [Value.ownBlock] using hne))

theorem RowsOwn.setLow {w : World} {base g k : Nat} {v : Value} {ls : List (List Int)} (h : RowsOwn w base v ls) (hg : g < base) (x : Value) : RowsOwn (w.setCell ⟨g, k, none⟩ x) base v ls := by
  obtain ⟨us, h, hin⟩ := h
  refine ⟨us, ownsRow_setCell_below h hg x, fun j hj => ?_⟩
  obtain ⟨y, h1, h2⟩ := hin j hj
  exact ⟨y, h1, ownsRow_setCell_below h2 hg x⟩

/-- What is kept: the rows so far of either kind (from block B on), what is at most, what is worth (below B). -/
structure Two (V : World) (B : Nat) (D A : List (List Int)) (fm fw : Nat → Int) (m gm gw i8 i9 im iw : Nat) (v8 v9 : Value) (w : World) : Prop where
  d : RowsOwn w B v8 (D.take i8)
  a : RowsOwn w B v9 (A.take i9)
  ap : v9.ownBlock = none ∨ v9.ownBlock ≠ v8.ownBlock
  om : Own w V.heap.size gm m (Num.fill fm m im)
  ow : Own w V.heap.size gw m (Num.fill fw m iw)
  gmB : gm < B
  gwB : gw < B
  ne : gm ≠ gw
  vB : V.heap.size ≤ B
  sz : B ≤ w.heap.size
  bel : Below V.heap.size V w

theorem Two.kept {V : World} {B : Nat} {D A : List (List Int)} {fm fw : Nat → Int} {m gm gw i8 i9 im iw : Nat} {v8 v9 : Value} {w w' : World} (h : Two V B D A fm fw m gm gw i8 i9 im iw v8 v9 w) (hb : Below w.heap.size w w') : Two V B D A fm fw m gm gw i8 i9 im iw v8 v9 w' :=
  ⟨h.d.kept hb, h.a.kept hb, h.ap, h.om.below hb h.om.lt.2, h.ow.below hb h.ow.lt.2, h.gmB, h.gwB, h.ne, h.vB, Nat.le_trans h.sz hb.size, bstep h.bel hb⟩

/-- The store of what is at most. -/
theorem Two.most {V : World} {B : Nat} {D A : List (List Int)} {fm fw : Nat → Int} {m gm gw i8 i9 im iw : Nat} {v8 v9 : Value} {w : World} (h : Two V B D A fm fw m gm gw i8 i9 im iw v8 v9 w) (hi : im < m) (x : Int) (hx : x = fm im) :
    Two V B D A fm fw m gm gw i8 i9 (im + 1) iw v8 v9 (w.setCell ⟨gm, im, none⟩ (.int .i64 x)) :=
  ⟨h.d.setLow h.gmB _, h.a.setLow h.gmB _, h.ap, by rw [← Num.fill_set _ _ _ x hi hx]; exact h.om.store im x, h.ow.setOther h.om (Ne.symm h.ne) _, h.gmB, h.gwB, h.ne, h.vB, by simpa using h.sz, bset h.bel h.om.lt.1 _⟩

theorem Two.worth {V : World} {B : Nat} {D A : List (List Int)} {fm fw : Nat → Int} {m gm gw i8 i9 im iw : Nat} {v8 v9 : Value} {w : World} (h : Two V B D A fm fw m gm gw i8 i9 im iw v8 v9 w) (hi : iw < m) (x : Int) (hx : x = fw iw) :
    Two V B D A fm fw m gm gw i8 i9 im (iw + 1) v8 v9 (w.setCell ⟨gw, iw, none⟩ (.int .i64 x)) :=
  ⟨h.d.setLow h.gwB _, h.a.setLow h.gwB _, h.ap, h.om.setOther h.ow h.ne _, by rw [← Num.fill_set _ _ _ x hi hx]; exact h.ow.store iw x, h.gmB, h.gwB, h.ne, h.vB, by simpa using h.sz, bset h.bel h.ow.lt.1 _⟩

theorem own_lt_size {w : World} {base n : Nat} {t : TypeId} {v : Value} {xs : List Value} (h : w.ownsRow base t 1 v n xs) : v.ownBlock = none ∨ v.ownBlock ≠ some w.heap.size := by
  cases e : v.ownBlock with
  | none => exact Or.inl rfl
  | some g =>
    refine Or.inr fun e2 => ?_
    have := (World.ownsRow.lt h g e).2
    simp at e2; omega

/-- One more row of the first kind. -/
theorem Two.pushD {V : World} {B : Nat} {D A : List (List Int)} {fm fw : Nat → Int} {m gm gw i8 i9 im iw : Nat} {v8 v8' v9 u : Value} {w w' : World} {vs : List Value} (h : Two V B D A fm fw m gm gw i8 i9 im iw v8 v9 w) (hi : i8 < D.length)
    (ho : w.ownsRow B 22 1 v8 i8 vs) (hin : ∀ j, j < i8 → ∃ u, vs[j]? = some u ∧ RowOwn w B u ((D.take i8)[j]?.getD [])) (hu : RowOwn w B u (D[i8]?.getD [])) (ho' : w'.ownsRow B 22 1 v8' (i8 + 1) (vs ++ [u])) (hg : w.grownBy w' v8.ownBlock)
    (hat : v8'.ownBlock = v8.ownBlock ∨ v8'.ownBlock = some w.heap.size) : Two V B D A fm fw m gm gw (i8 + 1) i9 im iw v8' v9 w' := by
  have hti : (D.take i8).length = i8 := by rw [List.length_take]; omega
  have hsz : B ≤ w.heap.size ∨ v8.ownBlock = none := by
    cases e : v8.ownBlock with
    | none => exact Or.inr rfl
    | some g => have := World.ownsRow.lt ho g e; exact Or.inl (by omega)
  refine ⟨?_, h.a.grown ho hg h.ap, ?_, h.om.grown ho hg, h.ow.grown ho hg, h.gmB, h.gwB, h.ne, h.vB, Nat.le_trans h.sz hg.size, ?_⟩
  · have e : D.take (i8 + 1) = D.take i8 ++ [D[i8]?.getD []] := by rw [List.take_succ_eq_append_getElem hi, List.getElem?_eq_getElem hi, Option.getD_some]
    rw [e]
    exact RowsOwn.push (by rw [hti]; exact ho) (by rw [hti]; exact hin) hu (by rw [hti]; exact ho') hg
  · obtain ⟨us, ha, _⟩ := h.a
    rcases hat with e | e
    · rw [e]; exact h.ap
    · rw [e]; exact own_lt_size ha
  · refine ⟨by rw [hg.os]; exact h.bel.os, by rw [hg.tape]; exact h.bel.tape, by rw [hg.output]; exact h.bel.output, Nat.le_trans h.bel.size hg.size, fun k hk => ?_⟩
    rw [hg.block k (Nat.lt_of_lt_of_le hk h.bel.size) (fun e => by have := (World.ownsRow.lt ho k e.symm).1; have := h.vB; omega)]
    exact h.bel.block k hk

theorem Two.pushA {V : World} {B : Nat} {D A : List (List Int)} {fm fw : Nat → Int} {m gm gw i8 i9 im iw : Nat} {v8 v9' v9 u : Value} {w w' : World} {vs : List Value} (h : Two V B D A fm fw m gm gw i8 i9 im iw v8 v9 w) (hi : i9 < A.length)
    (ho : w.ownsRow B 22 1 v9 i9 vs) (hin : ∀ j, j < i9 → ∃ u, vs[j]? = some u ∧ RowOwn w B u ((A.take i9)[j]?.getD [])) (hu : RowOwn w B u (A[i9]?.getD [])) (ho' : w'.ownsRow B 22 1 v9' (i9 + 1) (vs ++ [u])) (hg : w.grownBy w' v9.ownBlock)
    (hat : v9'.ownBlock = v9.ownBlock ∨ v9'.ownBlock = some w.heap.size) : Two V B D A fm fw m gm gw i8 (i9 + 1) im iw v8 v9' w' := by
  have hti : (A.take i9).length = i9 := by rw [List.length_take]; omega
  have hap : v8.ownBlock = none ∨ v8.ownBlock ≠ v9.ownBlock := by
    cases e : v8.ownBlock with
    | none => exact Or.inl rfl
    | some g =>
      refine Or.inr fun e2 => ?_
      rcases h.ap with h1 | h1
      · rw [h1] at e2; cases e2
      · rw [e] at h1; exact h1 e2.symm
  refine ⟨h.d.grown ho hg hap, ?_, ?_, h.om.grown ho hg, h.ow.grown ho hg, h.gmB, h.gwB, h.ne, h.vB, Nat.le_trans h.sz hg.size, ?_⟩
  · have e : A.take (i9 + 1) = A.take i9 ++ [A[i9]?.getD []] := by rw [List.take_succ_eq_append_getElem hi, List.getElem?_eq_getElem hi, Option.getD_some]
    rw [e]
    exact RowsOwn.push (by rw [hti]; exact ho) (by rw [hti]; exact hin) hu (by rw [hti]; exact ho') hg
  · obtain ⟨us, hd, _⟩ := h.d
    rcases hat with e | e
    · rw [e]; exact h.ap
    · rw [e]
      rcases own_lt_size hd with h1 | h1
      · rw [h1]; exact Or.inr (by simp)
      · exact Or.inr (Ne.symm h1)
  · refine ⟨by rw [hg.os]; exact h.bel.os, by rw [hg.tape]; exact h.bel.tape, by rw [hg.output]; exact h.bel.output, Nat.le_trans h.bel.size hg.size, fun k hk => ?_⟩
    rw [hg.block k (Nat.lt_of_lt_of_le hk h.bel.size) (fun e => by have := (World.ownsRow.lt ho k e.symm).1; have := h.vB; omega)]
    exact h.bel.block k hk

/-- A row of its own, and something besides. -/
structure RowedE (V : World) (base g n k : Nat) (l : List Int) (x : Int) (E : World → Prop) (w : World) : Prop where
  r : Rowed V base g n k l x w
  e : E w

theorem RowedE.drew {V : World} {base g n k : Nat} {l : List Int} {x : Int} {E : World → Prop} {w : World} (h : RowedE V base g n k l x E w) (hE : ∀ w w', E w → Below w.heap.size w w' → E w') : RowedE V base g n k l x E w.drew := ⟨h.r.drew, hE _ _ h.e (Below.refl _ _).drew⟩
theorem RowedE.step {V : World} {base g n k : Nat} {l : List Int} {x : Int} {E : World → Prop} {w w' : World} (h : RowedE V base g n k l x E w) (hE : ∀ w w', E w → Below w.heap.size w w' → E w') (hb : Below w.heap.size w w') : RowedE V base g n k l x E w' := ⟨h.r.step hb, hE _ _ h.e hb⟩
theorem RowedE.cell {V : World} {base g n k : Nat} {l : List Int} {x : Int} {E : World → Prop} (hk : k < n) : ∃ F : World → Value, (∀ w, RowedE V base g n k l x E w → w.cell? ⟨g, k, none⟩ = some (F w)) ∧ (∀ w, RowedE V base g n k l x E w → w.frozen? ⟨g, k, none⟩ = false) := by
  obtain ⟨F, h1, h2⟩ := Rowed.cell (V := V) (base := base) (g := g) (l := l) (x := x) hk
  exact ⟨F, fun w h => h1 w h.r, fun w h => h2 w h.r⟩

end Go.Proofs.YtloncgmgcnaalaaGreat

/- What the document's Look keeps in its loops, further on. -/
namespace Go.Proofs.YtloncgmgcnaalaaGreat
open Go.RowKit

theorem Num.fill_set_same (f : Nat → Int) (n k : Nat) (h : k < n) : (Num.fill f n (k + 1)).set k (f k) = Num.fill f n (k + 1) := by
  apply List.ext_getElem?
  intro j
  rw [List.getElem?_set]
  by_cases hj : k = j
  · subst hj; rw [if_pos rfl, if_pos (by rw [Num.fill_len]; exact h)]; unfold Num.fill; simp [h]
  · rw [if_neg hj]

/-- Two, behind or ahead of the store of what is worth. -/
structure TwoW (V : World) (B : Nat) (D A : List (List Int)) (fm fw : Nat → Int) (m gm gw i : Nat) (v8 v9 : Value) (w : World) : Prop where
  t : ∃ iw, (iw = i ∨ iw = i + 1) ∧ Two V B D A fm fw m gm gw (i + 1) (i + 1) (i + 1) iw v8 v9 w

theorem TwoW.step {V : World} {B : Nat} {D A : List (List Int)} {fm fw : Nat → Int} {m gm gw i : Nat} {v8 v9 : Value} {w w' : World} (h : TwoW V B D A fm fw m gm gw i v8 v9 w) (hb : Below w.heap.size w w') : TwoW V B D A fm fw m gm gw i v8 v9 w' := by
  obtain ⟨iw, h1, h2⟩ := h.t
  exact ⟨iw, h1, h2.kept hb⟩

theorem TwoW.bel {V : World} {B : Nat} {D A : List (List Int)} {fm fw : Nat → Int} {m gm gw i : Nat} {v8 v9 : Value} {w : World} (h : TwoW V B D A fm fw m gm gw i v8 v9 w) : Below V.heap.size V w := by
  obtain ⟨iw, _, h2⟩ := h.t
  exact h2.bel

theorem TwoW.stored {V : World} {B : Nat} {D A : List (List Int)} {fm fw : Nat → Int} {m gm gw i : Nat} {v8 v9 : Value} {w : World} (h : TwoW V B D A fm fw m gm gw i v8 v9 w) (hi : i < m) : Two V B D A fm fw m gm gw (i + 1) (i + 1) (i + 1) (i + 1) v8 v9 (w.setCell ⟨gw, i, none⟩ (.int .i64 (fw i))) := by
  obtain ⟨iw, h1, h2⟩ := h.t
  rcases h1 with rfl | rfl
  · exact h2.worth hi _ rfl
  · exact ⟨h2.d.setLow h2.gwB _, h2.a.setLow h2.gwB _, h2.ap, h2.om.setOther h2.ow h2.ne _, by have := h2.ow.store i (fw i); rw [Num.fill_set_same _ _ _ hi] at this; exact this, h2.gmB, h2.gwB, h2.ne, h2.vB, by simpa using h2.sz, bset h2.bel h2.ow.lt.1 _⟩

theorem TwoW.set {V : World} {B : Nat} {D A : List (List Int)} {fm fw : Nat → Int} {m gm gw i : Nat} {v8 v9 : Value} {w : World} (h : TwoW V B D A fm fw m gm gw i v8 v9 w) (hi : i < m) : TwoW V B D A fm fw m gm gw i v8 v9 (w.setCell ⟨gw, i, none⟩ (.int .i64 (fw i))) :=
  ⟨i + 1, Or.inr rfl, h.stored hi⟩

theorem TwoW.cell {V : World} {B : Nat} {D A : List (List Int)} {fm fw : Nat → Int} {m gm gw i : Nat} {v8 v9 : Value} (hi : i < m) : ∃ F : World → Value, (∀ w, TwoW V B D A fm fw m gm gw i v8 v9 w → w.cell? ⟨gw, i, none⟩ = some (F w)) ∧ (∀ w, TwoW V B D A fm fw m gm gw i v8 v9 w → w.frozen? ⟨gw, i, none⟩ = false) := by
  refine ⟨fun w => (w.cell? ⟨gw, i, none⟩).getD undef, ?_, ?_⟩
  · intro w h
    obtain ⟨iw, _, h2⟩ := h.t
    show w.cell? ⟨gw, i, none⟩ = some ((w.cell? ⟨gw, i, none⟩).getD undef)
    rw [(h2.ow.cell i hi).1]; rfl
  · intro w h
    obtain ⟨iw, _, h2⟩ := h.t
    exact (h2.ow.cell i hi).2

/-- What both kinds of rows, what is at most, and what is worth come to at the loop's end. -/
theorem Two.ended {V : World} {B : Nat} {D A : List (List Int)} {fm fw : Nat → Int} {m gm gw : Nat} {v8 v9 : Value} {w : World} (h : Two V B D A fm fw m gm gw m m m m v8 v9 w) (hD : D.length = m) (hA : A.length = m) :
    ∃ a8 c8 a9 c9, v8 = .slice a8 m c8 ∧ m ≤ c8 ∧ Lines w a8 m D ∧ v9 = .slice a9 m c9 ∧ m ≤ c9 ∧ Lines w a9 m A ∧ Ints w (some ⟨gm, 0, none⟩) m ((List.range m).map fm) ∧ Ints w (some ⟨gw, 0, none⟩) m ((List.range m).map fw) := by
  have h1 := h.d
  have h2 := h.a
  rw [List.take_of_length_le (by omega)] at h1 h2
  obtain ⟨a8, c8, e8, hc8, hl8⟩ := h1.lines
  obtain ⟨a9, c9, e9, hc9, hl9⟩ := h2.lines
  rw [hD] at e8 hc8 hl8
  rw [hA] at e9 hc9 hl9
  refine ⟨a8, c8, a9, c9, e8, hc8, hl8, e9, hc9, hl9, ?_, ?_⟩
  · rw [← Num.fill_all]; exact h.om.ints
  · rw [← Num.fill_all]; exact h.ow.ints

/-- The gain of a column, with the first i rows taken off. -/
def Num.gainP (p : Num.Lp) (y : List Int) (d : Int) (m j i : Nat) : Int := p.costs[j]?.getD 0 * d - Num.dotN ((List.range m).map (Num.hasF p j)) y i

theorem Num.gainP_succ (p : Num.Lp) (y : List Int) (d : Int) (m j i : Nat) (hi : i < m) : Num.gainP p y d m j (i + 1) = Num.gainP p y d m j i - y[i]?.getD 0 * Num.hasF p j i := by
  unfold Num.gainP
  have e : Num.dotN ((List.range m).map (Num.hasF p j)) y (i + 1) = Num.dotN ((List.range m).map (Num.hasF p j)) y i + ((List.range m).map (Num.hasF p j))[i]?.getD 0 * y[i]?.getD 0 := rfl
  rw [e, Num.range_getD, if_pos hi, Int.mul_comm (Num.hasF p j i)]
  omega

theorem Num.gainP_bd (p : Num.Lp) (hm : p.may = true) (y : List Int) (d : Int) (m j i : Nat) (h4 : i ≤ 4) (hd : -6553600000000 ≤ d ∧ d ≤ 6553600000000) (hy : ∀ j : Nat, -6553600000000 ≤ y[j]?.getD 0 ∧ y[j]?.getD 0 ≤ 6553600000000) :
    -3000000000000000 ≤ Num.gainP p y d m j i ∧ Num.gainP p y d m j i ≤ 3000000000000000 := by
  have hc := Num.withinB_iff _ _ (p.may_of hm).2.1 (by omega) j
  have h1 := Num.mul_bd2 _ _ _ _ hc hd
  have h2 := Num.dotN_bd ((List.range m).map (Num.hasF p j)) y 12 6553600000000 (fun k => by rw [Num.range_getD]; split; exact Num.hasF_bd p hm j k; omega) hy i
  unfold Num.gainP
  omega

theorem Num.map_self (l : List Int) (m : Nat) (h : l.length = m) : (List.range m).map (fun k => l[k]?.getD 0) = l := by
  apply List.ext_getElem?
  intro j
  by_cases hj : j < m
  · rw [List.getElem?_map, List.getElem?_range hj, Option.map_some, List.getElem?_eq_getElem (by omega), Option.getD_some]
  · rw [List.getElem?_eq_none (by simp; omega), List.getElem?_eq_none (by omega)]

theorem Num.price_len (p : Num.Lp) (at' : List Int) (m : Nat) : (Num.priceL p at' m).length = m := by unfold Num.priceL Num.sharesL; simp

theorem Num.gainP_zero (p : Num.Lp) (y : List Int) (d : Int) (m j : Nat) : p.costs[j]?.getD 0 * d = Num.gainP p y d m j 0 := by
  unfold Num.gainP; simp [Num.dotN]

theorem Num.gainP_all (p : Num.Lp) (y : List Int) (d : Int) (m j : Nat) (h : m = p.rows.length) : Num.gainP p y d m j m = Num.gainF p y d j := by
  subst h; rfl

/-- What stands last in a block, so that what follows the block follows it. -/
theorem wp_last {P : Program} {s : Code} {id : Nat} {K : Act → World → Prop} {Q' : Exit → Act → World → Prop} {a : Act} {w : World} (h : s.wp P (Exit.then K (Exit.inBlock id (Exit.then K Q'))) a w) : s.wp P (Exit.inBlock id (Exit.then K Q')) a w :=
  wp_mono h fun e _ _ hq => by cases e <;> exact hq

end Go.Proofs.YtloncgmgcnaalaaGreat
