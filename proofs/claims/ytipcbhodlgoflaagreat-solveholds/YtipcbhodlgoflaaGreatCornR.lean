/- What the document's Look keeps in its first loop. -/
import Derived.Test.YtipcbhodlgoflaaGreatCornRC
import Derived.Test.YtipcbhodlgoflaaGreatCornL
import Derived.Maps.AppendAt
import Derived.Test.YtipcbhodlgoflaaGreatSixA
import Derived.Deep.CutRange
namespace Go.Proofs.YtipcbhodlgoflaaGreat
open Go.RowKit

theorem Own.grown {w w' : World} {base b2 g n n' : Nat} {l : List Int} {v : Value} {vs : List Value} (h : Own w base g n l) (ho : w.ownsRow b2 22 1 v n' vs) (hg : w.grownBy w' v.ownBlock) : Own w' base g n l := by
  refine World.ownsRow.kept h hg (Or.inr fun e2 => ?_)
  obtain ⟨c1, h1⟩ := own_block h (g := g) rfl
  obtain ⟨c2, h2⟩ := own_block ho e2.symm
  rw [h1] at h2
  simp at h2

theorem RowsOwn.grown {w w' : World} {base n : Nat} {u v : Value} {ls : List (List Int)} {vs : List Value} (h : RowsOwn w base u ls) (ho : w.ownsRow base 22 1 v n vs) (hg : w.grownBy w' v.ownBlock) (hap : u.ownBlock = none ∨ u.ownBlock ≠ v.ownBlock) : RowsOwn w' base u ls := by
  obtain ⟨us, h, hin⟩ := h
  refine ⟨us, World.ownsRow.kept h hg hap, fun j hj => ?_⟩
  obtain ⟨x, h1, h2⟩ := hin j hj
  exact ⟨x, h1, h2.grown ho hg⟩

theorem Own.setOther {w : World} {base b2 g g2 n n2 k : Nat} {l l2 : List Int} (h : Own w base g n l) (ho : Own w b2 g2 n2 l2) (hne : g ≠ g2) (x : Value) : Own (w.setCell ⟨g2, k, none⟩ x) base g n l :=
  World.ownsRow.kept h (World.ownsRow.stored ho k x).2 (Or.inr (by simpa [Value.ownBlock] using hne))

theorem RowsOwn.setLow {w : World} {base g k : Nat} {v : Value} {ls : List (List Int)} (h : RowsOwn w base v ls) (hg : g < base) (x : Value) : RowsOwn (w.setCell ⟨g, k, none⟩ x) base v ls := by
  obtain ⟨us, h, hin⟩ := h
  refine ⟨us, ownsRow_setCell_below h hg x, fun j hj => ?_⟩
  obtain ⟨y, h1, h2⟩ := hin j hj
  exact ⟨y, h1, ownsRow_setCell_below h2 hg x⟩

/-- What is kept: the rows so far of either kind (from block B on), what is at most, what is worth (below B). -/
structure Two (V : World) (B : Nat) (D A : List (List Int)) (fm fw : Nat → Int) (m gm gw i8 i9 im iw : Nat) (v8 v9 : Value) (w : World) : Prop where
  d : RowsOwn w B v8 (D.take i8)
  a : RowsOwn w B v9 (A.take i9)
  ap : v9.ownBlock = none ∨ v9.ownBlock ≠ v8.ownBlock
  om : Own w V.heap.size gm m (Num.fill fm m im)
  ow : Own w V.heap.size gw m (Num.fill fw m iw)
  gmB : gm < B
  gwB : gw < B
  ne : gm ≠ gw
  vB : V.heap.size ≤ B
  sz : B ≤ w.heap.size
  bel : Below V.heap.size V w

theorem Two.kept {V : World} {B : Nat} {D A : List (List Int)} {fm fw : Nat → Int} {m gm gw i8 i9 im iw : Nat} {v8 v9 : Value} {w w' : World} (h : Two V B D A fm fw m gm gw i8 i9 im iw v8 v9 w) (hb : Below w.heap.size w w') : Two V B D A fm fw m gm gw i8 i9 im iw v8 v9 w' :=
  ⟨h.d.kept hb, h.a.kept hb, h.ap, h.om.below hb h.om.lt.2, h.ow.below hb h.ow.lt.2, h.gmB, h.gwB, h.ne, h.vB, Nat.le_trans h.sz hb.size, bstep h.bel hb⟩

/-- The store of what is at most. -/
theorem Two.most {V : World} {B : Nat} {D A : List (List Int)} {fm fw : Nat → Int} {m gm gw i8 i9 im iw : Nat} {v8 v9 : Value} {w : World} (h : Two V B D A fm fw m gm gw i8 i9 im iw v8 v9 w) (hi : im < m) (x : Int) (hx : x = fm im) :
    Two V B D A fm fw m gm gw i8 i9 (im + 1) iw v8 v9 (w.setCell ⟨gm, im, none⟩ (.int .i64 x)) :=
  ⟨h.d.setLow h.gmB _, h.a.setLow h.gmB _, h.ap, by rw [← Num.fill_set _ _ _ x hi hx]; exact h.om.store im x, h.ow.setOther h.om (Ne.symm h.ne) _, h.gmB, h.gwB, h.ne, h.vB, by simpa using h.sz, bset h.bel h.om.lt.1 _⟩

theorem Two.worth {V : World} {B : Nat} {D A : List (List Int)} {fm fw : Nat → Int} {m gm gw i8 i9 im iw : Nat} {v8 v9 : Value} {w : World} (h : Two V B D A fm fw m gm gw i8 i9 im iw v8 v9 w) (hi : iw < m) (x : Int) (hx : x = fw iw) :
    Two V B D A fm fw m gm gw i8 i9 im (iw + 1) v8 v9 (w.setCell ⟨gw, iw, none⟩ (.int .i64 x)) :=
  ⟨h.d.setLow h.gwB _, h.a.setLow h.gwB _, h.ap, h.om.setOther h.ow h.ne _, by rw [← Num.fill_set _ _ _ x hi hx]; exact h.ow.store iw x, h.gmB, h.gwB, h.ne, h.vB, by simpa using h.sz, bset h.bel h.ow.lt.1 _⟩

theorem own_lt_size {w : World} {base n : Nat} {t : TypeId} {v : Value} {xs : List Value} (h : w.ownsRow base t 1 v n xs) : v.ownBlock = none ∨ v.ownBlock ≠ some w.heap.size := by
  cases e : v.ownBlock with
  | none => exact Or.inl rfl
  | some g =>
    refine Or.inr fun e2 => ?_
    have := (World.ownsRow.lt h g e).2
    simp at e2; omega

/-- One more row of the first kind. -/
theorem Two.pushD {V : World} {B : Nat} {D A : List (List Int)} {fm fw : Nat → Int} {m gm gw i8 i9 im iw : Nat} {v8 v8' v9 u : Value} {w w' : World} {vs : List Value} (h : Two V B D A fm fw m gm gw i8 i9 im iw v8 v9 w) (hi : i8 < D.length)
    (ho : w.ownsRow B 22 1 v8 i8 vs) (hin : ∀ j, j < i8 → ∃ u, vs[j]? = some u ∧ RowOwn w B u ((D.take i8)[j]?.getD [])) (hu : RowOwn w B u (D[i8]?.getD [])) (ho' : w'.ownsRow B 22 1 v8' (i8 + 1) (vs ++ [u])) (hg : w.grownBy w' v8.ownBlock)
    (hat : v8'.ownBlock = v8.ownBlock ∨ v8'.ownBlock = some w.heap.size) : Two V B D A fm fw m gm gw (i8 + 1) i9 im iw v8' v9 w' := by
  have hti : (D.take i8).length = i8 := by rw [List.length_take]; omega
  have hsz : B ≤ w.heap.size ∨ v8.ownBlock = none := by
    cases e : v8.ownBlock with
    | none => exact Or.inr rfl
    | some g => have := World.ownsRow.lt ho g e; exact Or.inl (by omega)
  refine ⟨?_, h.a.grown ho hg h.ap, ?_, h.om.grown ho hg, h.ow.grown ho hg, h.gmB, h.gwB, h.ne, h.vB, Nat.le_trans h.sz hg.size, ?_⟩
  · have e : D.take (i8 + 1) = D.take i8 ++ [D[i8]?.getD []] := by rw [List.take_succ_eq_append_getElem hi, List.getElem?_eq_getElem hi, Option.getD_some]
    rw [e]
    exact RowsOwn.push (by rw [hti]; exact ho) (by rw [hti]; exact hin) hu (by rw [hti]; exact ho') hg
  · obtain ⟨us, ha, _⟩ := h.a
    rcases hat with e | e
    · rw [e]; exact h.ap
    · rw [e]; exact own_lt_size ha
  · refine ⟨by rw [hg.os]; exact h.bel.os, by rw [hg.tape]; exact h.bel.tape, by rw [hg.output]; exact h.bel.output, Nat.le_trans h.bel.size hg.size, fun k hk => ?_⟩
    rw [hg.block k (Nat.lt_of_lt_of_le hk h.bel.size) (fun e => by have := (World.ownsRow.lt ho k e.symm).1; have := h.vB; omega)]
    exact h.bel.block k hk

theorem Two.pushA {V : World} {B : Nat} {D A : List (List Int)} {fm fw : Nat → Int} {m gm gw i8 i9 im iw : Nat} {v8 v9' v9 u : Value} {w w' : World} {vs : List Value} (h : Two V B D A fm fw m gm gw i8 i9 im iw v8 v9 w) (hi : i9 < A.length)
    (ho : w.ownsRow B 22 1 v9 i9 vs) (hin : ∀ j, j < i9 → ∃ u, vs[j]? = some u ∧ RowOwn w B u ((A.take i9)[j]?.getD [])) (hu : RowOwn w B u (A[i9]?.getD [])) (ho' : w'.ownsRow B 22 1 v9' (i9 + 1) (vs ++ [u])) (hg : w.grownBy w' v9.ownBlock)
    (hat : v9'.ownBlock = v9.ownBlock ∨ v9'.ownBlock = some w.heap.size) : Two V B D A fm fw m gm gw i8 (i9 + 1) im iw v8 v9' w' := by
  have hti : (A.take i9).length = i9 := by rw [List.length_take]; omega
  have hap : v8.ownBlock = none ∨ v8.ownBlock ≠ v9.ownBlock := by
    cases e : v8.ownBlock with
    | none => exact Or.inl rfl
    | some g =>
      refine Or.inr fun e2 => ?_
      rcases h.ap with h1 | h1
      · rw [h1] at e2; cases e2
      · rw [e] at h1; exact h1 e2.symm
  refine ⟨h.d.grown ho hg hap, ?_, ?_, h.om.grown ho hg, h.ow.grown ho hg, h.gmB, h.gwB, h.ne, h.vB, Nat.le_trans h.sz hg.size, ?_⟩
  · have e : A.take (i9 + 1) = A.take i9 ++ [A[i9]?.getD []] := by rw [List.take_succ_eq_append_getElem hi, List.getElem?_eq_getElem hi, Option.getD_some]
    rw [e]
    exact RowsOwn.push (by rw [hti]; exact ho) (by rw [hti]; exact hin) hu (by rw [hti]; exact ho') hg
  · obtain ⟨us, hd, _⟩ := h.d
    rcases hat with e | e
    · rw [e]; exact h.ap
    · rw [e]
      rcases own_lt_size hd with h1 | h1
      · rw [h1]; exact Or.inr (by simp)
      · exact Or.inr (Ne.symm h1)
  · refine ⟨by rw [hg.os]; exact h.bel.os, by rw [hg.tape]; exact h.bel.tape, by rw [hg.output]; exact h.bel.output, Nat.le_trans h.bel.size hg.size, fun k hk => ?_⟩
    rw [hg.block k (Nat.lt_of_lt_of_le hk h.bel.size) (fun e => by have := (World.ownsRow.lt ho k e.symm).1; have := h.vB; omega)]
    exact h.bel.block k hk

/-- A row of its own, and something besides. -/
structure RowedE (V : World) (base g n k : Nat) (l : List Int) (x : Int) (E : World → Prop) (w : World) : Prop where
  r : Rowed V base g n k l x w
  e : E w

theorem RowedE.drew {V : World} {base g n k : Nat} {l : List Int} {x : Int} {E : World → Prop} {w : World} (h : RowedE V base g n k l x E w) (hE : ∀ w w', E w → Below w.heap.size w w' → E w') : RowedE V base g n k l x E w.drew := ⟨h.r.drew, hE _ _ h.e (Below.refl _ _).drew⟩
theorem RowedE.step {V : World} {base g n k : Nat} {l : List Int} {x : Int} {E : World → Prop} {w w' : World} (h : RowedE V base g n k l x E w) (hE : ∀ w w', E w → Below w.heap.size w w' → E w') (hb : Below w.heap.size w w') : RowedE V base g n k l x E w' := ⟨h.r.step hb, hE _ _ h.e hb⟩
theorem RowedE.cell {V : World} {base g n k : Nat} {l : List Int} {x : Int} {E : World → Prop} (hk : k < n) : ∃ F : World → Value, (∀ w, RowedE V base g n k l x E w → w.cell? ⟨g, k, none⟩ = some (F w)) ∧ (∀ w, RowedE V base g n k l x E w → w.frozen? ⟨g, k, none⟩ = false) := by
  obtain ⟨F, h1, h2⟩ := Rowed.cell (V := V) (base := base) (g := g) (l := l) (x := x) hk
  exact ⟨F, fun w h => h1 w h.r, fun w h => h2 w h.r⟩

end Go.Proofs.YtipcbhodlgoflaaGreat

/- What the document's Look keeps in its loops, further on. -/
namespace Go.Proofs.YtipcbhodlgoflaaGreat
open Go.RowKit

theorem Num.fill_set_same (f : Nat → Int) (n k : Nat) (h : k < n) : (Num.fill f n (k + 1)).set k (f k) = Num.fill f n (k + 1) := by
  apply List.ext_getElem?
  intro j
  rw [List.getElem?_set]
  by_cases hj : k = j
  · subst hj; rw [if_pos rfl, if_pos (by rw [Num.fill_len]; exact h)]; unfold Num.fill; simp [h]
  · rw [if_neg hj]

/-- Two, behind or ahead of the store of what is worth. -/
structure TwoW (V : World) (B : Nat) (D A : List (List Int)) (fm fw : Nat → Int) (m gm gw i : Nat) (v8 v9 : Value) (w : World) : Prop where
  t : ∃ iw, (iw = i ∨ iw = i + 1) ∧ Two V B D A fm fw m gm gw (i + 1) (i + 1) (i + 1) iw v8 v9 w

theorem TwoW.step {V : World} {B : Nat} {D A : List (List Int)} {fm fw : Nat → Int} {m gm gw i : Nat} {v8 v9 : Value} {w w' : World} (h : TwoW V B D A fm fw m gm gw i v8 v9 w) (hb : Below w.heap.size w w') : TwoW V B D A fm fw m gm gw i v8 v9 w' := by
  obtain ⟨iw, h1, h2⟩ := h.t
  exact ⟨iw, h1, h2.kept hb⟩

theorem TwoW.bel {V : World} {B : Nat} {D A : List (List Int)} {fm fw : Nat → Int} {m gm gw i : Nat} {v8 v9 : Value} {w : World} (h : TwoW V B D A fm fw m gm gw i v8 v9 w) : Below V.heap.size V w := by
  obtain ⟨iw, _, h2⟩ := h.t
  exact h2.bel

theorem TwoW.stored {V : World} {B : Nat} {D A : List (List Int)} {fm fw : Nat → Int} {m gm gw i : Nat} {v8 v9 : Value} {w : World} (h : TwoW V B D A fm fw m gm gw i v8 v9 w) (hi : i < m) : Two V B D A fm fw m gm gw (i + 1) (i + 1) (i + 1) (i + 1) v8 v9 (w.setCell ⟨gw, i, none⟩ (.int .i64 (fw i))) := by
  obtain ⟨iw, h1, h2⟩ := h.t
  rcases h1 with rfl | rfl
  · exact h2.worth hi _ rfl
  · exact ⟨h2.d.setLow h2.gwB _, h2.a.setLow h2.gwB _, h2.ap, h2.om.setOther h2.ow h2.ne _, by have := h2.ow.store i (fw i); rw [Num.fill_set_same _ _ _ hi] at this; exact this, h2.gmB, h2.gwB, h2.ne, h2.vB, by simpa using h2.sz, bset h2.bel h2.ow.lt.1 _⟩

theorem TwoW.set {V : World} {B : Nat} {D A : List (List Int)} {fm fw : Nat → Int} {m gm gw i : Nat} {v8 v9 : Value} {w : World} (h : TwoW V B D A fm fw m gm gw i v8 v9 w) (hi : i < m) : TwoW V B D A fm fw m gm gw i v8 v9 (w.setCell ⟨gw, i, none⟩ (.int .i64 (fw i))) :=
  ⟨i + 1, Or.inr rfl, h.stored hi⟩

theorem TwoW.cell {V : World} {B : Nat} {D A : List (List Int)} {fm fw : Nat → Int} {m gm gw i : Nat} {v8 v9 : Value} (hi : i < m) : ∃ F : World → Value, (∀ w, TwoW V B D A fm fw m gm gw i v8 v9 w → w.cell? ⟨gw, i, none⟩ = some (F w)) ∧ (∀ w, TwoW V B D A fm fw m gm gw i v8 v9 w → w.frozen? ⟨gw, i, none⟩ = false) := by
  refine ⟨fun w => (w.cell? ⟨gw, i, none⟩).getD undef, ?_, ?_⟩
  · intro w h
    obtain ⟨iw, _, h2⟩ := h.t
    show w.cell? ⟨gw, i, none⟩ = some ((w.cell? ⟨gw, i, none⟩).getD undef)
    rw [(h2.ow.cell i hi).1]; rfl
  · intro w h
    obtain ⟨iw, _, h2⟩ := h.t
    exact (h2.ow.cell i hi).2

/-- What both kinds of rows, what is at most, and what is worth come to at the loop's end. -/
theorem Two.ended {V : World} {B : Nat} {D A : List (List Int)} {fm fw : Nat → Int} {m gm gw : Nat} {v8 v9 : Value} {w : World} (h : Two V B D A fm fw m gm gw m m m m v8 v9 w) (hD : D.length = m) (hA : A.length = m) :
    ∃ a8 c8 a9 c9, v8 = .slice a8 m c8 ∧ m ≤ c8 ∧ Lines w a8 m D ∧ v9 = .slice a9 m c9 ∧ m ≤ c9 ∧ Lines w a9 m A ∧ Ints w (some ⟨gm, 0, none⟩) m ((List.range m).map fm) ∧ Ints w (some ⟨gw, 0, none⟩) m ((List.range m).map fw) := by
  have h1 := h.d
  have h2 := h.a
  rw [List.take_of_length_le (by omega)] at h1 h2
  obtain ⟨a8, c8, e8, hc8, hl8⟩ := h1.lines
  obtain ⟨a9, c9, e9, hc9, hl9⟩ := h2.lines
  rw [hD] at e8 hc8 hl8
  rw [hA] at e9 hc9 hl9
  refine ⟨a8, c8, a9, c9, e8, hc8, hl8, e9, hc9, hl9, ?_, ?_⟩
  · rw [← Num.fill_all]; exact h.om.ints
  · rw [← Num.fill_all]; exact h.ow.ints

/-- The gain of a column, with the first i rows taken off. -/
def Num.gainP (p : Num.Lp) (y : List Int) (d : Int) (m j i : Nat) : Int := p.costs[j]?.getD 0 * d - Num.dotN ((List.range m).map (Num.hasF p j)) y i

theorem Num.gainP_succ (p : Num.Lp) (y : List Int) (d : Int) (m j i : Nat) (hi : i < m) : Num.gainP p y d m j (i + 1) = Num.gainP p y d m j i - y[i]?.getD 0 * Num.hasF p j i := by
  unfold Num.gainP
  have e : Num.dotN ((List.range m).map (Num.hasF p j)) y (i + 1) = Num.dotN ((List.range m).map (Num.hasF p j)) y i + ((List.range m).map (Num.hasF p j))[i]?.getD 0 * y[i]?.getD 0 := rfl
  rw [e, Num.range_getD, if_pos hi, Int.mul_comm (Num.hasF p j i)]
  omega

theorem Num.gainP_bd (p : Num.Lp) (hm : p.may = true) (y : List Int) (d : Int) (m j i : Nat) (h4 : i ≤ 4) (hd : -6553600000000 ≤ d ∧ d ≤ 6553600000000) (hy : ∀ j : Nat, -6553600000000 ≤ y[j]?.getD 0 ∧ y[j]?.getD 0 ≤ 6553600000000) :
    -3000000000000000 ≤ Num.gainP p y d m j i ∧ Num.gainP p y d m j i ≤ 3000000000000000 := by
  have hc := Num.withinB_iff _ _ (p.may_of hm).2.1 (by omega) j
  have h1 := Num.mul_bd2 _ _ _ _ hc hd
  have h2 := Num.dotN_bd ((List.range m).map (Num.hasF p j)) y 12 6553600000000 (fun k => by rw [Num.range_getD]; split; exact Num.hasF_bd p hm j k; omega) hy i
  unfold Num.gainP
  omega

theorem Num.map_self (l : List Int) (m : Nat) (h : l.length = m) : (List.range m).map (fun k => l[k]?.getD 0) = l := by
  apply List.ext_getElem?
  intro j
  by_cases hj : j < m
  · rw [List.getElem?_map, List.getElem?_range hj, Option.map_some, List.getElem?_eq_getElem (by omega), Option.getD_some]
  · rw [List.getElem?_eq_none (by simp; omega), List.getElem?_eq_none (by omega)]

theorem Num.price_len (p : Num.Lp) (at' : List Int) (m : Nat) : (Num.priceL p at' m).length = m := by unfold Num.priceL Num.sharesL; simp

theorem Num.gainP_zero (p : Num.Lp) (y : List Int) (d : Int) (m j : Nat) : p.costs[j]?.getD 0 * d = Num.gainP p y d m j 0 := by
  unfold Num.gainP; simp [Num.dotN]

theorem Num.gainP_all (p : Num.Lp) (y : List Int) (d : Int) (m j : Nat) (h : m = p.rows.length) : Num.gainP p y d m j m = Num.gainF p y d j := by
  subst h; rfl

/-- What stands last in a block, so that what follows the block follows it. -/
theorem wp_last {P : Program} {s : Code} {id : Nat} {K : Act → World → Prop} {Q' : Exit → Act → World → Prop} {a : Act} {w : World} (h : s.wp P (Exit.then K (Exit.inBlock id (Exit.then K Q'))) a w) : s.wp P (Exit.inBlock id (Exit.then K Q')) a w :=
  wp_mono h fun e _ _ hq => by cases e <;> exact hq

end Go.Proofs.YtipcbhodlgoflaaGreat

/- What the document's own Look does. -/
namespace Go.Proofs.YtipcbhodlgoflaaGreat
open Go.RowKit

def Num.worthF (p : Num.Lp) (at' : List Int) (k : Nat) : Int := p.costs[Num.atF at' k]?.getD 0

set_option maxRecDepth 4000 in
set_option maxHeartbeats 4000000 in
theorem rlook_farC (ca : Option Addr) (cl cc : Nat) (ra : Option Addr) (m rc : Nat) (p : Num.Lp) (w : World) (hc : Ints w ca cl p.costs) (hr : RowsAt w ra m p.rows)
    (aa : Option Addr) (ac : Nat) (at' : List Int) (ha : Ints w aa m at') (hm : p.may = true) (N : Nat) (hN : cl + m = N) (h8 : N ≤ 8) (hat : ∀ k, k < m → 0 ≤ at'[k]?.getD 0 ∧ at'[k]?.getD 0 < N)
    (mx my mg : List Int) (dx dy dg zx zy zg : Int) (hx : Num.pt (Num.xL p at' m N) (Num.denL p at' m) = (mx, dx, zx)) (hy : Num.pt (Num.priceL p at' m) (Num.denL p at' m) = (my, dy, zy)) (hg : Num.pt (Num.gainL p at' m N) (Num.denL p at' m) = (mg, dg, zg)) :
    Calls Tryz.prog 21 #[.agg #[.slice ca cl cc, .slice ra m rc], .slice aa m ac] w fun e w' => Below w.heap.size w w' ∧ ((Num.denL p at' m = 0 ∧ e = .returned (.tuple #[corner0, .bool false])) ∨ (Num.denL p at' m ≠ 0 ∧ ∃ xa xl xc ya yl yc ga gl gc, e = .returned (.tuple #[.agg #[.slice xa xl xc, .int .i64 dx, .slice ya yl yc, .int .i64 dy, .slice ga gl gc, .int .i64 dg], .bool true]) ∧
      Ints w' xa xl mx ∧ Ints w' ya yl my ∧ Ints w' ga gl mg ∧ xl ≤ 8 ∧ yl ≤ 8 ∧ gl ≤ 8 ∧ (gl = 0 ∨ ∃ g, ga = some ⟨g, 0, none⟩ ∧ w.heap.size ≤ g) ∧ xl ≤ xc)) := by
  have HC : Hid (Ints w ca cl p.costs) := hc
  have HR : Hid (RowsAt w ra m p.rows) := hr
  have HA : Hid (Ints w aa m at') := ha
  have HM : Hid (p.may = true) := hm
  have h4 : m ≤ 4 := by have := hr.1; have := (p.may_of hm).2.2.1.2; omega
  have h1 : 1 ≤ m := by have := hr.1; have := (p.may_of hm).2.2.1.1; omega
  have hcl : cl ≤ 4 := by have := hc.1; have := (p.may_of hm).1.2; omega
  have HCL : Hid (cl = p.costs.length) := hc.1
  have HAT : Hid (∀ k, k < m → 0 ≤ at'[k]?.getD 0 ∧ at'[k]?.getD 0 < N) := hat
  have HX : Hid (Num.pt (Num.xL p at' m N) (Num.denL p at' m) = (mx, dx, zx)) := hx
  have HY : Hid (Num.pt (Num.priceL p at' m) (Num.denL p at' m) = (my, dy, zy)) := hy
  have HG : Hid (Num.pt (Num.gainL p at' m N) (Num.denL p at' m) = (mg, dg, zg)) := hg
  clear hc hr ha hm hat hx hy hg
  obtain ⟨i0, hif, hz0, hz1, hz2⟩ := info_parts Tryz.infoSl
  obtain ⟨j0, hjf, hy0, hy1, hy2⟩ := info_parts Tryz.info64
  have hV0 : ((w.alloc (.cells #[.slice ca cl cc, .slice ra m rc] 25)).alloc zeros6).heap.size = w.heap.size + 2 := by simp
  go_enter Tryz.func21, Tryz.ntmps21
  go_wp2_with (first
    | (at_make; refine wpList_make_full _ rfl (.tmp 32) (.tmp 32) 22 rfl (w.heap.size + 2) 2 j0 (.int .i64 0) 1 Tryz.underlying22 hjf hy0 hy1 .i64 .i64 _ _ m rfl rfl rfl rfl (by rw [hy2]; omega) (by unfold maxLen; omega) (by simp) ?_; intro w3 hown hgrow; have hb3 := made_below hgrow; have HO3 : Hid _ := hown; clear hown hgrow)
    | (at_make; refine wpList_make_full _ rfl (.tmp 34) (.tmp 34) 22 rfl (w.heap.size + 2) 2 j0 (.int .i64 0) 1 Tryz.underlying22 hjf hy0 hy1 .i64 .i64 _ _ m rfl rfl rfl rfl (by rw [hy2]; omega) (by unfold maxLen; omega) (by have := hb3.size; simp at this; omega) ?_; intro w4 hown hgrow; have hb4 := made_below hgrow; have HO4 : Hid _ := hown; clear hown hgrow))
  generalize hVV : (w.alloc (.cells #[.slice ca cl cc, .slice ra m rc] 25)).alloc (.cells #[.slice none 0 0, .int .i64 0, .slice none 0 0, .int .i64 0, .slice none 0 0, .int .i64 0] 43) = V at *
  have hVs : V.heap.size = w.heap.size + 2 := by rw [← hVV]; simp
  have HBX : Hid (∀ w', Below V.heap.size V w' → (w'.cell? ⟨w.heap.size, 0, none⟩ = some (.slice ca cl cc) ∧ w'.cell? ⟨w.heap.size, 1, none⟩ = some (.slice ra m rc)) ∧
      (w'.cell? ⟨w.heap.size + 1, 0, none⟩ = some (.slice none 0 0) ∧ w'.cell? ⟨w.heap.size + 1, 1, none⟩ = some (.int .i64 0) ∧ w'.cell? ⟨w.heap.size + 1, 2, none⟩ = some (.slice none 0 0) ∧ w'.cell? ⟨w.heap.size + 1, 3, none⟩ = some (.int .i64 0) ∧ w'.cell? ⟨w.heap.size + 1, 4, none⟩ = some (.slice none 0 0) ∧ w'.cell? ⟨w.heap.size + 1, 5, none⟩ = some (.int .i64 0)) ∧
      (∀ i, w'.frozen? ⟨w.heap.size + 1, i, none⟩ = false) ∧ w.heap.size + 1 < w'.heap.size ∧ Below w.heap.size w w') := by
    intro w' h; rw [← hVV] at h; exact box26 h
  have HT0 : Hid (Two V w4.heap.size (Num.downL p at' m) (Num.chosenL p at' m) (Num.mostF p) (Num.worthF p at') m V.heap.size w3.heap.size 0 0 0 0 (.slice none 0 0) (.slice none 0 0) w4) := by
    have hm3 : Own w3 V.heap.size V.heap.size m (Num.fill (Num.mostF p) m 0) := Own.made _ (by rw [hVs]; have := HO3.out; rw [hVs] at this; exact this)
    have hw4 : Own w4 V.heap.size w3.heap.size m (Num.fill (Num.worthF p at') m 0) := Own.made _ (by rw [hVs]; exact HO4.out)
    have l1 := hm3.lt.2
    have l2 := hw4.lt.2
    exact ⟨by rw [List.take_zero]; exact RowsOwn.nil _ _, by rw [List.take_zero]; exact RowsOwn.nil _ _, Or.inl rfl, hm3.below hb4 l1, hw4, by omega, l2, by omega, by omega, Nat.le_refl _, bstep hb3 hb4⟩
  have HVS : Hid (V.heap.size = w.heap.size + 2) := hVs
  rw [show w.heap.size + 1 + 1 = V.heap.size by omega]
  clear HO3 HO4 hVV hV0 hVs
  generalize w4.heap.size = B4 at *
  generalize w3.heap.size = gw at *
  clear hb3 hb4
  obtain ⟨ab, ao, haa, hab, HAC⟩ : ∃ ab ao, aa = some ⟨ab, ao, none⟩ ∧ ab < w.heap.size ∧ Hid (∀ w', Below w.heap.size w w' → ∀ k, k < m → w'.cell? ⟨ab, ao + k, none⟩ = some (.int .i64 ((Num.atF at' k : Nat) : Int))) := by
    rcases HA.out.2 with h | ⟨ab, ao, h, h2, h3⟩
    · omega
    · refine ⟨ab, ao, h, h2, fun w' hb k hk => ?_⟩
      rw [hb.cell (p := ⟨ab, ao + k, none⟩) h2, h3 k hk]
      show some (Value.int .i64 (at'[k]?.getD 0)) = some (.int .i64 (((at'[k]?.getD 0).toNat : Nat) : Int))
      rw [Int.toNat_of_nonneg (HAT.out k hk).1]
  have HJ8 : Hid (∀ k, k < m → Num.atF at' k ≤ 8) := fun k hk => by
    have := HAT.out k hk
    show (at'[k]?.getD 0).toNat ≤ 8
    omega
  subst haa
  rw [show ((cl : Int) + (m : Int)) = ((N : Nat) : Int) from by omega]
  go_loopw [8, 9, 12] (fun v8 v9 q wr => ∃ i : Nat, i ≤ m ∧ q = .int .i64 i ∧ Two V B4 (Num.downL p at' m) (Num.chosenL p at' m) (Num.mostF p) (Num.worthF p at') m V.heap.size gw i i i i v8 v9 wr) (fun _ _ q _ => m - (intOf q).toNat)
  case atStart => exact ⟨0, Nat.zero_le _, rfl, HT0.out⟩
  case round =>
    obtain ⟨i, hi, rfl, hT⟩ := hrel
    have HT : Hid (Two V B4 (Num.downL p at' m) (Num.chosenL p at' m) (Num.mostF p) (Num.worthF p at') m V.heap.size gw i i i i _ _ wr) := hT
    have hBV := hT.bel
    clear HT0 hT
    by_cases hlt : i < m
    · go_wp2_with (first
        | (at_make; refine wpList_make_full _ rfl (.tmp 41) (.tmp 41) 22 rfl wr.heap.size 2 j0 (.int .i64 0) 1 Tryz.underlying22 hjf hy0 hy1 .i64 .i64 _ _ m rfl rfl rfl rfl (by rw [hy2]; omega) (by unfold maxLen; omega) (Nat.le_refl _) ?_; intro w5 hown hgrow; have hb5 := made_below hgrow; have HO5 : Hid _ := hown; clear hown hgrow)
        | (at_make; refine wpList_make_full _ rfl (.tmp 43) (.tmp 43) 22 rfl wr.heap.size 2 j0 (.int .i64 0) 1 Tryz.underlying22 hjf hy0 hy1 .i64 .i64 _ _ m rfl rfl rfl rfl (by rw [hy2]; omega) (by unfold maxLen; omega) hb5.size ?_; intro w6 hown hgrow; have hb6 := made_below hgrow; have HO6 : Hid _ := hown; clear hown hgrow))
      have HOA : Hid (Own w6 wr.heap.size wr.heap.size m (Num.fill (fun k => Num.hasF p (Num.atF at' k) i) m 0)) := by
        have h := Own.made (fun k => Num.hasF p (Num.atF at' k) i) HO5.out
        exact h.below hb6 h.lt.2
      have HOB : Hid (Own w6 wr.heap.size w5.heap.size m (Num.fill (Num.hasF p (Num.atF at' i)) m 0)) := Own.made _ HO6.out
      have hne : wr.heap.size ≠ w5.heap.size := by
        have h := Own.made (fun k => Num.hasF p (Num.atF at' k) i) HO5.out
        have := h.lt.2
        omega
      have hb56 := bstep hb5 hb6
      clear HO5 HO6 hb6
      generalize hgb : w5.heap.size = gb at *
      have hgbl : wr.heap.size ≤ gb := by rw [← hgb]; exact hb5.size
      clear hb5 hgb
      generalize wr = W1 at *
      go_loopw [15] (fun q wr => ∃ k : Nat, k ≤ m ∧ q = .int .i64 k ∧ Own wr W1.heap.size W1.heap.size m (Num.fill (fun k => Num.hasF p (Num.atF at' k) i) m k) ∧ Own wr W1.heap.size gb m (Num.fill (Num.hasF p (Num.atF at' i)) m k) ∧ Below W1.heap.size W1 wr) (fun q _ => m - (intOf q).toNat)
      case atStart => exact ⟨0, Nat.zero_le _, rfl, HOA.out, HOB.out, hb56⟩
      case round =>
        obtain ⟨k, hk, rfl, hOA, hOB, hbl⟩ := hrel
        clear HOA HOB hb56
        by_cases hkt : k < m
        · have hEa : ∀ w w', Own w W1.heap.size gb m (Num.fill (Num.hasF p (Num.atF at' i)) m k) → Below w.heap.size w w' → Own w' W1.heap.size gb m (Num.fill (Num.hasF p (Num.atF at' i)) m k) := fun w w' h hb => h.below hb h.lt.2
          have hRa : RowedE W1 W1.heap.size W1.heap.size m k (Num.fill (fun k => Num.hasF p (Num.atF at' k) i) m k) (Num.hasF p (Num.atF at' k) i) (fun w' => Own w' W1.heap.size gb m (Num.fill (Num.hasF p (Num.atF at' i)) m k)) wr.drew := RowedE.drew ⟨Rowed.start hbl hOA, hOB⟩ hEa
          have KHa : Hid (∀ w', RowedE W1 W1.heap.size W1.heap.size m k (Num.fill (fun k => Num.hasF p (Num.atF at' k) i) m k) (Num.hasF p (Num.atF at' k) i) (fun w' => Own w' W1.heap.size gb m (Num.fill (Num.hasF p (Num.atF at' i)) m k)) w' → Calls Tryz.prog 40 #[.agg #[.slice ca cl cc, .slice ra m rc], .int .i64 i, .int .i64 (Num.atF at' k : Nat)] w' fun e w'' => e = .returned (.int .i64 (Num.hasF p (Num.atF at' k) i)) ∧ RowedE W1 W1.heap.size W1.heap.size m k (Num.fill (fun k => Num.hasF p (Num.atF at' k) i) m k) (Num.hasF p (Num.atF at' k) i) (fun w' => Own w' W1.heap.size gb m (Num.fill (Num.hasF p (Num.atF at' i)) m k)) w'') := by
            intro w' h
            exact (has_any _ _ _ _ _ _ p w' HCL.out (RowsAt.below HR.out (HBX.out _ (bstep hBV h.r.bel)).2.2.2.2 (Nat.le_refl _)) HM.out i (Num.atF at' k) (by omega) (HJ8.out k (by omega))).mono fun _ _ q => ⟨q.1, h.step hEa q.2⟩
          have HSSa : Hid (∀ w', RowedE W1 W1.heap.size W1.heap.size m k (Num.fill (fun k => Num.hasF p (Num.atF at' k) i) m k) (Num.hasF p (Num.atF at' k) i) (fun w' => Own w' W1.heap.size gb m (Num.fill (Num.hasF p (Num.atF at' i)) m k)) w' → RowedE W1 W1.heap.size W1.heap.size m k (Num.fill (fun k => Num.hasF p (Num.atF at' k) i) m k) (Num.hasF p (Num.atF at' k) i) (fun w' => Own w' W1.heap.size gb m (Num.fill (Num.hasF p (Num.atF at' i)) m k)) (w'.setCell ⟨W1.heap.size, k, none⟩ (.int .i64 (Num.hasF p (Num.atF at' k) i)))) := fun w' h => ⟨h.r.set (Nat.le_refl _), by obtain ⟨l', ho, _⟩ := h.r.row; exact h.e.setOther ho (Ne.symm hne) _⟩
          have HENDa : Hid (∀ w', RowedE W1 W1.heap.size W1.heap.size m k (Num.fill (fun k => Num.hasF p (Num.atF at' k) i) m k) (Num.hasF p (Num.atF at' k) i) (fun w' => Own w' W1.heap.size gb m (Num.fill (Num.hasF p (Num.atF at' i)) m k)) w' → Own (w'.setCell ⟨W1.heap.size, k, none⟩ (.int .i64 (Num.hasF p (Num.atF at' k) i))) W1.heap.size W1.heap.size m (Num.fill (fun k => Num.hasF p (Num.atF at' k) i) m (k + 1)) ∧ Own (w'.setCell ⟨W1.heap.size, k, none⟩ (.int .i64 (Num.hasF p (Num.atF at' k) i))) W1.heap.size gb m (Num.fill (Num.hasF p (Num.atF at' i)) m k) ∧ Below W1.heap.size W1 (w'.setCell ⟨W1.heap.size, k, none⟩ (.int .i64 (Num.hasF p (Num.atF at' k) i)))) := fun w' h => by
            refine ⟨?_, (HSSa.out w' h).e, (HSSa.out w' h).r.bel⟩
            rw [← Num.fill_set _ _ _ _ hkt rfl]
            exact h.r.stored
          obtain ⟨Fa, qFa, qZa⟩ := RowedE.cell (V := W1) (base := W1.heap.size) (g := W1.heap.size) (l := Num.fill (fun k => Num.hasF p (Num.atF at' k) i) m k) (x := Num.hasF p (Num.atF at' k) i) (E := fun w' => Own w' W1.heap.size gb m (Num.fill (Num.hasF p (Num.atF at' i)) m k)) hkt
          have q0a : ∀ w', RowedE W1 W1.heap.size W1.heap.size m k (Num.fill (fun k => Num.hasF p (Num.atF at' k) i) m k) (Num.hasF p (Num.atF at' k) i) (fun w' => Own w' W1.heap.size gb m (Num.fill (Num.hasF p (Num.atF at' i)) m k)) w' → w'.cell? ⟨w.heap.size, 0, none⟩ = some (.slice ca cl cc) := fun w' h => (HBX.out _ (bstep hBV h.r.bel)).1.1
          have q1a : ∀ w', RowedE W1 W1.heap.size W1.heap.size m k (Num.fill (fun k => Num.hasF p (Num.atF at' k) i) m k) (Num.hasF p (Num.atF at' k) i) (fun w' => Own w' W1.heap.size gb m (Num.fill (Num.hasF p (Num.atF at' i)) m k)) w' → w'.cell? ⟨w.heap.size, 1, none⟩ = some (.slice ra m rc) := fun w' h => (HBX.out _ (bstep hBV h.r.bel)).1.2
          have q2a : ∀ w', RowedE W1 W1.heap.size W1.heap.size m k (Num.fill (fun k => Num.hasF p (Num.atF at' k) i) m k) (Num.hasF p (Num.atF at' k) i) (fun w' => Own w' W1.heap.size gb m (Num.fill (Num.hasF p (Num.atF at' i)) m k)) w' → w'.cell? ⟨ab, ao + k, none⟩ = some (.int .i64 (Num.atF at' k : Nat)) := fun w' h => HAC.out _ (HBX.out _ (bstep hBV h.r.bel)).2.2.2.2 k (by omega)
          clear hOA hOB
          go_wp2_with fail
          go_region_held3 (fun w' => RowedE W1 W1.heap.size W1.heap.size m k (Num.fill (fun k => Num.hasF p (Num.atF at' k) i) m k) (Num.hasF p (Num.atF at' k) i) (fun w' => Own w' W1.heap.size gb m (Num.fill (Num.hasF p (Num.atF at' i)) m k)) w') (first | assumption | (apply HSSa.out; assumption))
            (first | (go_at_call 40; refine (KHa.out _ ?_).mono ?_; assumption; rintro e v1 ⟨rfl, hb1⟩))
          obtain ⟨hOA2, hOB2, hbl2⟩ := HENDa.out v1 hb1
          clear hEa hRa KHa HSSa HENDa Fa qFa qZa q0a q1a q2a hb1
          go_wp2_with fail
          generalize v1.setCell ⟨W1.heap.size, k, none⟩ (.int .i64 (Num.hasF p (Num.atF at' k) i)) = W2 at *
          have hEb : ∀ w w', Own w W1.heap.size W1.heap.size m (Num.fill (fun k => Num.hasF p (Num.atF at' k) i) m (k + 1)) → Below w.heap.size w w' → Own w' W1.heap.size W1.heap.size m (Num.fill (fun k => Num.hasF p (Num.atF at' k) i) m (k + 1)) := fun w w' h hb => h.below hb h.lt.2
          have hRb : RowedE W1 W1.heap.size gb m k (Num.fill (Num.hasF p (Num.atF at' i)) m k) (Num.hasF p (Num.atF at' i) k) (fun w' => Own w' W1.heap.size W1.heap.size m (Num.fill (fun k => Num.hasF p (Num.atF at' k) i) m (k + 1))) W2.drew := RowedE.drew ⟨Rowed.start hbl2 hOB2, hOA2⟩ hEb
          have KHb : Hid (∀ w', RowedE W1 W1.heap.size gb m k (Num.fill (Num.hasF p (Num.atF at' i)) m k) (Num.hasF p (Num.atF at' i) k) (fun w' => Own w' W1.heap.size W1.heap.size m (Num.fill (fun k => Num.hasF p (Num.atF at' k) i) m (k + 1))) w' → Calls Tryz.prog 40 #[.agg #[.slice ca cl cc, .slice ra m rc], .int .i64 k, .int .i64 (Num.atF at' i : Nat)] w' fun e w'' => e = .returned (.int .i64 (Num.hasF p (Num.atF at' i) k)) ∧ RowedE W1 W1.heap.size gb m k (Num.fill (Num.hasF p (Num.atF at' i)) m k) (Num.hasF p (Num.atF at' i) k) (fun w' => Own w' W1.heap.size W1.heap.size m (Num.fill (fun k => Num.hasF p (Num.atF at' k) i) m (k + 1))) w'') := by
            intro w' h
            exact (has_any _ _ _ _ _ _ p w' HCL.out (RowsAt.below HR.out (HBX.out _ (bstep hBV h.r.bel)).2.2.2.2 (Nat.le_refl _)) HM.out k (Num.atF at' i) (by omega) (HJ8.out i (by omega))).mono fun _ _ q => ⟨q.1, h.step hEb q.2⟩
          have HSSb : Hid (∀ w', RowedE W1 W1.heap.size gb m k (Num.fill (Num.hasF p (Num.atF at' i)) m k) (Num.hasF p (Num.atF at' i) k) (fun w' => Own w' W1.heap.size W1.heap.size m (Num.fill (fun k => Num.hasF p (Num.atF at' k) i) m (k + 1))) w' → RowedE W1 W1.heap.size gb m k (Num.fill (Num.hasF p (Num.atF at' i)) m k) (Num.hasF p (Num.atF at' i) k) (fun w' => Own w' W1.heap.size W1.heap.size m (Num.fill (fun k => Num.hasF p (Num.atF at' k) i) m (k + 1))) (w'.setCell ⟨gb, k, none⟩ (.int .i64 (Num.hasF p (Num.atF at' i) k)))) := fun w' h => ⟨h.r.set hgbl, by obtain ⟨l', ho, _⟩ := h.r.row; exact h.e.setOther ho hne _⟩
          have HENDb : Hid (∀ w', RowedE W1 W1.heap.size gb m k (Num.fill (Num.hasF p (Num.atF at' i)) m k) (Num.hasF p (Num.atF at' i) k) (fun w' => Own w' W1.heap.size W1.heap.size m (Num.fill (fun k => Num.hasF p (Num.atF at' k) i) m (k + 1))) w' → Own (w'.setCell ⟨gb, k, none⟩ (.int .i64 (Num.hasF p (Num.atF at' i) k))) W1.heap.size gb m (Num.fill (Num.hasF p (Num.atF at' i)) m (k + 1)) ∧ Own (w'.setCell ⟨gb, k, none⟩ (.int .i64 (Num.hasF p (Num.atF at' i) k))) W1.heap.size W1.heap.size m (Num.fill (fun k => Num.hasF p (Num.atF at' k) i) m (k + 1)) ∧ Below W1.heap.size W1 (w'.setCell ⟨gb, k, none⟩ (.int .i64 (Num.hasF p (Num.atF at' i) k)))) := fun w' h => by
            refine ⟨?_, (HSSb.out w' h).e, (HSSb.out w' h).r.bel⟩
            rw [← Num.fill_set _ _ _ _ hkt rfl]
            exact h.r.stored
          obtain ⟨Fb, qFb, qZb⟩ := RowedE.cell (V := W1) (base := W1.heap.size) (g := gb) (l := Num.fill (Num.hasF p (Num.atF at' i)) m k) (x := Num.hasF p (Num.atF at' i) k) (E := fun w' => Own w' W1.heap.size W1.heap.size m (Num.fill (fun k => Num.hasF p (Num.atF at' k) i) m (k + 1))) hkt
          have q0b : ∀ w', RowedE W1 W1.heap.size gb m k (Num.fill (Num.hasF p (Num.atF at' i)) m k) (Num.hasF p (Num.atF at' i) k) (fun w' => Own w' W1.heap.size W1.heap.size m (Num.fill (fun k => Num.hasF p (Num.atF at' k) i) m (k + 1))) w' → w'.cell? ⟨w.heap.size, 0, none⟩ = some (.slice ca cl cc) := fun w' h => (HBX.out _ (bstep hBV h.r.bel)).1.1
          have q1b : ∀ w', RowedE W1 W1.heap.size gb m k (Num.fill (Num.hasF p (Num.atF at' i)) m k) (Num.hasF p (Num.atF at' i) k) (fun w' => Own w' W1.heap.size W1.heap.size m (Num.fill (fun k => Num.hasF p (Num.atF at' k) i) m (k + 1))) w' → w'.cell? ⟨w.heap.size, 1, none⟩ = some (.slice ra m rc) := fun w' h => (HBX.out _ (bstep hBV h.r.bel)).1.2
          have q2b : ∀ w', RowedE W1 W1.heap.size gb m k (Num.fill (Num.hasF p (Num.atF at' i)) m k) (Num.hasF p (Num.atF at' i) k) (fun w' => Own w' W1.heap.size W1.heap.size m (Num.fill (fun k => Num.hasF p (Num.atF at' k) i) m (k + 1))) w' → w'.cell? ⟨ab, ao + i, none⟩ = some (.int .i64 (Num.atF at' i : Nat)) := fun w' h => HAC.out _ (HBX.out _ (bstep hBV h.r.bel)).2.2.2.2 i (by omega)
          clear hOA2 hOB2
          go_region_held3 (fun w' => RowedE W1 W1.heap.size gb m k (Num.fill (Num.hasF p (Num.atF at' i)) m k) (Num.hasF p (Num.atF at' i) k) (fun w' => Own w' W1.heap.size W1.heap.size m (Num.fill (fun k => Num.hasF p (Num.atF at' k) i) m (k + 1))) w') (first | assumption | (apply HSSb.out; assumption))
            (first | (go_at_call 40; refine (KHb.out _ ?_).mono ?_; assumption; rintro e v1 ⟨rfl, hb1⟩))
          obtain ⟨hOB3, hOA3, hbl3⟩ := HENDb.out v1 hb1
          have HOA3 : Hid _ := hOA3
          have HOB3 : Hid _ := hOB3
          clear hEb hRb KHb HSSb HENDb Fb qFb qZb q0b q1b q2b hb1 hOA3 hOB3
          go_wp2_with fail
          go_roundw
          case rel => exact ⟨k + 1, hkt, by go_num, HOA3.out, HOB3.out, hbl3⟩
          case measure => simp [intOf]; omega
        · have hke : k = m := by omega
          subst hke
          have hT1 := HT.out.kept hbl
          have HRA : Hid (RowOwn wr B4 (.slice (some ⟨W1.heap.size, 0, none⟩) k k) ((Num.downL p at' k)[i]?.getD [])) := by
            have e : (Num.downL p at' k)[i]?.getD [] = Num.fill (fun q => Num.hasF p (Num.atF at' q) i) k k := by rw [Num.fill_all]; exact getD_range _ k i [] hlt
            show World.ownsRow _ _ _ _ _ _ _
            rw [e, Num.fill_len]
            exact own_low hOA HT.out.sz
          have HRB : Hid (RowOwn wr B4 (.slice (some ⟨gb, 0, none⟩) k k) ((Num.chosenL p at' k)[i]?.getD [])) := by
            have e : (Num.chosenL p at' k)[i]?.getD [] = Num.fill (Num.hasF p (Num.atF at' i)) k k := by rw [Num.fill_all]; exact getD_range _ k i [] hlt
            show World.ownsRow _ _ _ _ _ _ _
            rw [e, Num.fill_len]
            exact own_low hOB HT.out.sz
          have hDl : (Num.downL p at' k).length = k := by simp [Num.downL]
          have hAl : (Num.chosenL p at' k).length = k := (Num.chosen_len p at' k).1
          have hT2 := hT1.kept (balloc wr (.cells #[.slice (some ⟨W1.heap.size, 0, none⟩) k k] 22))
          obtain ⟨vs, hov, hvin⟩ := hT2.d
          rw [List.length_take, hDl, Nat.min_eq_left (by omega)] at hov hvin
          have HOV : Hid _ := hov
          have HVIN : Hid _ := hvin
          have HT2 : Hid _ := hT2
          have hsz2 := hT2.sz
          clear hOA hOB hT1 hov hvin hT2
          go_wp2_with (at_builtin; refine wpList_append_own_at _ rfl (.tmp 70) (.tmp 72) 74 rfl B4 22 i0 (.slice none 0 0) 1 24 Tryz.underlying74 hif hz0 hz1 hz2 rfl (by decide) _ i vs rfl HOV.out ⟨wr.heap.size, 0, none⟩ 1 1 [.slice (some ⟨W1.heap.size, 0, none⟩) k k] rfl rfl ?p3 ?p4 ?p5 ?p6 hsz2 ?_)
          case p3 => first | exact news_one rfl _ _ | exact news_one' rfl _ _
          case p4 => first | rfl | (intro u hu; simp at hu; subst hu; rfl)
          case p5 => unfold maxLen; omega
          case p6 => omega
          intro v8' w7 ho7 hg7 _ hat7
          have HT7 : Hid (Two V B4 (Num.downL p at' k) (Num.chosenL p at' k) (Num.mostF p) (Num.worthF p at') k V.heap.size gw (i + 1) i i i v8' _ w7) := HT2.out.pushD (by omega) HOV.out HVIN.out (HRA.out.kept (balloc _ _)) ho7 hg7 (by simpa using hat7)
          have HRB7 : Hid (RowOwn w7 B4 (.slice (some ⟨gb, 0, none⟩) k k) ((Num.chosenL p at' k)[i]?.getD [])) := RowOwn.grown (HRB.out.kept (balloc _ _)) HOV.out hg7
          clear HT2 HOV HVIN HRA HRB ho7 hg7 hat7 hsz2
          have hT8 := HT7.out.kept (balloc w7 (.cells #[.slice (some ⟨gb, 0, none⟩) k k] 22))
          obtain ⟨vs9, hov, hvin⟩ := hT8.a
          rw [List.length_take, hAl, Nat.min_eq_left (by omega)] at hov hvin
          have HOV : Hid _ := hov
          have HVIN : Hid _ := hvin
          have HT8 : Hid _ := hT8
          have hsz8 := hT8.sz
          clear hov hvin hT8
          go_wp2_with (at_builtin; refine wpList_append_own_at _ rfl (.tmp 74) (.tmp 76) 74 rfl B4 22 i0 (.slice none 0 0) 1 24 Tryz.underlying74 hif hz0 hz1 hz2 rfl (by decide) _ i vs9 rfl HOV.out ⟨w7.heap.size, 0, none⟩ 1 1 [.slice (some ⟨gb, 0, none⟩) k k] rfl rfl ?r3 ?r4 ?r5 ?r6 hsz8 ?_)
          case r3 => first | exact news_one rfl _ _ | exact news_one' rfl _ _
          case r4 => first | rfl | (intro u hu; simp at hu; subst hu; rfl)
          case r5 => unfold maxLen; omega
          case r6 => omega
          intro v9' w9 ho9 hg9 _ hat9
          have hT9 : Two V B4 (Num.downL p at' k) (Num.chosenL p at' k) (Num.mostF p) (Num.worthF p at') k V.heap.size gw (i + 1) (i + 1) i i v8' v9' w9 := HT8.out.pushA (by omega) HOV.out HVIN.out (HRB7.out.kept (balloc _ _)) ho9 hg9 (by simpa using hat9)
          have HT9 : Hid _ := hT9
          obtain ⟨⟨b0, b1⟩, _, _, hz9, hB9⟩ := HBX.out _ hT9.bel
          rcases (RowsAt.below HR.out hB9 (Nat.le_refl _)).2 with h | ⟨br, ro, har, hbr, hcr⟩
          · omega
          obtain ⟨xa, xl, xc, r0, r1, _, _⟩ := hcr i hlt
          obtain ⟨⟨u, u0⟩, u1⟩ := hT9.om.cell' i hlt
          have HMI : Hid ((p.rows[i]?.getD ([], 0)).2 = Num.mostF p i) := rfl
          generalize (p.rows[i]?.getD ([], 0)).2 = y at r1 HMI
          clear hcr HT8 HT7 HRB7 HOV HVIN ho9 hg9 hat9 hsz8 hT9 hz9
          subst har
          go_wp2_with fail
          have hT10 := HT9.out.most hlt y HMI.out
          generalize w9.setCell ⟨V.heap.size, i, none⟩ (.int .i64 y) = W10 at *
          have hS0 : TwoW V B4 (Num.downL p at' k) (Num.chosenL p at' k) (Num.mostF p) (Num.worthF p at') k V.heap.size gw i v8' v9' W10.drew := TwoW.step ⟨i, Or.inl rfl, hT10⟩ (Below.refl _ _).drew
          have KC : Hid (∀ w', TwoW V B4 (Num.downL p at' k) (Num.chosenL p at' k) (Num.mostF p) (Num.worthF p at') k V.heap.size gw i v8' v9' w' → Calls Tryz.prog 41 #[.agg #[.slice ca cl cc, .slice (some ⟨br, ro, none⟩) k rc], .int .i64 (Num.atF at' i : Nat)] w' fun e w'' => e = .returned (.int .i64 (Num.worthF p at' i)) ∧ TwoW V B4 (Num.downL p at' k) (Num.chosenL p at' k) (Num.mostF p) (Num.worthF p at') k V.heap.size gw i v8' v9' w'') := by
            intro w' h
            exact (cost_any _ _ _ _ _ _ p.costs w' (Ints.below HC.out (HBX.out _ h.bel).2.2.2.2 (Nat.le_refl _)) (Num.atF at' i)).mono fun _ _ q => ⟨q.1, h.step q.2⟩
          have HSS : Hid (∀ w', TwoW V B4 (Num.downL p at' k) (Num.chosenL p at' k) (Num.mostF p) (Num.worthF p at') k V.heap.size gw i v8' v9' w' → TwoW V B4 (Num.downL p at' k) (Num.chosenL p at' k) (Num.mostF p) (Num.worthF p at') k V.heap.size gw i v8' v9' (w'.setCell ⟨gw, i, none⟩ (.int .i64 (Num.worthF p at' i)))) := fun w' h => h.set hlt
          obtain ⟨Fw, qF, qZ⟩ := TwoW.cell (V := V) (B := B4) (D := Num.downL p at' k) (A := Num.chosenL p at' k) (fm := Num.mostF p) (fw := Num.worthF p at') (gm := V.heap.size) (gw := gw) (v8 := v8') (v9 := v9') hlt
          have q0 : ∀ w', TwoW V B4 (Num.downL p at' k) (Num.chosenL p at' k) (Num.mostF p) (Num.worthF p at') k V.heap.size gw i v8' v9' w' → w'.cell? ⟨w.heap.size, 0, none⟩ = some (.slice ca cl cc) := fun w' h => (HBX.out _ h.bel).1.1
          have q1 : ∀ w', TwoW V B4 (Num.downL p at' k) (Num.chosenL p at' k) (Num.mostF p) (Num.worthF p at') k V.heap.size gw i v8' v9' w' → w'.cell? ⟨w.heap.size, 1, none⟩ = some (.slice (some ⟨br, ro, none⟩) k rc) := fun w' h => (HBX.out _ h.bel).1.2
          have q2 : ∀ w', TwoW V B4 (Num.downL p at' k) (Num.chosenL p at' k) (Num.mostF p) (Num.worthF p at') k V.heap.size gw i v8' v9' w' → w'.cell? ⟨ab, ao + i, none⟩ = some (.int .i64 (Num.atF at' i : Nat)) := fun w' h => HAC.out _ (HBX.out _ h.bel).2.2.2.2 i hlt
          clear hT10 HT9 b0 b1 r0 r1 u0 u1 hB9
          go_region_held3 (fun w' => TwoW V B4 (Num.downL p at' k) (Num.chosenL p at' k) (Num.mostF p) (Num.worthF p at') k V.heap.size gw i v8' v9' w') (first | assumption | (apply HSS.out; assumption))
            (first | (go_at_call 41; refine (KC.out _ ?_).mono ?_; assumption; rintro e v1 ⟨rfl, hb1⟩))
          have HT11 : Hid _ := hb1.stored hlt
          clear hS0 KC HSS Fw qF qZ q0 q1 q2 hb1
          go_wp2_with fail
          go_roundw
          case rel => exact ⟨i + 1, hlt, by go_num, HT11.out⟩
          case measure => simp [intOf]; omega
    · have hie : m = i := by omega
      subst hie
      obtain ⟨a8, c8, a9, c9, e8, hc8, hl8, e9, hc9, hl9, hmo, hwo⟩ := HT.out.ended (by simp [Num.downL]) (Num.chosen_len p at' m).1
      subst e8 e9
      have HL8 : Hid (Lines wr a8 m (Num.downL p at' m)) := hl8
      have HL9 : Hid (Lines wr a9 m (Num.chosenL p at' m)) := hl9
      have HMO : Hid (Ints wr (some ⟨V.heap.size, 0, none⟩) m (Num.mostsL p m)) := hmo
      have HWO : Hid (Ints wr (some ⟨gw, 0, none⟩) m (Num.worthsL p at' m)) := hwo
      have HSQ := Num.chosen_sq p at' m
      have HCS : Hid (Num.Sq m (Num.chosenL p at' m)) := HSQ
      have HDS : Hid (Num.Sq m (Num.downL p at' m)) := by show Num.Sq m (Num.downL p at' m); rw [Num.down_turn]; exact Num.turn_sq _ m HSQ
      have HDB : Hid (Num.BdL 400 (Num.downL p at' m)) := Num.down_bd p HM.out at' m
      have HCB : Hid (Num.BdL 400 (Num.chosenL p at' m)) := Num.chosen_bd p HM.out at' m
      clear hl8 hl9 hmo hwo HT HSQ
      go_wp2_with fail
      refine (det_any m a8 c8 (Num.downL p at' m) wr HL8.out hc8 h4 HDS.out.2 HDB.out).mono ?_
      rintro e w12 ⟨rfl, hb12⟩
      rw [Num.den_det p at' m h1 h4]
      have hdb := Num.den_bd p HM.out at' m h4
      generalize hden : Num.denL p at' m = den at *
      have HDEN : Hid _ := hden
      clear hden
      have hBV12 := bstep hBV hb12
      have HL8' : Hid (Lines w12 a8 m (Num.downL p at' m)) := Lines.below HL8.out hb12 (Nat.le_refl _)
      have HL9' : Hid (Lines w12 a9 m (Num.chosenL p at' m)) := Lines.below HL9.out hb12 (Nat.le_refl _)
      have HMO' : Hid (Ints w12 (some ⟨V.heap.size, 0, none⟩) m (Num.mostsL p m)) := Ints.below HMO.out hb12 (Nat.le_refl _)
      have HWO' : Hid (Ints w12 (some ⟨gw, 0, none⟩) m (Num.worthsL p at' m)) := Ints.below HWO.out hb12 (Nat.le_refl _)
      clear HL8 HL9 HMO HWO hb12 hBV
      by_cases hd0 : den = 0
      · subst hd0
        obtain ⟨⟨b0, b1⟩, ⟨c0, c1, c2, c3, c4, c5⟩, f0, hz, hB⟩ := HBX.out _ hBV12
        go_wp2_with fail
        exact bodyPost_ret (v := .tuple #[corner0, .bool false]) (by simp [results, Tryz.results21, go_sem, corner0, c0, c1, c2, c3, c4, c5]) rfl ⟨set6 hB (by simp) _ _ _ _ _ _, Or.inl ⟨HDEN.out, rfl⟩⟩
      · have hd0' : (den == 0) = false := by simpa using hd0
        go_wp2_with (first
          | (at_make; refine wpList_make_full _ rfl (.tmp 101) (.tmp 101) 22 rfl w12.heap.size 2 j0 (.int .i64 0) 1 Tryz.underlying22 hjf hy0 hy1 .i64 .i64 _ _ N rfl rfl rfl rfl (by rw [hy2]; omega) (by unfold maxLen; omega) (Nat.le_refl _) ?_; intro w13 hown hgrow; have hb13 := made_below hgrow; have HO13 : Hid _ := hown; clear hown hgrow)
          | (at_make; refine wpList_make_full _ rfl (.tmp 103) (.tmp 103) 22 rfl w12.heap.size 2 j0 (.int .i64 0) 1 Tryz.underlying22 hjf hy0 hy1 .i64 .i64 _ _ m rfl rfl rfl rfl (by rw [hy2]; omega) (by unfold maxLen; omega) hb13.size ?_; intro w14 hown hgrow; have hb14 := made_below hgrow; have HO14 : Hid _ := hown; clear hown hgrow))
        have HOX : Hid (Own w14 w12.heap.size w12.heap.size N (Num.spreadN N at' (Num.sharesL (Num.chosenL p at' m) (Num.mostsL p m) m) 0)) := by
          have h := Own.made (fun _ => 0) HO13.out
          rw [Num.fill_zero] at h
          exact h.below hb14 h.lt.2
        have HOY : Hid (Own w14 w12.heap.size w13.heap.size m (Num.fill (fun k => (Num.priceL p at' m)[k]?.getD 0) m 0)) := Own.made _ HO14.out
        have hgxy : w12.heap.size ≠ w13.heap.size := by
          have h := Own.made (fun _ => 0) HO13.out
          have := h.lt.2
          omega
        have hb1314 := bstep hb13 hb14
        have hgyl : w12.heap.size ≤ w13.heap.size := hb13.size
        clear HO13 HO14 hb13 hb14
        generalize w13.heap.size = gy at *
        clear w13
        go_loopw [19] (fun q wr => ∃ k : Nat, k ≤ m ∧ q = .int .i64 k ∧ Own wr w12.heap.size w12.heap.size N (Num.spreadN N at' (Num.sharesL (Num.chosenL p at' m) (Num.mostsL p m) m) k) ∧ Own wr w12.heap.size gy m (Num.fill (fun k => (Num.priceL p at' m)[k]?.getD 0) m k) ∧ Below w12.heap.size w12 wr) (fun q _ => m - (intOf q).toNat)
        case atStart => exact ⟨0, Nat.zero_le _, rfl, HOX.out, HOY.out, hb1314⟩
        case round =>
          obtain ⟨k, hk, rfl, hOX, hOY, hbl⟩ := hrel
          clear HOX HOY hb1314
          by_cases hkt : k < m
          · have hkn : Num.atF at' k < N := by have := HAT.out k hkt; show (at'[k]?.getD 0).toNat < N; omega
            have hEx : ∀ w w', Own w w12.heap.size gy m (Num.fill (fun k => (Num.priceL p at' m)[k]?.getD 0) m k) → Below w.heap.size w w' → Own w' w12.heap.size gy m (Num.fill (fun k => (Num.priceL p at' m)[k]?.getD 0) m k) := fun w w' h hb => h.below hb h.lt.2
            have hRx : RowedE w12 w12.heap.size w12.heap.size N (Num.atF at' k) (Num.spreadN N at' (Num.sharesL (Num.chosenL p at' m) (Num.mostsL p m) m) k) ((Num.sharesL (Num.chosenL p at' m) (Num.mostsL p m) m)[k]?.getD 0) (fun w' => Own w' w12.heap.size gy m (Num.fill (fun k => (Num.priceL p at' m)[k]?.getD 0) m k)) wr.drew := RowedE.drew ⟨Rowed.start hbl hOX, hOY⟩ hEx
            have KP : Hid (∀ w', RowedE w12 w12.heap.size w12.heap.size N (Num.atF at' k) (Num.spreadN N at' (Num.sharesL (Num.chosenL p at' m) (Num.mostsL p m) m) k) ((Num.sharesL (Num.chosenL p at' m) (Num.mostsL p m) m)[k]?.getD 0) (fun w' => Own w' w12.heap.size gy m (Num.fill (fun k => (Num.priceL p at' m)[k]?.getD 0) m k)) w' → Calls Tryz.prog 43 #[.slice a8 m c8, .int .i64 k, .slice (some ⟨V.heap.size, 0, none⟩) m m] w' fun e w'' => ∃ a' c', e = .returned (.slice a' m c') ∧ m ≤ c' ∧ Lines w'' a' m (Num.putL (Num.downL p at' m) k (Num.mostsL p m) m) ∧ RowedE w12 w12.heap.size w12.heap.size N (Num.atF at' k) (Num.spreadN N at' (Num.sharesL (Num.chosenL p at' m) (Num.mostsL p m) m) k) ((Num.sharesL (Num.chosenL p at' m) (Num.mostsL p m) m)[k]?.getD 0) (fun w' => Own w' w12.heap.size gy m (Num.fill (fun k => (Num.priceL p at' m)[k]?.getD 0) m k)) w'') := by
              intro w' h
              refine (put_any m a8 c8 (Num.downL p at' m) w' (Lines.below HL8'.out h.r.bel (Nat.le_refl _)) h1 h4 HDS.out.2 k hkt _ _ (Num.mostsL p m) (Ints.below HMO'.out h.r.bel (Nat.le_refl _))).mono ?_
              rintro e w'' ⟨a', c', rfl, hc', hl', hb⟩
              exact ⟨a', c', rfl, hc', hl', h.step hEx hb⟩
            have KD : Hid (∀ w' a' c', RowedE w12 w12.heap.size w12.heap.size N (Num.atF at' k) (Num.spreadN N at' (Num.sharesL (Num.chosenL p at' m) (Num.mostsL p m) m) k) ((Num.sharesL (Num.chosenL p at' m) (Num.mostsL p m) m)[k]?.getD 0) (fun w' => Own w' w12.heap.size gy m (Num.fill (fun k => (Num.priceL p at' m)[k]?.getD 0) m k)) w' → m ≤ c' → Lines w' a' m (Num.putL (Num.downL p at' m) k (Num.mostsL p m) m) → Calls Tryz.prog 42 #[.slice a' m c'] w' fun e w'' => e = .returned (.int .i64 ((Num.sharesL (Num.chosenL p at' m) (Num.mostsL p m) m)[k]?.getD 0)) ∧ RowedE w12 w12.heap.size w12.heap.size N (Num.atF at' k) (Num.spreadN N at' (Num.sharesL (Num.chosenL p at' m) (Num.mostsL p m) m) k) ((Num.sharesL (Num.chosenL p at' m) (Num.mostsL p m) m)[k]?.getD 0) (fun w' => Own w' w12.heap.size gy m (Num.fill (fun k => (Num.priceL p at' m)[k]?.getD 0) m k)) w'') := by
              intro w' a' c' h hc' hl'
              rw [← Num.x_det p at' m k h1 h4 hkt]
              refine (det_any m a' c' _ w' hl' hc' h4 (Num.put_len _ k _ m HDS.out) (Num.put_bd _ k _ m HDB.out (Num.mosts_bd p HM.out m))).mono ?_
              rintro e w'' ⟨rfl, hb⟩
              rw [Num.x_det p at' m k h1 h4 hkt]
              exact ⟨rfl, h.step hEx hb⟩
            have HSS : Hid (∀ w', RowedE w12 w12.heap.size w12.heap.size N (Num.atF at' k) (Num.spreadN N at' (Num.sharesL (Num.chosenL p at' m) (Num.mostsL p m) m) k) ((Num.sharesL (Num.chosenL p at' m) (Num.mostsL p m) m)[k]?.getD 0) (fun w' => Own w' w12.heap.size gy m (Num.fill (fun k => (Num.priceL p at' m)[k]?.getD 0) m k)) w' → RowedE w12 w12.heap.size w12.heap.size N (Num.atF at' k) (Num.spreadN N at' (Num.sharesL (Num.chosenL p at' m) (Num.mostsL p m) m) k) ((Num.sharesL (Num.chosenL p at' m) (Num.mostsL p m) m)[k]?.getD 0) (fun w' => Own w' w12.heap.size gy m (Num.fill (fun k => (Num.priceL p at' m)[k]?.getD 0) m k)) (w'.setCell ⟨w12.heap.size, Num.atF at' k, none⟩ (.int .i64 ((Num.sharesL (Num.chosenL p at' m) (Num.mostsL p m) m)[k]?.getD 0)))) := fun w' h => ⟨h.r.set (Nat.le_refl _), by obtain ⟨l', ho, _⟩ := h.r.row; exact h.e.setOther ho (Ne.symm hgxy) _⟩
            have HEND : Hid (∀ w', RowedE w12 w12.heap.size w12.heap.size N (Num.atF at' k) (Num.spreadN N at' (Num.sharesL (Num.chosenL p at' m) (Num.mostsL p m) m) k) ((Num.sharesL (Num.chosenL p at' m) (Num.mostsL p m) m)[k]?.getD 0) (fun w' => Own w' w12.heap.size gy m (Num.fill (fun k => (Num.priceL p at' m)[k]?.getD 0) m k)) w' → Own (w'.setCell ⟨w12.heap.size, Num.atF at' k, none⟩ (.int .i64 ((Num.sharesL (Num.chosenL p at' m) (Num.mostsL p m) m)[k]?.getD 0))) w12.heap.size w12.heap.size N (Num.spreadN N at' (Num.sharesL (Num.chosenL p at' m) (Num.mostsL p m) m) (k + 1)) ∧ Own (w'.setCell ⟨w12.heap.size, Num.atF at' k, none⟩ (.int .i64 ((Num.sharesL (Num.chosenL p at' m) (Num.mostsL p m) m)[k]?.getD 0))) w12.heap.size gy m (Num.fill (fun k => (Num.priceL p at' m)[k]?.getD 0) m k) ∧ Below w12.heap.size w12 (w'.setCell ⟨w12.heap.size, Num.atF at' k, none⟩ (.int .i64 ((Num.sharesL (Num.chosenL p at' m) (Num.mostsL p m) m)[k]?.getD 0)))) := fun w' h => ⟨h.r.stored, (HSS.out w' h).e, (HSS.out w' h).r.bel⟩
            obtain ⟨Fx, qF, qZ⟩ := RowedE.cell (V := w12) (base := w12.heap.size) (g := w12.heap.size) (l := Num.spreadN N at' (Num.sharesL (Num.chosenL p at' m) (Num.mostsL p m) m) k) (x := (Num.sharesL (Num.chosenL p at' m) (Num.mostsL p m) m)[k]?.getD 0) (E := fun w' => Own w' w12.heap.size gy m (Num.fill (fun k => (Num.priceL p at' m)[k]?.getD 0) m k)) hkn
            have q2 : ∀ w', RowedE w12 w12.heap.size w12.heap.size N (Num.atF at' k) (Num.spreadN N at' (Num.sharesL (Num.chosenL p at' m) (Num.mostsL p m) m) k) ((Num.sharesL (Num.chosenL p at' m) (Num.mostsL p m) m)[k]?.getD 0) (fun w' => Own w' w12.heap.size gy m (Num.fill (fun k => (Num.priceL p at' m)[k]?.getD 0) m k)) w' → w'.cell? ⟨ab, ao + k, none⟩ = some (.int .i64 (Num.atF at' k : Nat)) := fun w' h => HAC.out _ (HBX.out _ (bstep hBV12 h.r.bel)).2.2.2.2 k hkt
            clear hOX hOY
            generalize (Num.sharesL (Num.chosenL p at' m) (Num.mostsL p m) m)[k]?.getD 0 = sx at hRx KP KD HSS HEND qF qZ q2
            go_wp2_with fail
            generalize Num.atF at' k = jk at hkn hRx KP KD HSS HEND qF qZ q2
            go_region_held3 (fun w' => RowedE w12 w12.heap.size w12.heap.size N jk (Num.spreadN N at' (Num.sharesL (Num.chosenL p at' m) (Num.mostsL p m) m) k) sx (fun w' => Own w' w12.heap.size gy m (Num.fill (fun k => (Num.priceL p at' m)[k]?.getD 0) m k)) w') (first | assumption | (apply HSS.out; assumption))
              (first | (go_at_call 43; refine (KP.out _ ?_).mono ?_; assumption; rintro e v1 ⟨a', c', rfl, hc', hL', hb1⟩)
                     | (go_at_call 42; refine (KD.out _ _ _ ?_ hc' hL').mono ?_; assumption; rintro e v2 ⟨rfl, hb2⟩))
            obtain ⟨hOX2, hOY2, hbl2⟩ := HEND.out v2 hb2
            have HOX2 : Hid _ := hOX2
            clear hEx hRx KP KD HSS HEND Fx qF qZ q2 hb1 hb2 hc' hL' hOX2 hkn
            generalize v2.setCell ⟨w12.heap.size, jk, none⟩ (.int .i64 sx) = W2 at *
            go_wp2_with fail
            refine (put_any m a9 c9 (Num.chosenL p at' m) W2 (Lines.below HL9'.out hbl2 (Nat.le_refl _)) h1 h4 HCS.out.2 k hkt _ _ (Num.worthsL p at' m) (Ints.below HWO'.out hbl2 (Nat.le_refl _))).mono ?_
            rintro e v3 ⟨a', c', rfl, hc', hl', hb3⟩
            have HL3 : Hid (Lines v3 a' m (Num.putL (Num.chosenL p at' m) k (Num.worthsL p at' m) m)) := hl'
            clear hl'
            go_wp2_with fail
            refine (det_any m a' c' _ v3 HL3.out hc' h4 (Num.put_len _ k _ m HCS.out) (Num.put_bd _ k _ m HCB.out (Num.worths_bd p HM.out at' m))).mono ?_
            rintro e v4 ⟨rfl, hb4⟩
            rw [Num.y_det p at' m k h1 h4 hkt]
            have hb34 := bstep hb3 hb4
            have hbl4 := bstep hbl2 hb34
            have HOX4 : Hid (Own v4 w12.heap.size w12.heap.size N (Num.spreadN N at' (Num.sharesL (Num.chosenL p at' m) (Num.mostsL p m) m) (k + 1))) := Own.below HOX2.out hb34 (Own.lt HOX2.out).2
            have hOY4 := hOY2.below hb34 hOY2.lt.2
            have HOY4 : Hid _ := hOY4
            obtain ⟨⟨u, u0⟩, u1⟩ := hOY4.cell' k hkt
            have hgy4 := hOY4.lt.2
            have HOY5 : Hid (Own (v4.setCell ⟨gy, k, none⟩ (.int .i64 ((Num.priceL p at' m)[k]?.getD 0))) w12.heap.size gy m (Num.fill (fun k => (Num.priceL p at' m)[k]?.getD 0) m (k + 1))) := by rw [← Num.fill_set _ _ _ _ hkt rfl]; exact hOY4.store k _
            have HOX5 : Hid (Own (v4.setCell ⟨gy, k, none⟩ (.int .i64 ((Num.priceL p at' m)[k]?.getD 0))) w12.heap.size w12.heap.size N (Num.spreadN N at' (Num.sharesL (Num.chosenL p at' m) (Num.mostsL p m) m) (k + 1))) := Own.setOther HOX4.out hOY4 hgxy _
            have hbl5 := bset (k := k) hbl4 hgyl (.int .i64 ((Num.priceL p at' m)[k]?.getD 0))
            clear hOY2 hOY4 HOX2 HOX4 HOY4 hb3 hb4 hb34 hbl2 hbl4 HL3 hc'
            generalize (Num.priceL p at' m)[k]?.getD 0 = sy at HOX5 HOY5 hbl5 ⊢
            go_wp2_with fail
            go_roundw
            case rel => exact ⟨k + 1, hkt, by go_num, HOX5.out, HOY5.out, hbl5⟩
            case measure => simp [intOf]; omega
          · have hke : m = k := by omega
            subst hke
            have HOX : Hid (Ints wr (some ⟨w12.heap.size, 0, none⟩) N (Num.xL p at' m N)) := hOX.ints
            have HOY : Hid (Ints wr (some ⟨gy, 0, none⟩) m (Num.priceL p at' m)) := by
              have e := Num.map_self (Num.priceL p at' m) m (Num.price_len p at' m)
              have := hOY.ints
              rw [Num.fill_all, e] at this
              exact this
            have hBW := bstep hBV12 hbl
            clear hOX hOY hbl HL8' HL9' HMO' HWO' hgxy hgyl
            generalize w12.heap.size = gx at *
            generalize hWR : wr = W3 at *
            clear hWR
            go_wp2_with (at_make; refine wpList_make_full _ rfl (.tmp 129) (.tmp 129) 22 rfl W3.heap.size 2 j0 (.int .i64 0) 1 Tryz.underlying22 hjf hy0 hy1 .i64 .i64 _ _ N rfl rfl rfl rfl (by rw [hy2]; omega) (by unfold maxLen; omega) (Nat.le_refl _) ?_; intro w15 hown hgrow; have hb15 := made_below hgrow; have HO15 : Hid _ := hown; clear hown hgrow)
            have HOG : Hid (Own w15 W3.heap.size W3.heap.size N (Num.fill (Num.gainF p (Num.priceL p at' m) den) N 0)) := Own.made _ HO15.out
            clear HO15
            have HPB : Hid (∀ j : Nat, -6553600000000 ≤ (Num.priceL p at' m)[j]?.getD 0 ∧ (Num.priceL p at' m)[j]?.getD 0 ≤ 6553600000000) := Num.price_bd p HM.out at' m h4
            have HML : Hid (m = p.rows.length) := HR.out.1
            go_loopw [21] (fun q wr => ∃ j : Nat, j ≤ N ∧ q = .int .i64 j ∧ Own wr W3.heap.size W3.heap.size N (Num.fill (Num.gainF p (Num.priceL p at' m) den) N j) ∧ Below W3.heap.size W3 wr) (fun q _ => N - (intOf q).toNat)
            case atStart => exact ⟨0, Nat.zero_le _, rfl, HOG.out, hb15⟩
            case round =>
              obtain ⟨j, hj, rfl, hOG, hbl⟩ := hrel
              clear HOG hb15
              by_cases hjt : j < N
              · obtain ⟨⟨b0, b1⟩, _, _, hz, hB⟩ := HBX.out _ (bstep hBW hbl)
                go_wp2_with fail
                refine (cost_any _ _ _ _ _ _ p.costs _ (Ints.below HC.out hB (Nat.le_refl _)) j).mono ?_
                rintro e v1 ⟨rfl, hb1⟩
                have hOG1 := Own.below hOG hb1 hOG.lt.2
                obtain ⟨⟨u, u0⟩, u1⟩ := hOG1.cell' j hjt
                have hgg := hOG1.lt.2
                have hcb := Num.withinB_iff _ _ (p.may_of HM.out).2.1 (by omega) j
                have hcd := Num.mul_bd2 _ _ _ _ hcb hdb
                have e1 : wrap64 (p.costs[j]?.getD 0 * den) = p.costs[j]?.getD 0 * den := IntWalk.wrap64_in _ (by omega)
                have HO4 : Hid (Own (v1.setCell ⟨W3.heap.size, j, none⟩ (.int .i64 (p.costs[j]?.getD 0 * den))) W3.heap.size W3.heap.size N ((Num.fill (Num.gainF p (Num.priceL p at' m) den) N j).set j (Num.gainP p (Num.priceL p at' m) den m j 0))) := by rw [← Num.gainP_zero]; exact hOG1.store j _
                have hb4 := bset (k := j) (bstep hbl hb1) (Nat.le_refl _) (.int .i64 (p.costs[j]?.getD 0 * den))
                generalize p.costs[j]?.getD 0 = c at hcb hcd e1 HO4 hb4 ⊢
                clear hcb hcd hb1 b0 b1 hOG hOG1 hbl hB hz
                go_wp2_with fail
                generalize v1.setCell ⟨W3.heap.size, j, none⟩ (.int .i64 (c * den)) = W4 at *
                clear u0 u1 e1 hgg
                go_loopw [22] (fun q wr => ∃ i : Nat, i ≤ m ∧ q = .int .i64 i ∧ Own wr W3.heap.size W3.heap.size N ((Num.fill (Num.gainF p (Num.priceL p at' m) den) N j).set j (Num.gainP p (Num.priceL p at' m) den m j i)) ∧ Below W3.heap.size W3 wr) (fun q _ => m - (intOf q).toNat)
                case atStart => exact ⟨0, Nat.zero_le _, rfl, HO4.out, hb4⟩
                case round =>
                  obtain ⟨i, hi, rfl, hO, hbl⟩ := hrel
                  clear HO4 hb4
                  by_cases hit : i < m
                  · have HRD : Hid (∀ w', Below W3.heap.size W3 w' → Own w' W3.heap.size W3.heap.size N ((Num.fill (Num.gainF p (Num.priceL p at' m) den) N j).set j (Num.gainP p (Num.priceL p at' m) den m j i)) → (w'.cell? ⟨w.heap.size, 0, none⟩ = some (.slice ca cl cc) ∧ w'.cell? ⟨w.heap.size, 1, none⟩ = some (.slice ra m rc)) ∧ w'.cell? ⟨gy, i, none⟩ = some (.int .i64 ((Num.priceL p at' m)[i]?.getD 0)) ∧ w'.cell? ⟨W3.heap.size, j, none⟩ = some (.int .i64 (Num.gainP p (Num.priceL p at' m) den m j i)) ∧ w'.frozen? ⟨W3.heap.size, j, none⟩ = false) := by
                      intro w' h ho
                      refine ⟨⟨(HBX.out _ (bstep hBW h)).1.1, (HBX.out _ (bstep hBW h)).1.2⟩, ?_, ?_, (ho.cell j hjt).2⟩
                      · rcases (Ints.below HOY.out h (Nat.le_refl _)).2 with h0 | ⟨b, off, hba, _, hcc⟩
                        · omega
                        · have := hcc i hit
                          simp only [Option.some.injEq, Addr.mk.injEq] at hba
                          rw [← hba.1, ← hba.2.1, Nat.zero_add] at this
                          exact this
                      · have := (ho.cell j hjt).1
                        rw [List.getElem?_set_self (by rw [Num.fill_len]; exact hjt), Option.getD_some] at this
                        exact this
                    have HST : Hid (∀ w', Below W3.heap.size W3 w' → Own w' W3.heap.size W3.heap.size N ((Num.fill (Num.gainF p (Num.priceL p at' m) den) N j).set j (Num.gainP p (Num.priceL p at' m) den m j i)) → Own (w'.setCell ⟨W3.heap.size, j, none⟩ (.int .i64 (Num.gainP p (Num.priceL p at' m) den m j (i + 1)))) W3.heap.size W3.heap.size N ((Num.fill (Num.gainF p (Num.priceL p at' m) den) N j).set j (Num.gainP p (Num.priceL p at' m) den m j (i + 1))) ∧ Below W3.heap.size W3 (w'.setCell ⟨W3.heap.size, j, none⟩ (.int .i64 (Num.gainP p (Num.priceL p at' m) den m j (i + 1))))) := fun w' h ho => by
                      refine ⟨?_, bset h (Nat.le_refl _) _⟩
                      have := Own.store ho j (Num.gainP p (Num.priceL p at' m) den m j (i + 1))
                      rw [List.set_set] at this
                      exact this
                    have KH : Hid (∀ w', Below W3.heap.size W3 w' → Own w' W3.heap.size W3.heap.size N ((Num.fill (Num.gainF p (Num.priceL p at' m) den) N j).set j (Num.gainP p (Num.priceL p at' m) den m j i)) → Calls Tryz.prog 40 #[.agg #[.slice ca cl cc, .slice ra m rc], .int .i64 i, .int .i64 j] w' fun e w'' => e = .returned (.int .i64 (Num.hasF p j i)) ∧ Below W3.heap.size W3 w'' ∧ Hid (Own w'' W3.heap.size W3.heap.size N ((Num.fill (Num.gainF p (Num.priceL p at' m) den) N j).set j (Num.gainP p (Num.priceL p at' m) den m j i)))) := by
                      intro w' h ho
                      refine (has_any _ _ _ _ _ _ p w' HCL.out (RowsAt.below HR.out (HBX.out _ (bstep hBW h)).2.2.2.2 (Nat.le_refl _)) HM.out i j hit (by omega)).mono ?_
                      rintro e w'' ⟨rfl, hb⟩
                      exact ⟨rfl, bstep h hb, Own.below ho hb ho.lt.2⟩
                    obtain ⟨⟨p0, p1⟩, p2, p3, p4⟩ := HRD.out wr hbl hO
                    have hblD : Below W3.heap.size W3 wr.drew := hbl.drew
                    have HOD : Hid (Own wr.drew W3.heap.size W3.heap.size N ((Num.fill (Num.gainF p (Num.priceL p at' m) den) N j).set j (Num.gainP p (Num.priceL p at' m) den m j i))) := Own.below hO (Below.refl _ _).drew hO.lt.2
                    have hg1 := Num.gainP_bd p HM.out (Num.priceL p at' m) den m j (i + 1) (by omega) hdb HPB.out
                    have hge := Num.gainP_succ p (Num.priceL p at' m) den m j i hit
                    have hyh := Num.mul_bd2 _ _ _ _ (HPB.out i) (Num.hasF_bd p HM.out j i)
                    have t1 : wrap64 ((Num.priceL p at' m)[i]?.getD 0 * Num.hasF p j i) = (Num.priceL p at' m)[i]?.getD 0 * Num.hasF p j i := IntWalk.wrap64_in _ (by omega)
                    have t2 : wrap64 (Num.gainP p (Num.priceL p at' m) den m j i - (Num.priceL p at' m)[i]?.getD 0 * Num.hasF p j i) = Num.gainP p (Num.priceL p at' m) den m j (i + 1) := by rw [hge] at hg1 ⊢; exact IntWalk.wrap64_in _ (by omega)
                    clear hO hbl hg1 hge hyh
                    generalize hg1e : Num.gainP p (Num.priceL p at' m) den m j (i + 1) = g1 at *
                    have HG1 : Hid _ := hg1e
                    clear hg1e
                    generalize Num.gainP p (Num.priceL p at' m) den m j i = g0 at *
                    generalize (Num.priceL p at' m)[i]?.getD 0 = yi at HRD p2 t1 t2
                    generalize Num.hasF p j i = hji at KH t1 t2
                    go_wp2_with fail
                    have E3 : Hid (wrap64 (g0 - wrap64 (yi * hji)) = g1) := by show wrap64 (g0 - wrap64 (yi * hji)) = g1; rw [t1, t2]
                    have E4 : Hid (IntKind.i64.wrap (g0 - IntKind.i64.wrap (yi * hji)) = g1) := by show IntKind.i64.wrap (g0 - IntKind.i64.wrap (yi * hji)) = g1; rw [IntWalk.i64_left, IntWalk.i64_left, t1, t2]
                    clear t1 t2
                    refine wp_last ?_
                    go_cut [] from 144 to 165 (fun wx => Hid (Own wx W3.heap.size W3.heap.size N ((Num.fill (Num.gainF p (Num.priceL p at' m) den) N j).set j g1)) ∧ Below W3.heap.size W3 wx)
                    case first =>
                      go_region_with (first | (go_at_call 40; refine (KH.out _ hblD HOD.out).mono ?_; rintro e v1 ⟨rfl, hb1, HO1⟩; obtain ⟨⟨s0, s1⟩, s2, s3, s4⟩ := HRD.out v1 hb1 HO1.out))
                      all_goals
                        go_wp2_with fail
                        go_meet
                        (first | rw [E4.out] | rw [E3.out])
                        exact HST.out v1 hb1 HO1.out
                    case rest =>
                      obtain ⟨R1, r2⟩ := hcut
                      clear KH HST HRD p0 p1 p2 p3 p4 HOD hblD
                      go_wp2_with fail
                      go_roundw
                      case rel => exact ⟨i + 1, hit, by go_num, by rw [HG1.out]; exact R1.out, r2⟩
                      case measure => simp [intOf]; omega
                  · have hie : m = i := by omega
                    subst hie
                    have HO5 : Hid (Own wr W3.heap.size W3.heap.size N (Num.fill (Num.gainF p (Num.priceL p at' m) den) N (j + 1))) := by
                      rw [Num.gainP_all p _ den m j HML.out, Num.fill_set _ _ _ _ hjt rfl] at hO
                      exact hO
                    clear hO
                    go_wp2_with fail
                    go_roundw
                    case rel => exact ⟨j + 1, hjt, by go_num, HO5.out, hbl⟩
                    case measure => simp [intOf]; omega
              · have hje : N = j := by omega
                subst hje
                have HOG : Hid (Ints wr (some ⟨W3.heap.size, 0, none⟩) N (Num.gainL p at' m N)) := by
                  have := hOG.ints
                  rw [Num.fill_all] at this
                  unfold Num.gainL
                  rw [HDEN.out]
                  exact this
                have HOX5 : Hid (Ints wr (some ⟨gx, 0, none⟩) N (Num.xL p at' m N)) := Ints.below HOX.out hbl (Nat.le_refl _)
                have HOY5 : Hid (Ints wr (some ⟨gy, 0, none⟩) m (Num.priceL p at' m)) := Ints.below HOY.out hbl (Nat.le_refl _)
                have hBW5 := bstep hBW hbl
                generalize W3.heap.size = gg at *
                clear hOG hbl hBW HOX HOY
                go_wp2_with fail
                have hs6 := Six.new wr (.slice none 0 0) (.int .i64 0) (.slice none 0 0) (.int .i64 0) (.slice none 0 0) (.int .i64 0) 43
                refine (rpoint_newC den _ _ _ (Num.xL p at' m N) _ (Ints.below HOX5.out (balloc _ _) (Nat.le_refl _)) (by omega) mx dx zx HX.out).mono ?_
                rintro e w16 ⟨xa, xl, xc, rfl, hIX, hxn, hb16, hfx, hcapx⟩
                have HCX : Hid (xl ≤ xc) := hcapx
                clear hcapx
                have h16 := hs6.step hb16
                have HIX : Hid (Ints w16 xa xl mx) := hIX
                have HFX : Hid (xl = 0 ∨ ∃ g, xa = some ⟨g, 0, none⟩ ∧ wr.heap.size + 1 ≤ g) := far_up hfx (by simp)
                have z0 := h16.c0
                have z1 := h16.c1
                have zf := h16.fz
                have zl := h16.hi
                clear hs6 hIX hb16 hfx
                go_wp2_with fail
                have hs17 := h16.set01 (.slice xa xl xc) (.int .i64 dx)
                have HIX17 : Hid (Ints ((w16.setCell ⟨wr.heap.size, 0, none⟩ (.slice xa xl xc)).setCell ⟨wr.heap.size, 1, none⟩ (.int .i64 dx)) xa xl mx) := Ints.set (base := wr.heap.size + 1) (Ints.set (base := wr.heap.size + 1) HIX.out HFX.out (Nat.lt_succ_self _) _) HFX.out (Nat.lt_succ_self _) _
                clear h16 z0 z1 zf zl HIX
                generalize (w16.setCell ⟨wr.heap.size, 0, none⟩ (.slice xa xl xc)).setCell ⟨wr.heap.size, 1, none⟩ (.int .i64 dx) = W17 at *
                refine (rpoint_newC den _ _ _ (Num.priceL p at' m) _ (Ints.below HOY5.out hs17.bel (Nat.le_refl _)) (by omega) my dy zy HY.out).mono ?_
                rintro e w18 ⟨ya, yl, yc, rfl, hIY, hyn, hb18, hfy, _⟩
                have h18 := hs17.step hb18
                have HIX18 : Hid (Ints w18 xa xl mx) := Ints.below HIX17.out hb18 (Nat.le_refl _)
                have HIY : Hid (Ints w18 ya yl my) := hIY
                have HFY : Hid (yl = 0 ∨ ∃ g, ya = some ⟨g, 0, none⟩ ∧ wr.heap.size + 1 ≤ g) := far_up hfy hs17.hi
                have z0 := h18.c2
                have z1 := h18.c3
                have zf := h18.fz
                have zl := h18.hi
                clear hs17 hIY hb18 hfy HIX17
                go_wp2_with fail
                have hs19 := h18.set23 (.slice ya yl yc) (.int .i64 dy)
                have HIX19 : Hid (Ints ((w18.setCell ⟨wr.heap.size, 2, none⟩ (.slice ya yl yc)).setCell ⟨wr.heap.size, 3, none⟩ (.int .i64 dy)) xa xl mx) := Ints.set (base := wr.heap.size + 1) (Ints.set (base := wr.heap.size + 1) HIX18.out HFX.out (Nat.lt_succ_self _) _) HFX.out (Nat.lt_succ_self _) _
                have HIY19 : Hid (Ints ((w18.setCell ⟨wr.heap.size, 2, none⟩ (.slice ya yl yc)).setCell ⟨wr.heap.size, 3, none⟩ (.int .i64 dy)) ya yl my) := Ints.set (base := wr.heap.size + 1) (Ints.set (base := wr.heap.size + 1) HIY.out HFY.out (Nat.lt_succ_self _) _) HFY.out (Nat.lt_succ_self _) _
                clear h18 z0 z1 zf zl HIX18 HIY
                generalize (w18.setCell ⟨wr.heap.size, 2, none⟩ (.slice ya yl yc)).setCell ⟨wr.heap.size, 3, none⟩ (.int .i64 dy) = W19 at *
                refine (rpoint_newC den _ _ _ (Num.gainL p at' m N) _ (Ints.below HOG.out hs19.bel (Nat.le_refl _)) (by omega) mg dg zg HG.out).mono ?_
                rintro e w20 ⟨ga, gl, gc, rfl, hIG, hgn, hb20, hfg, _⟩
                have h20 := hs19.step hb20
                have HIX20 : Hid (Ints w20 xa xl mx) := Ints.below HIX19.out hb20 (Nat.le_refl _)
                have HIY20 : Hid (Ints w20 ya yl my) := Ints.below HIY19.out hb20 (Nat.le_refl _)
                have HIG20 : Hid (Ints w20 ga gl mg) := hIG
                have HFG : Hid (gl = 0 ∨ ∃ g, ga = some ⟨g, 0, none⟩ ∧ wr.heap.size + 1 ≤ g) := far_up hfg hs19.hi
                have hs21 := h20.set45 (.slice ga gl gc) (.int .i64 dg)
                have HIX21 : Hid (Ints ((w20.setCell ⟨wr.heap.size, 4, none⟩ (.slice ga gl gc)).setCell ⟨wr.heap.size, 5, none⟩ (.int .i64 dg)) xa xl mx) := Ints.set (base := wr.heap.size + 1) (Ints.set (base := wr.heap.size + 1) HIX20.out HFX.out (Nat.lt_succ_self _) _) HFX.out (Nat.lt_succ_self _) _
                have HIY21 : Hid (Ints ((w20.setCell ⟨wr.heap.size, 4, none⟩ (.slice ga gl gc)).setCell ⟨wr.heap.size, 5, none⟩ (.int .i64 dg)) ya yl my) := Ints.set (base := wr.heap.size + 1) (Ints.set (base := wr.heap.size + 1) HIY20.out HFY.out (Nat.lt_succ_self _) _) HFY.out (Nat.lt_succ_self _) _
                have HIG21 : Hid (Ints ((w20.setCell ⟨wr.heap.size, 4, none⟩ (.slice ga gl gc)).setCell ⟨wr.heap.size, 5, none⟩ (.int .i64 dg)) ga gl mg) := Ints.set (base := wr.heap.size + 1) (Ints.set (base := wr.heap.size + 1) HIG20.out HFG.out (Nat.lt_succ_self _) _) HFG.out (Nat.lt_succ_self _) _
                have z0 := h20.c4
                have z1 := h20.c5
                have zf := h20.fz
                have zl := h20.hi
                have y0 := hs21.c0
                have y1 := hs21.c1
                have y2 := hs21.c2
                have y3 := hs21.c3
                have y4 := hs21.c4
                have y5 := hs21.c5
                obtain ⟨_, ⟨c0, c1, c2, c3, c4, c5⟩, f0, hz, hB⟩ := HBX.out _ (bstep hBW5 hs21.bel)
                have hzz : w.heap.size + 1 < wr.heap.size := (HBX.out _ hBW5).2.2.2.1
                clear h20 hs19 hs21 hIG hb20 hfg HIX19 HIY19 HIX20 HIY20 HIG20
                go_wp2_with fail
                generalize (w20.setCell ⟨wr.heap.size, 4, none⟩ (.slice ga gl gc)).setCell ⟨wr.heap.size, 5, none⟩ (.int .i64 dg) = W21 at *
                generalize hWX : (((((W21.setCell ⟨w.heap.size + 1, 0, none⟩ (.slice xa xl xc)).setCell ⟨w.heap.size + 1, 1, none⟩ (.int .i64 dx)).setCell ⟨w.heap.size + 1, 2, none⟩ (.slice ya yl yc)).setCell ⟨w.heap.size + 1, 3, none⟩ (.int .i64 dy)).setCell ⟨w.heap.size + 1, 4, none⟩ (.slice ga gl gc)).setCell ⟨w.heap.size + 1, 5, none⟩ (.int .i64 dg) = WX
                obtain ⟨x0, x1, x2, x3, x4, x5⟩ := six_set' c0 c1 c2 c3 c4 c5 _ _ _ _ _ _ WX hWX.symm
                refine bodyPost_ret (v := .tuple #[.agg #[.slice xa xl xc, .int .i64 dx, .slice ya yl yc, .int .i64 dy, .slice ga gl gc, .int .i64 dg], .bool true]) (by simp [results, Tryz.results21, go_sem, x0, x1, x2, x3, x4, x5]) rfl ⟨?_, Or.inr ⟨by rw [HDEN.out]; exact hd0, xa, xl, xc, ya, yl, yc, ga, gl, gc, rfl, ?_, ?_, ?_, by omega, by omega, by omega, far_up HFG.out (by omega), HCX.out⟩⟩
                · rw [← hWX]; exact set6 hB (by simp) _ _ _ _ _ _
                · rw [← hWX]; exact Ints.set6 HIX21.out (far_up HFX.out (by omega)) _ _ _ _ _ _
                · rw [← hWX]; exact Ints.set6 HIY21.out (far_up HFY.out (by omega)) _ _ _ _ _ _
                · rw [← hWX]; exact Ints.set6 HIG21.out (far_up HFG.out (by omega)) _ _ _ _ _ _

theorem rlook_far (ca : Option Addr) (cl cc : Nat) (ra : Option Addr) (m rc : Nat) (p : Num.Lp) (w : World) (hc : Ints w ca cl p.costs) (hr : RowsAt w ra m p.rows)
    (aa : Option Addr) (ac : Nat) (at' : List Int) (ha : Ints w aa m at') (hm : p.may = true) (N : Nat) (hN : cl + m = N) (h8 : N ≤ 8) (hat : ∀ k, k < m → 0 ≤ at'[k]?.getD 0 ∧ at'[k]?.getD 0 < N)
    (mx my mg : List Int) (dx dy dg zx zy zg : Int) (hx : Num.pt (Num.xL p at' m N) (Num.denL p at' m) = (mx, dx, zx)) (hy : Num.pt (Num.priceL p at' m) (Num.denL p at' m) = (my, dy, zy)) (hg : Num.pt (Num.gainL p at' m N) (Num.denL p at' m) = (mg, dg, zg)) :
    Calls Tryz.prog 21 #[.agg #[.slice ca cl cc, .slice ra m rc], .slice aa m ac] w fun e w' => Below w.heap.size w w' ∧ ((Num.denL p at' m = 0 ∧ e = .returned (.tuple #[corner0, .bool false])) ∨ (Num.denL p at' m ≠ 0 ∧ ∃ xa xl xc ya yl yc ga gl gc, e = .returned (.tuple #[.agg #[.slice xa xl xc, .int .i64 dx, .slice ya yl yc, .int .i64 dy, .slice ga gl gc, .int .i64 dg], .bool true]) ∧
      Ints w' xa xl mx ∧ Ints w' ya yl my ∧ Ints w' ga gl mg ∧ xl ≤ 8 ∧ yl ≤ 8 ∧ gl ≤ 8 ∧ (gl = 0 ∨ ∃ g, ga = some ⟨g, 0, none⟩ ∧ w.heap.size ≤ g))) := by
  refine (rlook_farC ca cl cc ra m rc p w hc hr aa ac at' ha hm N hN h8 hat mx my mg dx dy dg zx zy zg hx hy hg).mono ?_
  rintro e w' ⟨h1, h2 | ⟨h2, xa, xl, xc, ya, yl, yc, ga, gl, gc, h3, h4, h5, h6, h7, h8', h9, h10, _⟩⟩
  · exact ⟨h1, Or.inl h2⟩
  · exact ⟨h1, Or.inr ⟨h2, xa, xl, xc, ya, yl, yc, ga, gl, gc, h3, h4, h5, h6, h7, h8', h9, h10⟩⟩

theorem rlook_any (ca : Option Addr) (cl cc : Nat) (ra : Option Addr) (m rc : Nat) (p : Num.Lp) (w : World) (hc : Ints w ca cl p.costs) (hr : RowsAt w ra m p.rows)
    (aa : Option Addr) (ac : Nat) (at' : List Int) (ha : Ints w aa m at') (hm : p.may = true) (N : Nat) (hN : cl + m = N) (h8 : N ≤ 8) (hat : ∀ k, k < m → 0 ≤ at'[k]?.getD 0 ∧ at'[k]?.getD 0 < N)
    (mx my mg : List Int) (dx dy dg zx zy zg : Int) (hx : Num.pt (Num.xL p at' m N) (Num.denL p at' m) = (mx, dx, zx)) (hy : Num.pt (Num.priceL p at' m) (Num.denL p at' m) = (my, dy, zy)) (hg : Num.pt (Num.gainL p at' m N) (Num.denL p at' m) = (mg, dg, zg)) :
    Calls Tryz.prog 21 #[.agg #[.slice ca cl cc, .slice ra m rc], .slice aa m ac] w fun e w' => Below w.heap.size w w' ∧ ((Num.denL p at' m = 0 ∧ e = .returned (.tuple #[corner0, .bool false])) ∨ (Num.denL p at' m ≠ 0 ∧ ∃ xa xl xc ya yl yc ga gl gc, e = .returned (.tuple #[.agg #[.slice xa xl xc, .int .i64 dx, .slice ya yl yc, .int .i64 dy, .slice ga gl gc, .int .i64 dg], .bool true]) ∧
      Ints w' xa xl mx ∧ Ints w' ya yl my ∧ Ints w' ga gl mg ∧ xl ≤ 8 ∧ yl ≤ 8 ∧ gl ≤ 8)) := by
  refine (rlook_far ca cl cc ra m rc p w hc hr aa ac at' ha hm N hN h8 hat mx my mg dx dy dg zx zy zg hx hy hg).mono ?_
  rintro e w' ⟨h1, h2 | ⟨h2, xa, xl, xc, ya, yl, yc, ga, gl, gc, h3, h4, h5, h6, h7, h8', h9, _⟩⟩
  · exact ⟨h1, Or.inl h2⟩
  · exact ⟨h1, Or.inr ⟨h2, xa, xl, xc, ya, yl, yc, ga, gl, gc, h3, h4, h5, h6, h7, h8', h9⟩⟩

end Go.Proofs.YtipcbhodlgoflaaGreat
