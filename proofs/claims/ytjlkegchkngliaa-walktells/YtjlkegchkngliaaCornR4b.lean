/- What the document's Look keeps in its loops, further on. -/
import Derived.Test.YtjlkegchkngliaaCornR4
import Derived.Test.YtjlkegchkngliaaSix
namespace Go.Proofs.Ytjlkegchkngliaa
open Go.RowKit

theorem Num.fill_set_same (f : Nat → Int) (n k : Nat) (h : k < n) : (Num.fill f n (k + 1)).set k (f k) = Num.fill f n (k + 1) := by
  apply List.ext_getElem?
  intro j
  rw [List.getElem?_set]
  by_cases hj : k = j
  · subst hj; rw [if_pos rfl, if_pos (by rw [Num.fill_len]; exact h)]; unfold Num.fill; simp [h]
  · rw [if_neg hj]

/-- Two, behind or ahead of the store of what is worth. -/
structure TwoW (V : World) (B : Nat) (D A : List (List Int)) (fm fw : Nat → Int) (m gm gw i : Nat) (v8 v9 : Value) (w : World) : Prop where
  t : ∃ iw, (iw = i ∨ iw = i + 1) ∧ Two V B D A fm fw m gm gw (i + 1) (i + 1) (i + 1) iw v8 v9 w

theorem TwoW.step {V : World} {B : Nat} {D A : List (List Int)} {fm fw : Nat → Int} {m gm gw i : Nat} {v8 v9 : Value} {w w' : World} (h : TwoW V B D A fm fw m gm gw i v8 v9 w) (hb : Below w.heap.size w w') : TwoW V B D A fm fw m gm gw i v8 v9 w' := by
  obtain ⟨iw, h1, h2⟩ := h.t
  exact ⟨iw, h1, h2.kept hb⟩

theorem TwoW.bel {V : World} {B : Nat} {D A : List (List Int)} {fm fw : Nat → Int} {m gm gw i : Nat} {v8 v9 : Value} {w : World} (h : TwoW V B D A fm fw m gm gw i v8 v9 w) : Below V.heap.size V w := by
  obtain ⟨iw, _, h2⟩ := h.t
  exact h2.bel

theorem TwoW.stored {V : World} {B : Nat} {D A : List (List Int)} {fm fw : Nat → Int} {m gm gw i : Nat} {v8 v9 : Value} {w : World} (h : TwoW V B D A fm fw m gm gw i v8 v9 w) (hi : i < m) : Two V B D A fm fw m gm gw (i + 1) (i + 1) (i + 1) (i + 1) v8 v9 (w.setCell ⟨gw, i, none⟩ (.int .i64 (fw i))) := by
  obtain ⟨iw, h1, h2⟩ := h.t
  rcases h1 with rfl | rfl
  · exact h2.worth hi _ rfl
  · exact ⟨h2.d.setLow h2.gwB _, h2.a.setLow h2.gwB _, h2.ap, h2.om.setOther h2.ow h2.ne _, by have := h2.ow.store i (fw i); rw [Num.fill_set_same _ _ _ hi] at this; exact this, h2.gmB, h2.gwB, h2.ne, h2.vB, by simpa using h2.sz, bset h2.bel h2.ow.lt.1 _⟩

theorem TwoW.set {V : World} {B : Nat} {D A : List (List Int)} {fm fw : Nat → Int} {m gm gw i : Nat} {v8 v9 : Value} {w : World} (h : TwoW V B D A fm fw m gm gw i v8 v9 w) (hi : i < m) : TwoW V B D A fm fw m gm gw i v8 v9 (w.setCell ⟨gw, i, none⟩ (.int .i64 (fw i))) :=
  ⟨i + 1, Or.inr rfl, h.stored hi⟩

theorem TwoW.cell {V : World} {B : Nat} {D A : List (List Int)} {fm fw : Nat → Int} {m gm gw i : Nat} {v8 v9 : Value} (hi : i < m) : ∃ F : World → Value, (∀ w, TwoW V B D A fm fw m gm gw i v8 v9 w → w.cell? ⟨gw, i, none⟩ = some (F w)) ∧ (∀ w, TwoW V B D A fm fw m gm gw i v8 v9 w → w.frozen? ⟨gw, i, none⟩ = false) := by
  refine ⟨fun w => (w.cell? ⟨gw, i, none⟩).getD undef, ?_, ?_⟩
  · intro w h
    obtain ⟨iw, _, h2⟩ := h.t
    show w.cell? ⟨gw, i, none⟩ = some ((w.cell? ⟨gw, i, none⟩).getD undef)
    rw [(h2.ow.cell i hi).1]; rfl
  · intro w h
    obtain ⟨iw, _, h2⟩ := h.t
    exact (h2.ow.cell i hi).2

/-- What both kinds of rows, what is at most, and what is worth come to at the loop's end. -/
theorem Two.ended {V : World} {B : Nat} {D A : List (List Int)} {fm fw : Nat → Int} {m gm gw : Nat} {v8 v9 : Value} {w : World} (h : Two V B D A fm fw m gm gw m m m m v8 v9 w) (hD : D.length = m) (hA : A.length = m) :
    ∃ a8 c8 a9 c9, v8 = .slice a8 m c8 ∧ m ≤ c8 ∧ Lines w a8 m D ∧ v9 = .slice a9 m c9 ∧ m ≤ c9 ∧ Lines w a9 m A ∧ Ints w (some ⟨gm, 0, none⟩) m ((List.range m).map fm) ∧ Ints w (some ⟨gw, 0, none⟩) m ((List.range m).map fw) := by
  have h1 := h.d
  have h2 := h.a
  rw [List.take_of_length_le (by omega)] at h1 h2
  obtain ⟨a8, c8, e8, hc8, hl8⟩ := h1.lines
  obtain ⟨a9, c9, e9, hc9, hl9⟩ := h2.lines
  rw [hD] at e8 hc8 hl8
  rw [hA] at e9 hc9 hl9
  refine ⟨a8, c8, a9, c9, e8, hc8, hl8, e9, hc9, hl9, ?_, ?_⟩
  · rw [← Num.fill_all]; exact h.om.ints
  · rw [← Num.fill_all]; exact h.ow.ints

/-- The gain of a column, with the first i rows taken off. -/
def Num.gainP (p : Num.Lp) (y : List Int) (d : Int) (m j i : Nat) : Int := p.costs[j]?.getD 0 * d - Num.dotN ((List.range m).map (Num.hasF p j)) y i

theorem Num.gainP_succ (p : Num.Lp) (y : List Int) (d : Int) (m j i : Nat) (hi : i < m) : Num.gainP p y d m j (i + 1) = Num.gainP p y d m j i - y[i]?.getD 0 * Num.hasF p j i := by
  unfold Num.gainP
  have e : Num.dotN ((List.range m).map (Num.hasF p j)) y (i + 1) = Num.dotN ((List.range m).map (Num.hasF p j)) y i + ((List.range m).map (Num.hasF p j))[i]?.getD 0 * y[i]?.getD 0 := rfl
  rw [e, Num.range_getD, if_pos hi, Int.mul_comm (Num.hasF p j i)]
  omega

theorem Num.gainP_bd (p : Num.Lp) (hm : p.may = true) (y : List Int) (d : Int) (m j i : Nat) (h4 : i ≤ 4) (hd : -6553600000000 ≤ d ∧ d ≤ 6553600000000) (hy : ∀ j : Nat, -6553600000000 ≤ y[j]?.getD 0 ∧ y[j]?.getD 0 ≤ 6553600000000) :
    -3000000000000000 ≤ Num.gainP p y d m j i ∧ Num.gainP p y d m j i ≤ 3000000000000000 := by
  have hc := Num.withinB_iff _ _ (p.may_of hm).2.1 (by omega) j
  have h1 := Num.mul_bd2 _ _ _ _ hc hd
  have h2 := Num.dotN_bd ((List.range m).map (Num.hasF p j)) y 12 6553600000000 (fun k => by rw [Num.range_getD]; split; exact Num.hasF_bd p hm j k; omega) hy i
  unfold Num.gainP
  omega

theorem Num.map_self (l : List Int) (m : Nat) (h : l.length = m) : (List.range m).map (fun k => l[k]?.getD 0) = l := by
  apply List.ext_getElem?
  intro j
  by_cases hj : j < m
  · rw [List.getElem?_map, List.getElem?_range hj, Option.map_some, List.getElem?_eq_getElem (by omega), Option.getD_some]
  · rw [List.getElem?_eq_none (by simp; omega), List.getElem?_eq_none (by omega)]

theorem Num.price_len (p : Num.Lp) (at' : List Int) (m : Nat) : (Num.priceL p at' m).length = m := by unfold Num.priceL Num.sharesL; simp

theorem Num.gainP_zero (p : Num.Lp) (y : List Int) (d : Int) (m j : Nat) : p.costs[j]?.getD 0 * d = Num.gainP p y d m j 0 := by
  unfold Num.gainP; simp [Num.dotN]

theorem Num.gainP_all (p : Num.Lp) (y : List Int) (d : Int) (m j : Nat) (h : m = p.rows.length) : Num.gainP p y d m j m = Num.gainF p y d j := by
  subst h; rfl

/-- What stands last in a block, so that what follows the block follows it. -/
theorem wp_last {P : Program} {s : Code} {id : Nat} {K : Act → World → Prop} {Q' : Exit → Act → World → Prop} {a : Act} {w : World} (h : s.wp P (Exit.then K (Exit.inBlock id (Exit.then K Q'))) a w) : s.wp P (Exit.inBlock id (Exit.then K Q')) a w :=
  wp_mono h fun e _ _ hq => by cases e <;> exact hq

end Go.Proofs.Ytjlkegchkngliaa
