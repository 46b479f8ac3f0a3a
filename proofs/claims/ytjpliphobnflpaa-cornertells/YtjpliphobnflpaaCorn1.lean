/- The corner of a program that columns make, in plain numbers. -/
import Derived.Test.YtjpliphobnflpaaCornW8
namespace Go.Proofs.Ytjpliphobnflpaa
namespace Num

def chosenL (p : Lp) (at' : List Int) (m : Nat) : List (List Int) := (List.range m).map fun k => (List.range m).map (hasF p (atF at' k))
def worthsL (p : Lp) (at' : List Int) (m : Nat) : List Int := (List.range m).map fun k => p.costs[atF at' k]?.getD 0
def mostsL (p : Lp) (m : Nat) : List Int := (List.range m).map (mostF p)
def sharesL (ls : List (List Int)) (want : List Int) (m : Nat) : List Int := (List.range m).map fun k => vol (ls.set k want) none4
def denL (p : Lp) (at' : List Int) (m : Nat) : Int := vol (chosenL p at' m) none4
def priceL (p : Lp) (at' : List Int) (m : Nat) : List Int := sharesL (turnL (chosenL p at' m)) (worthsL p at' m) m
def xL (p : Lp) (at' : List Int) (m N : Nat) : List Int := spreadN N at' (sharesL (chosenL p at' m) (mostsL p m) m) m
def gainL (p : Lp) (at' : List Int) (m N : Nat) : List Int := (List.range N).map (gainF p (priceL p at' m) (denL p at' m))

theorem at2_range (f : Nat → List Int) (n i j : Nat) : at2 ((List.range n).map f) i j = if i < n then (f i)[j]?.getD 0 else 0 := by
  unfold at2
  by_cases h : i < n
  · rw [getD_range f n i [] h, if_pos h]
  · rw [List.getElem?_eq_none (l := (List.range n).map f) (by simp; omega), if_neg h]; simp

theorem chosen_bd (p : Lp) (hm : p.may = true) (at' : List Int) (m : Nat) : BdL 400 (chosenL p at' m) := by
  intro i j
  unfold chosenL
  rw [at2_range]
  split
  · rw [range_getD]
    split
    · have := hasF_bd p hm (atF at' i) j; omega
    · omega
  · omega

theorem chosen_len (p : Lp) (at' : List Int) (m : Nat) : (chosenL p at' m).length = m ∧ ∀ l ∈ chosenL p at' m, l.length = m := by
  unfold chosenL
  refine ⟨by simp, fun l hl => ?_⟩
  obtain ⟨k, _, rfl⟩ := List.mem_map.1 hl
  simp

theorem turn_len (ls : List (List Int)) (m : Nat) (h : ls.length = m) : (turnL ls).length = m ∧ ∀ l ∈ turnL ls, l.length = m := by
  unfold turnL
  refine ⟨by simp [h], fun l hl => ?_⟩
  obtain ⟨k, _, rfl⟩ := List.mem_map.1 hl
  simp [h]

theorem turn_bd (ls : List (List Int)) (B : Int) (h : BdL B ls) : BdL B (turnL ls) := by
  intro i j
  have h0 := h 0 0
  unfold turnL
  rw [at2_range]
  split
  · rw [range_getD]
    split
    · exact h j i
    · omega
  · omega

theorem worths_bd (p : Lp) (hm : p.may = true) (at' : List Int) (m : Nat) : ∀ j : Nat, -400 ≤ (worthsL p at' m)[j]?.getD 0 ∧ (worthsL p at' m)[j]?.getD 0 ≤ 400 := by
  intro j
  unfold worthsL
  rw [range_getD]
  split
  · exact withinB_iff _ _ (p.may_of hm).2.1 (by omega) _
  · omega

theorem mosts_bd (p : Lp) (hm : p.may = true) (m : Nat) : ∀ j : Nat, -400 ≤ (mostsL p m)[j]?.getD 0 ∧ (mostsL p m)[j]?.getD 0 ≤ 400 := by
  intro j
  unfold mostsL
  rw [range_getD]
  split
  · unfold mostF
    by_cases hj : j < p.rows.length
    · have := (p.row_of hm j hj).2.2; omega
    · rw [List.getElem?_eq_none (l := p.rows) (by omega)]; simp
  · omega

theorem shares_bd (ls : List (List Int)) (want : List Int) (m : Nat) (h : BdL 400 ls) (hl : ls.length ≤ 4) (h4 : ∀ l ∈ ls, l.length ≤ 4) (hw : ∀ j : Nat, -400 ≤ want[j]?.getD 0 ∧ want[j]?.getD 0 ≤ 400) (hw4 : want.length ≤ 4) :
    ∀ j : Nat, -6553600000000 ≤ (sharesL ls want m)[j]?.getD 0 ∧ (sharesL ls want m)[j]?.getD 0 ≤ 6553600000000 := by
  intro j
  unfold sharesL
  rw [range_getD]
  split
  · exact vol_bd' _ _ (h.set j want hw) (mem_set_le h4 j want hw4) (by simpa using hl)
  · omega

theorem den_bd (p : Lp) (hm : p.may = true) (at' : List Int) (m : Nat) (h4 : m ≤ 4) : -6553600000000 ≤ denL p at' m ∧ denL p at' m ≤ 6553600000000 :=
  vol_bd' _ _ (chosen_bd p hm at' m) (fun l hl => by have := (chosen_len p at' m).2 l hl; omega) (by have := (chosen_len p at' m).1; omega)

theorem price_bd (p : Lp) (hm : p.may = true) (at' : List Int) (m : Nat) (h4 : m ≤ 4) : ∀ j : Nat, -6553600000000 ≤ (priceL p at' m)[j]?.getD 0 ∧ (priceL p at' m)[j]?.getD 0 ≤ 6553600000000 := by
  have h := turn_len (chosenL p at' m) m (chosen_len p at' m).1
  exact shares_bd _ _ m (turn_bd _ _ (chosen_bd p hm at' m)) (by omega) (fun l hl => by have := h.2 l hl; omega) (worths_bd p hm at' m) (by unfold worthsL; simpa using h4)

/-- What Look answers: what is wrong, and the three points. -/
structure Look where
  err : Int
  x : List Int
  xd : Int
  y : List Int
  yd : Int
  g : List Int
  gd : Int

def noLook (e : Int) : Look := ⟨e, [], 0, [], 0, [], 0⟩

def look (p : Lp) (at' : List Int) : Look :=
  if p.may = false then noLook 2
  else if rightB at' p.rows.length (p.costs.length + p.rows.length) = false then noLook 3
  else if denL p at' p.rows.length = 0 then noLook 4
  else
    let m := p.rows.length
    let N := p.costs.length + m
    ⟨0, (pt (xL p at' m N) (denL p at' m)).1, (pt (xL p at' m N) (denL p at' m)).2.1, (pt (priceL p at' m) (denL p at' m)).1, (pt (priceL p at' m) (denL p at' m)).2.1,
      (pt (gainL p at' m N) (denL p at' m)).1, (pt (gainL p at' m N) (denL p at' m)).2.1⟩

end Num
end Go.Proofs.Ytjpliphobnflpaa
