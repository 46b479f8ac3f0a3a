/- The document's determinants are the program's volumes. -/
import Derived.Test.YtloncgmgcnaalaaGreatCornRA
namespace Go.Proofs.YtloncgmgcnaalaaGreat
namespace Num

def downL (p : Lp) (at' : List Int) (m : Nat) : List (List Int) := (List.range m).map fun i => (List.range m).map fun k => hasF p (atF at' k) i

theorem at2_set (ls : List (List Int)) (k : Nat) (x : List Int) (i j : Nat) (hk : k < ls.length) : at2 (ls.set k x) i j = if i = k then x[j]?.getD 0 else at2 ls i j := by
  unfold at2
  rw [List.getElem?_set]
  by_cases h : k = i
  · subst h; simp [hk]
  · rw [if_neg h, if_neg (by omega)]

theorem ext_range {α : Type} (f g : Nat → α) (n : Nat) (h : ∀ i, i < n → f i = g i) : (List.range n).map f = (List.range n).map g :=
  List.map_congr_left fun i hi => h i (by simpa using hi)

theorem turn_eq (ls : List (List Int)) (m : Nat) (h : ls.length = m) : turnL ls = (List.range m).map fun i => (List.range m).map fun k => at2 ls k i := by subst h; rfl

theorem at2_grid (f : Nat → Nat → Int) (m i j : Nat) (hi : i < m) (hj : j < m) : at2 ((List.range m).map fun i => (List.range m).map fun k => f i k) i j = f i j := by
  rw [at2_range, if_pos hi, range_getD, if_pos hj]

theorem down_turn (p : Lp) (at' : List Int) (m : Nat) : downL p at' m = turnL (chosenL p at' m) := by
  rw [turn_eq _ m (chosen_len p at' m).1]
  unfold downL
  refine ext_range _ _ _ fun i hi => ext_range _ _ _ fun k hk => ?_
  unfold chosenL
  rw [at2_range, if_pos hk, range_getD, if_pos hi]

theorem sq_grid (ls : List (List Int)) (m : Nat) (h : Sq m ls) : ls = (List.range m).map fun i => (List.range m).map fun k => at2 ls i k := by
  obtain ⟨hl, hr⟩ := h
  apply List.ext_getElem?
  intro i
  by_cases hi : i < m
  · have hil : i < ls.length := by omega
    have hri : ls[i].length = m := hr ls[i] (List.getElem_mem hil)
    have hat : ∀ k, at2 ls i k = ls[i][k]?.getD 0 := fun k => by unfold at2; rw [List.getElem?_eq_getElem hil, Option.getD_some]
    rw [List.getElem?_map, List.getElem?_range hi, Option.map_some, List.getElem?_eq_getElem hil]
    congr 1
    generalize ls[i] = r at *
    apply List.ext_getElem?
    intro k
    by_cases hk : k < m
    · rw [List.getElem?_map, List.getElem?_range hk, Option.map_some, hat, List.getElem?_eq_getElem (by omega), Option.getD_some]
    · rw [List.getElem?_eq_none (l := r) (by omega), List.getElem?_eq_none (by simp; omega)]
  · rw [List.getElem?_eq_none (by omega), List.getElem?_eq_none (by simp; omega)]

theorem turn_turn (ls : List (List Int)) (m : Nat) (h : Sq m ls) : turnL (turnL ls) = ls := by
  rw [turn_eq _ m (turn_len ls m h.1).1, turn_eq ls m h.1, ]
  refine Eq.trans ?_ (sq_grid ls m h).symm
  refine ext_range _ _ _ fun i hi => ext_range _ _ _ fun k hk => ?_
  exact at2_grid (fun i k => at2 ls k i) m k i hk hi

theorem put_turn (ls : List (List Int)) (m k : Nat) (want : List Int) (h : Sq m ls) (hk : k < m) : putL (turnL ls) k want m = turnL (ls.set k want) := by
  rw [turn_eq (ls.set k want) m (by simpa using h.1)]
  unfold putL
  refine ext_range _ _ _ fun i hi => ?_
  rw [turn_eq ls m h.1, getD_range _ m i [] hi]
  apply List.ext_getElem?
  intro j
  rw [List.getElem?_set]
  by_cases hj : j < m
  · rw [List.getElem?_map, List.getElem?_map, List.getElem?_range hj, Option.map_some, Option.map_some, at2_set _ _ _ _ _ (by have := h.1; omega)]
    by_cases hkj : k = j
    · subst hkj; simp [hk]
    · rw [if_neg hkj, if_neg (by omega)]
  · rw [if_neg (by omega), List.getElem?_eq_none (by simp; omega), List.getElem?_eq_none (by simp; omega)]

theorem chosen_sq (p : Lp) (at' : List Int) (m : Nat) : Sq m (chosenL p at' m) := chosen_len p at' m

theorem set_sq (ls : List (List Int)) (m k : Nat) (want : List Int) (h : Sq m ls) (hw : want.length = m) : Sq m (ls.set k want) := by
  refine ⟨by simpa using h.1, fun l hl => ?_⟩
  rcases List.mem_or_eq_of_mem_set hl with h1 | rfl
  · exact h.2 l h1
  · exact hw

theorem turn_sq (ls : List (List Int)) (m : Nat) (h : Sq m ls) : Sq m (turnL ls) := turn_len ls m h.1

theorem den_det (p : Lp) (at' : List Int) (m : Nat) (h1 : 1 ≤ m) (h4 : m ≤ 4) : detN m (downL p at' m) = denL p at' m := by
  rw [down_turn]
  exact (vol_det m _ (chosen_sq p at' m) h1 h4).symm

theorem x_det (p : Lp) (at' : List Int) (m k : Nat) (h1 : 1 ≤ m) (h4 : m ≤ 4) (hk : k < m) : detN m (putL (downL p at' m) k (mostsL p m) m) = (sharesL (chosenL p at' m) (mostsL p m) m)[k]?.getD 0 := by
  unfold sharesL
  rw [range_getD, if_pos hk, down_turn, put_turn _ m k _ (chosen_sq p at' m) hk]
  exact (vol_det m _ (set_sq _ m k _ (chosen_sq p at' m) (by simp [mostsL])) h1 h4).symm

theorem y_det (p : Lp) (at' : List Int) (m k : Nat) (h1 : 1 ≤ m) (h4 : m ≤ 4) (hk : k < m) : detN m (putL (chosenL p at' m) k (worthsL p at' m) m) = (priceL p at' m)[k]?.getD 0 := by
  unfold priceL sharesL
  rw [range_getD, if_pos hk]
  have hs := turn_sq _ m (chosen_sq p at' m)
  have e := put_turn (turnL (chosenL p at' m)) m k (worthsL p at' m) hs hk
  rw [turn_turn _ m (chosen_sq p at' m)] at e
  rw [e]
  exact (vol_det m _ (set_sq _ m k _ hs (by simp [worthsL])) h1 h4).symm

theorem down_bd (p : Lp) (hm : p.may = true) (at' : List Int) (m : Nat) : BdL 400 (downL p at' m) := by rw [down_turn]; exact turn_bd _ _ (chosen_bd p hm at' m)

theorem put_bd (ls : List (List Int)) (k : Nat) (col : List Int) (n : Nat) (h : BdL 400 ls) (hc : ∀ j : Nat, -400 ≤ col[j]?.getD 0 ∧ col[j]?.getD 0 ≤ 400) : BdL 400 (putL ls k col n) := by
  intro i j
  unfold putL
  rw [at2_range]
  split
  · rw [List.getElem?_set]
    split
    · split
      · exact hc i
      · simp
    · exact h i j
  · omega

theorem put_len (ls : List (List Int)) (k : Nat) (col : List Int) (n : Nat) (h : Sq n ls) : ∀ l ∈ putL ls k col n, l.length = n := by
  intro l hl
  unfold putL at hl
  obtain ⟨i, hi, rfl⟩ := List.mem_map.1 hl
  simp only [List.mem_range] at hi
  have := h.1
  rw [List.length_set, List.getElem?_eq_getElem (by omega)]
  exact h.2 _ (List.getElem_mem _)

end Num
end Go.Proofs.YtloncgmgcnaalaaGreat
