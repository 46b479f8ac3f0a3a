/- Rising columns with one out and another in, put the document's way and by sorting: one and the same. In plain numbers. -/
import Derived.Test.YtloncgmgcnaalaaGreatWalkP
namespace Go.Proofs.YtloncgmgcnaalaaGreat
namespace Num

/-- Rising numbers are told by which ones they are. -/
theorem rise_one : ∀ (a b : List Int), a.Pairwise (· < ·) → b.Pairwise (· < ·) → (∀ x, x ∈ a ↔ x ∈ b) → a = b
  | [], [], _, _, _ => rfl
  | [], y :: b, _, _, h => by have := (h y).2 (by simp); simp at this
  | x :: a, [], _, _, h => by have := (h x).1 (by simp); simp at this
  | x :: a, y :: b, ha, hb, h => by
    rw [List.pairwise_cons] at ha hb
    have hxy : x = y := by
      rcases List.mem_cons.1 ((h x).1 (by simp)) with e | e
      · exact e
      · rcases List.mem_cons.1 ((h y).2 (by simp)) with e2 | e2
        · exact e2.symm
        · have := hb.1 x e; have := ha.1 y e2; omega
    subst hxy
    congr 1
    refine rise_one a b ha.2 hb.2 fun z => ⟨fun hz => ?_, fun hz => ?_⟩
    · rcases List.mem_cons.1 ((h z).1 (List.mem_cons_of_mem _ hz)) with e | e
      · subst e; have := ha.1 z hz; omega
      · exact e
    · rcases List.mem_cons.1 ((h z).2 (List.mem_cons_of_mem _ hz)) with e | e
      · subst e; have := hb.1 z hz; omega
      · exact e

theorem right_pair (at' : List Int) (m N : Nat) (hr : rightB at' m N = true) : at'.Pairwise (· < ·) := by
  obtain ⟨hl, hv⟩ := right_all at' m N hr
  rw [List.pairwise_iff_getElem]
  intro i j hi hj hij
  have h1 := atF_rise at' N m hr j (by omega) i hij
  have h2 := hv i (by omega)
  have h3 := hv j (by omega)
  unfold atF at h1
  rw [List.getElem?_eq_getElem hi] at h1 h2
  rw [List.getElem?_eq_getElem hj] at h1 h3
  simp only [Option.getD_some] at h1 h2 h3
  omega

theorem right_mem (at' : List Int) (m N : Nat) (hr : rightB at' m N = true) (x : Int) : x ∈ at' ↔ 0 ≤ x ∧ inB at' m x.toNat = true := by
  obtain ⟨hl, hv⟩ := right_all at' m N hr
  constructor
  · intro hx
    obtain ⟨i, hi, rfl⟩ := List.getElem_of_mem hx
    have h2 := hv i (by omega)
    rw [List.getElem?_eq_getElem hi, Option.getD_some] at h2
    refine ⟨h2.1, (inB_true _ _ _).2 ⟨i, by omega, ?_⟩⟩
    unfold atF
    rw [List.getElem?_eq_getElem hi]; rfl
  · rintro ⟨h0, hb⟩
    obtain ⟨i, hi, he⟩ := (inB_true _ _ _).1 hb
    have h2 := hv i hi
    unfold atF at he
    rw [List.getElem?_eq_getElem (by omega)] at h2 he
    simp only [Option.getD_some] at h2 he
    have : x = at'[i] := by omega
    rw [this]; exact List.getElem_mem _

theorem at_val (at' : List Int) (m N : Nat) (hr : rightB at' m N = true) (k : Nat) (hk : k < m) : at'[k]?.getD 0 = (atF at' k : Int) := by
  have := (right_all at' m N hr).2 k hk
  unfold atF; omega

/-- One out, another in: the document's way, k numbers gone through. -/
def swapGo (at' : List Int) (out s : Int) : Nat → List Int × Bool
  | 0 => ([], false)
  | k + 1 => (if at'[k]?.getD 0 = out then (if s < at'[k]?.getD 0 ∧ (swapGo at' out s k).2 = false then (swapGo at' out s k).1 ++ [s] else (swapGo at' out s k).1) else (if s < at'[k]?.getD 0 ∧ (swapGo at' out s k).2 = false then (swapGo at' out s k).1 ++ [s] else (swapGo at' out s k).1) ++ [at'[k]?.getD 0],
      (swapGo at' out s k).2 || decide (s < at'[k]?.getD 0))

def swapN (at' : List Int) (out s : Int) (m : Nat) : List Int := if (swapGo at' out s m).2 = true then (swapGo at' out s m).1 else (swapGo at' out s m).1 ++ [s]

theorem pair_snoc (l : List Int) (x : Int) (h : l.Pairwise (· < ·)) (hx : ∀ y ∈ l, y < x) : (l ++ [x]).Pairwise (· < ·) := by
  rw [List.pairwise_append]
  exact ⟨h, List.pairwise_singleton _ _, fun a ha b hb => by rw [List.mem_singleton] at hb; subst hb; exact hx a ha⟩

theorem swapGo_ok (at' : List Int) (out s : Int) (m : Nat) (hl : at'.length = m) (hp : at'.Pairwise (· < ·)) (hs : s ∉ at') : ∀ k, k ≤ m →
    (swapGo at' out s k).1.Pairwise (· < ·) ∧ (∀ y, y ∈ (swapGo at' out s k).1 ↔ (y = s ∧ (swapGo at' out s k).2 = true) ∨ (y ≠ out ∧ ∃ i, i < k ∧ at'[i]?.getD 0 = y)) ∧ ((swapGo at' out s k).2 = true ↔ ∃ i, i < k ∧ s < at'[i]?.getD 0) := by
  intro k
  induction k with
  | zero => intro _; exact ⟨List.Pairwise.nil, fun y => by simp [swapGo], by simp [swapGo]⟩
  | succ k ih =>
    intro hk
    obtain ⟨h1, h2, h3⟩ := ih (by omega)
    have hrise : ∀ i, i < k → at'[i]?.getD 0 < at'[k]?.getD 0 := by
      intro i hi
      have := (List.pairwise_iff_getElem.1 hp) i k (by omega) (by omega) hi
      rw [List.getElem?_eq_getElem (by omega), List.getElem?_eq_getElem (by omega)]
      exact this
    have hne : ∀ i, i < m → at'[i]?.getD 0 ≠ s := by
      intro i hi e
      apply hs
      rw [← e, List.getElem?_eq_getElem (by omega)]
      exact List.getElem_mem _
    have hnk := hne k (by omega)
    unfold swapGo
    dsimp only
    generalize (swapGo at' out s k).1 = l at *
    generalize (swapGo at' out s k).2 = d at *
    generalize hx : at'[k]?.getD 0 = x at *
    -- the list with s put in where it is due
    obtain ⟨q, hq⟩ : ∃ q, (if s < x ∧ d = false then l ++ [s] else l) = q := ⟨_, rfl⟩
    have hq1 : q.Pairwise (· < ·) ∧ (∀ y, y ∈ q ↔ (y = s ∧ (d || decide (s < x)) = true) ∨ (y ≠ out ∧ ∃ i, i < k ∧ at'[i]?.getD 0 = y)) ∧ ∀ y ∈ q, y < x := by
      by_cases hc : s < x ∧ d = false
      · rw [if_pos hc] at hq
        have hls : ∀ y ∈ l, y < s := by
          intro y hy
          rcases (h2 y).1 hy with ⟨_, hd⟩ | ⟨_, i, hi, rfl⟩
          · rw [hc.2] at hd; cases hd
          · have a1 : ¬ s < at'[i]?.getD 0 := fun h => by
              have := h3.2 ⟨i, hi, h⟩
              rw [hc.2] at this; cases this
            have a2 := hne i (by omega)
            omega
        subst hq
        refine ⟨pair_snoc l s h1 hls, fun y => ?_, fun y hy => ?_⟩
        · rw [List.mem_append, List.mem_singleton, h2 y]
          simp only [hc.2, hc.1, decide_true, Bool.or_true, and_true]
          simp
          constructor
          · rintro (h | h)
            · exact Or.inr h
            · exact Or.inl h
          · rintro (h | h)
            · exact Or.inr h
            · exact Or.inl h
        · rw [List.mem_append, List.mem_singleton] at hy
          rcases hy with hy | rfl
          · have := hls y hy; omega
          · exact hc.1
      · rw [if_neg hc] at hq
        subst hq
        have hdd : (d || decide (s < x)) = d := by
          cases d with
          | true => rfl
          | false =>
            have : ¬ s < x := fun h => hc ⟨h, rfl⟩
            simp [this]
        rw [hdd]
        refine ⟨h1, h2, fun y hy => ?_⟩
        rcases (h2 y).1 hy with ⟨rfl, hd⟩ | ⟨_, i, hi, rfl⟩
        · obtain ⟨i, hi, hlt⟩ := h3.1 hd
          have := hrise i hi; omega
        · exact hrise i hi
    rw [hq]
    obtain ⟨q1, q2, q3⟩ := hq1
    have hd' : (d || decide (s < x)) = true ↔ ∃ i, i < k + 1 ∧ s < at'[i]?.getD 0 := by
      rw [Bool.or_eq_true, h3, decide_eq_true_eq]
      constructor
      · rintro (⟨i, hi, h⟩ | h)
        · exact ⟨i, by omega, h⟩
        · exact ⟨k, by omega, by rw [hx]; exact h⟩
      · rintro ⟨i, hi, h⟩
        by_cases hik : i = k
        · subst hik; rw [hx] at h; exact Or.inr h
        · exact Or.inl ⟨i, by omega, h⟩
    refine ⟨?_, fun y => ?_, hd'⟩
    · by_cases hxo : x = out
      · rw [if_pos hxo]; exact q1
      · rw [if_neg hxo]; exact pair_snoc q x q1 q3
    · by_cases hxo : x = out
      · rw [if_pos hxo, q2 y]
        constructor
        · rintro (h | ⟨g1, i, hi, g2⟩)
          · exact Or.inl h
          · exact Or.inr ⟨g1, i, by omega, g2⟩
        · rintro (h | ⟨g1, i, hi, g2⟩)
          · exact Or.inl h
          · refine Or.inr ⟨g1, i, ?_, g2⟩
            by_cases hik : i = k
            · subst hik; rw [hx] at g2; exact absurd (g2.symm.trans hxo) g1
            · omega
      · rw [if_neg hxo, List.mem_append, List.mem_singleton, q2 y]
        constructor
        · rintro ((h | ⟨g1, i, hi, g2⟩) | h)
          · exact Or.inl h
          · exact Or.inr ⟨g1, i, by omega, g2⟩
          · subst h; exact Or.inr ⟨hxo, k, by omega, hx⟩
        · rintro (h | ⟨g1, i, hi, g2⟩)
          · exact Or.inl (Or.inl h)
          · by_cases hik : i = k
            · subst hik; rw [hx] at g2; exact Or.inr g2.symm
            · exact Or.inl (Or.inr ⟨g1, i, by omega, g2⟩)

theorem swapN_ok (at' : List Int) (out s : Int) (m : Nat) (hl : at'.length = m) (hp : at'.Pairwise (· < ·)) (hs : s ∉ at') :
    (swapN at' out s m).Pairwise (· < ·) ∧ ∀ y, y ∈ swapN at' out s m ↔ y = s ∨ (y ≠ out ∧ y ∈ at') := by
  obtain ⟨h1, h2, h3⟩ := swapGo_ok at' out s m hl hp hs m (Nat.le_refl _)
  have hmem : ∀ y, (∃ i, i < m ∧ at'[i]?.getD 0 = y) ↔ y ∈ at' := by
    intro y
    constructor
    · rintro ⟨i, hi, rfl⟩
      rw [List.getElem?_eq_getElem (by omega)]
      exact List.getElem_mem _
    · intro hy
      obtain ⟨i, hi, rfl⟩ := List.getElem_of_mem hy
      exact ⟨i, by omega, by rw [List.getElem?_eq_getElem hi]; rfl⟩
  have hne : ∀ i, i < m → at'[i]?.getD 0 ≠ s := fun i hi e => hs (by rw [← e, List.getElem?_eq_getElem (by omega)]; exact List.getElem_mem _)
  unfold swapN
  generalize (swapGo at' out s m).1 = l at *
  generalize (swapGo at' out s m).2 = d at *
  cases d with
  | true =>
    rw [if_pos rfl]
    refine ⟨h1, fun y => ?_⟩
    rw [h2 y, hmem y]; simp
  | false =>
    rw [if_neg (by decide)]
    refine ⟨pair_snoc l s h1 fun y hy => ?_, fun y => ?_⟩
    · rcases (h2 y).1 hy with ⟨_, hd⟩ | ⟨_, i, hi, rfl⟩
      · cases hd
      · have a1 : ¬ s < at'[i]?.getD 0 := fun h => by cases h3.2 ⟨i, hi, h⟩
        have a2 := hne i hi
        omega
    · rw [List.mem_append, List.mem_singleton, h2 y, hmem y]
      simp
      constructor
      · rintro (h | h)
        · exact Or.inr h
        · exact Or.inl h
      · rintro (h | h)
        · exact Or.inr h
        · exact Or.inl h

theorem swapI_mem (at' : List Int) (k k' s m N : Nat) (hr : rightB at' m N = true) (hk : k < m) (hk' : k' < m) (hr2 : rightB (swapI at' k k' s) m N = true) (y : Int) : y ∈ swapI at' k k' s ↔ y = s ∨ (y ≠ at'[k]?.getD 0 ∧ y ∈ at') := by
  rw [right_mem _ m N hr2 y, right_mem at' m N hr y, swap_inB at' k k' s m N hr hk hk', at_val at' m N hr k hk]
  constructor
  · rintro ⟨h0, h⟩
    by_cases h1 : y.toNat = s
    · exact Or.inl (by omega)
    · rw [if_neg h1] at h
      by_cases h2 : y.toNat = atF at' k
      · rw [if_pos h2] at h; cases h
      · rw [if_neg h2] at h; exact Or.inr ⟨by omega, h0, h⟩
  · rintro (rfl | ⟨h1, h0, h⟩)
    · exact ⟨by omega, by rw [if_pos (by omega)]⟩
    · refine ⟨h0, ?_⟩
      by_cases h2 : y.toNat = s
      · rw [if_pos h2]
      · rw [if_neg h2, if_neg (by omega)]; exact h

/-- The document's way comes to the one place. -/
theorem swap_doc (at' : List Int) (k k' s m N : Nat) (hr : rightB at' m N = true) (hk : k < m) (hk' : k' < m) (hr2 : rightB (swapI at' k k' s) m N = true) (hsb : inB at' m s = false) : swapN at' (at'[k]?.getD 0) s m = swapI at' k k' s := by
  have hs : (s : Int) ∉ at' := by
    intro h
    have := ((right_mem at' m N hr s).1 h).2
    rw [Int.toNat_natCast, hsb] at this; cases this
  obtain ⟨h1, h2⟩ := swapN_ok at' (at'[k]?.getD 0) s m (right_all at' m N hr).1 (right_pair at' m N hr) hs
  refine rise_one _ _ h1 (right_pair _ m N hr2) fun y => ?_
  rw [h2 y, swapI_mem at' k k' s m N hr hk hk' hr2 y]

/-- Sorting comes to the one place. -/
theorem swap_sort (at' r : List Int) (k k' s m N : Nat) (hr : rightB at' m N = true) (hk : k < m) (hk' : k' < m) (hr2 : rightB (swapI at' k k' s) m N = true) (hsb : inB at' m s = false) (hp : r.Perm (at'.set k s)) (ho : r.Pairwise (· ≤ ·)) : r = swapI at' k k' s := by
  obtain ⟨hl, _⟩ := right_all at' m N hr
  have hrise := right_pair at' m N hr
  have hs : (s : Int) ∉ at' := by
    intro h
    have := ((right_mem at' m N hr s).1 h).2
    rw [Int.toNat_natCast, hsb] at this; cases this
  have hdist : ∀ i j, i < m → j < m → i ≠ j → at'[i]?.getD 0 ≠ at'[j]?.getD 0 := by
    intro i j hi hj hij
    rw [List.getElem?_eq_getElem (by omega), List.getElem?_eq_getElem (by omega)]
    simp only [Option.getD_some]
    by_cases h : i < j
    · have := (List.pairwise_iff_getElem.1 hrise) i j (by omega) (by omega) h; omega
    · have := (List.pairwise_iff_getElem.1 hrise) j i (by omega) (by omega) (by omega); omega
  have hmem : ∀ y, y ∈ at'.set k s ↔ y = s ∨ (y ≠ at'[k]?.getD 0 ∧ y ∈ at') := by
    intro y
    constructor
    · intro hy
      obtain ⟨i, hi, rfl⟩ := List.getElem_of_mem hy
      rw [List.length_set] at hi
      rw [List.getElem_set]
      by_cases hik : k = i
      · rw [if_pos hik]; exact Or.inl rfl
      · rw [if_neg hik]
        refine Or.inr ⟨?_, List.getElem_mem _⟩
        have := hdist i k (by omega) hk (fun e => hik e.symm)
        rw [List.getElem?_eq_getElem hi, Option.getD_some] at this
        exact this
    · rintro (rfl | ⟨h1, hy⟩)
      · exact List.mem_of_getElem (i := k) (h := by rw [List.length_set]; omega) (by rw [List.getElem_set, if_pos rfl])
      · obtain ⟨i, hi, rfl⟩ := List.getElem_of_mem hy
        have hik : k ≠ i := by
          intro e; subst e
          apply h1
          rw [List.getElem?_eq_getElem hi]; rfl
        exact List.mem_of_getElem (i := i) (h := by rw [List.length_set]; omega) (by rw [List.getElem_set, if_neg hik])
  have hnd : (at'.set k s).Pairwise (· ≠ ·) := by
    rw [List.pairwise_iff_getElem]
    intro i j hi hj hij
    rw [List.length_set] at hi hj
    rw [List.getElem_set, List.getElem_set]
    have hi' : at'[i] ∈ at' := List.getElem_mem _
    have hj' : at'[j] ∈ at' := List.getElem_mem _
    by_cases hki : k = i
    · rw [if_pos hki, if_neg (by omega)]
      intro e; rw [← e] at hj'; exact hs hj'
    · rw [if_neg hki]
      by_cases hkj : k = j
      · rw [if_pos hkj]
        intro e; rw [e] at hi'; exact hs hi'
      · rw [if_neg hkj]
        have := hdist i j (by omega) (by omega) (by omega)
        rw [List.getElem?_eq_getElem hi, List.getElem?_eq_getElem hj] at this
        exact this
  have hnr : r.Pairwise (· ≠ ·) := (hp.pairwise_iff (fun h => Ne.symm h)).2 hnd
  refine rise_one _ _ ?_ (right_pair _ m N hr2) fun y => ?_
  · exact (ho.and hnr).imp fun h => by omega
  · rw [hp.mem_iff, hmem y, swapI_mem at' k k' s m N hr hk hk' hr2 y]

end Num
end Go.Proofs.YtloncgmgcnaalaaGreat

/- The next corner, in plain numbers: what Look tells of this one, and of how its columns make another one up. -/
namespace Go.Proofs.YtloncgmgcnaalaaGreat
namespace Num

/-- The program whose rows are at most what column s has. -/
def askP (p : Lp) (s : Nat) : Lp := ⟨p.costs, (List.range p.rows.length).map fun i => ((p.rows[i]?.getD ([], 0)).1, hasF p s i)⟩

theorem ask_len (p : Lp) (s : Nat) : (askP p s).rows.length = p.rows.length := by simp [askP]
theorem ask_costs (p : Lp) (s : Nat) : (askP p s).costs = p.costs := rfl

theorem ask_row (p : Lp) (s i : Nat) (hi : i < p.rows.length) : (askP p s).rows[i]?.getD ([], 0) = ((p.rows[i]?.getD ([], 0)).1, hasF p s i) := by
  unfold askP
  dsimp only
  rw [List.getElem?_map, List.getElem?_range hi]
  rfl

theorem ask_has (p : Lp) (s j i : Nat) (hi : i < p.rows.length) : hasF (askP p s) j i = hasF p j i := by
  unfold hasF
  rw [ask_row p s i hi, ask_costs]

theorem ask_may (p : Lp) (s : Nat) (hmay : p.may = true) : (askP p s).may = true := by
  obtain ⟨h1, h2, h3, h4⟩ := p.may_of hmay
  unfold Lp.may
  rw [ask_costs, ask_len]
  simp only [Bool.and_eq_true, decide_eq_true_eq]
  refine ⟨⟨⟨⟨⟨h1.1, h1.2⟩, h2⟩, h3.1⟩, h3.2⟩, ?_⟩
  rw [List.all_eq_true]
  intro r hr
  unfold askP at hr
  dsimp only at hr
  obtain ⟨i, hi, rfl⟩ := List.mem_map.1 hr
  rw [List.mem_range] at hi
  obtain ⟨a1, a2, _⟩ := p.row_of hmay i hi
  have a4 := hasF_bd p hmay s i
  unfold rowB
  simp [a1, a2, withinB_one, a4.1, a4.2]

theorem ask_chosen (p : Lp) (s : Nat) (at' : List Int) (m : Nat) (hm : m = p.rows.length) : chosenL (askP p s) at' m = chosenL p at' m := by
  unfold chosenL
  refine List.map_congr_left fun k _ => List.map_congr_left fun i hi => ?_
  rw [List.mem_range] at hi
  exact ask_has p s _ i (by omega)

theorem ask_den (p : Lp) (s : Nat) (at' : List Int) (m : Nat) (hm : m = p.rows.length) : denL (askP p s) at' m = denL p at' m := by
  unfold denL; rw [ask_chosen p s at' m hm]

theorem ask_sgD (p : Lp) (s : Nat) (at' : List Int) (m : Nat) (hm : m = p.rows.length) : sgD (askP p s) at' m = sgD p at' m := by
  unfold sgD; rw [ask_den p s at' m hm]

theorem ask_x (p : Lp) (s : Nat) (at' : List Int) (m N : Nat) (hm : m = p.rows.length) : xL (askP p s) at' m N = spreadN N at' (wayL p at' m s) m := by
  unfold xL wayL
  rw [ask_chosen p s at' m hm]
  congr 2
  unfold mostsL colF
  refine List.map_congr_left fun i hi => ?_
  rw [List.mem_range] at hi
  unfold mostF
  rw [ask_row p s i (by omega)]

/-- What Look tells has the signs of what it is made of. -/
theorem look_parts (p : Lp) (at' : List Int) (m n : Nat) (hmay : p.may = true) (hm : m = p.rows.length) (hn : n = p.costs.length) (hr : rightB at' m (n + m) = true) (hd : denL p at' m ≠ 0) :
    (look p at').err = 0 ∧ (look p at').x.length = n + m ∧ (look p at').g.length = n + m ∧ (1 ≤ (look p at').xd ∧ (look p at').xd ≤ 497664) ∧ (∀ j : Nat, -497664 ≤ (look p at').x[j]?.getD 0 ∧ (look p at').x[j]?.getD 0 ≤ 497664) ∧
    ∃ gx gg : Int, 0 < gx ∧ 0 < gg ∧ (∀ j : Nat, sgD p at' m * (xL p at' m (n + m))[j]?.getD 0 = gx * (look p at').x[j]?.getD 0) ∧ sgD p at' m * denL p at' m = gx * (look p at').xd ∧ ∀ j : Nat, sgD p at' m * (gainL p at' m (n + m))[j]?.getD 0 = gg * (look p at').g[j]?.getD 0 := by
  obtain ⟨c0, c1, _, c3, c4, _, c6, _⟩ := look_comes p at' m n hmay hm hn hr hd
  refine ⟨c0, c1, c3, c4, c6, ?_⟩
  have h1 : 1 ≤ m := by have := (p.may_of hmay).2.2.1.1; omega
  have h4 : m ≤ 4 := by have := (p.may_of hmay).2.2.1.2; omega
  have hn4 : n ≤ 4 := by have := (p.may_of hmay).1.2; omega
  have hden := den_bd12 p at' m hmay h1 h4
  have xb := x_bd p at' m (n + m) hmay hm
  have gb := gain_bd p at' m (n + m) hmay hm
  obtain ⟨gx, gx0, _, xlen, xeq, xdeq, xd1, _, _⟩ := pt_ok (xL p at' m (n + m)) (denL p at' m) hd (by omega) (fun j => by have := xb j; omega) (by unfold xL; rw [spread_len]; omega)
  obtain ⟨gg, gg0, _, glen, geq, gdeq, gd1, _, _⟩ := pt_ok (gainL p at' m (n + m)) (denL p at' m) hd (by omega) gb (by unfold gainL; simp; omega)
  have hl := look_some p at' hmay (by rw [← hm, ← hn]; exact hr) (by rw [← hm]; exact hd) m (n + m) hm (by rw [← hm, ← hn])
  rw [hl]
  dsimp only
  generalize (pt (xL p at' m (n + m)) (denL p at' m)).1 = X at *
  generalize (pt (xL p at' m (n + m)) (denL p at' m)).2.1 = XD at *
  generalize (pt (gainL p at' m (n + m)) (denL p at' m)).1 = G at *
  generalize (pt (gainL p at' m (n + m)) (denL p at' m)).2.1 = GD at *
  have hs := sgD_pos p at' m hd
  generalize sgD p at' m = σ at *
  have key : ∀ g D : Int, denL p at' m = g * D → 1 ≤ D → 0 < σ * g := by
    intro g D he hD
    rw [he, ← Int.mul_assoc] at hs
    by_cases h : 0 < σ * g
    · exact h
    · have := Int.mul_le_mul_of_nonneg_right (Int.not_lt.1 h) (show 0 ≤ D by omega)
      omega
  exact ⟨σ * gx, σ * gg, key gx XD xdeq xd1, key gg GD gdeq gd1, fun j => by rw [xeq j, Int.mul_assoc], by rw [xdeq, Int.mul_assoc], fun j => by rw [geq j, Int.mul_assoc]⟩

theorem pos_mul_iff (g x : Int) (hg : 0 < g) : 0 < g * x ↔ 0 < x := by
  constructor
  · intro h
    by_cases hx : 0 < x
    · exact hx
    · have := Int.mul_nonpos_of_nonneg_of_nonpos (Int.le_of_lt hg) (Int.not_lt.1 hx); omega
  · intro h; exact Int.mul_pos hg h

theorem nonneg_mul_iff (g x : Int) (hg : 0 < g) : 0 ≤ g * x ↔ 0 ≤ x := by
  constructor
  · intro h
    by_cases hx : 0 ≤ x
    · exact hx
    · have := Int.mul_neg_of_pos_of_neg hg (Int.not_le.1 hx); omega
  · intro h; exact Int.mul_nonneg (Int.le_of_lt hg) h

/-- The first number above 0; -1 if there is none: k numbers gone through. -/
def firstN (g : List Int) : Nat → Int
  | 0 => -1
  | k + 1 => if 0 ≤ firstN g k then firstN g k else if 0 < g[k]?.getD 0 then k else -1

theorem first_ok (g : List Int) : ∀ k, (firstN g k = -1 ∧ ∀ j, j < k → g[j]?.getD 0 ≤ 0) ∨ (∃ s : Nat, s < k ∧ firstN g k = s ∧ 0 < g[s]?.getD 0 ∧ ∀ j, j < s → g[j]?.getD 0 ≤ 0) := by
  intro k
  induction k with
  | zero => exact Or.inl ⟨rfl, fun j hj => by omega⟩
  | succ k ih =>
    rcases ih with ⟨h1, h2⟩ | ⟨s, h1, h2, h3, h4⟩
    · unfold firstN
      rw [h1, if_neg (by omega)]
      by_cases hk : 0 < g[k]?.getD 0
      · rw [if_pos hk]; exact Or.inr ⟨k, by omega, rfl, hk, h2⟩
      · rw [if_neg hk]
        refine Or.inl ⟨rfl, fun j hj => ?_⟩
        by_cases hjk : j = k
        · subst hjk; omega
        · exact h2 j (by omega)
    · refine Or.inr ⟨s, by omega, ?_, h3, h4⟩
      unfold firstN
      rw [if_pos (by omega), h2]

/-- The place that goes out: k places gone through. -/
def outN (at' x v : List Int) : Nat → Int
  | 0 => -1
  | k + 1 => if 0 < v[atF at' k]?.getD 0 ∧ (outN at' x v k < 0 ∨ x[atF at' k]?.getD 0 * v[atF at' (outN at' x v k).toNat]?.getD 0 < x[atF at' (outN at' x v k).toNat]?.getD 0 * v[atF at' k]?.getD 0) then k else outN at' x v k

theorem cross_trans (xa va xb vb xc vc : Int) (ha : 0 < va) (hb : 0 < vb) (hc : 0 < vc) (h1 : xa * vb < xb * va) (h2 : xb * vc ≤ xc * vb) : xa * vc < xc * va := by
  have e1 : xa * vb * vc < xb * va * vc := Int.mul_lt_mul_of_pos_right h1 hc
  have e2 : xb * vc * va ≤ xc * vb * va := Int.mul_le_mul_of_nonneg_right h2 (Int.le_of_lt ha)
  have e3 : vb * (xa * vc) < vb * (xc * va) := by
    have a1 : vb * (xa * vc) = xa * vb * vc := by grind
    have a2 : xb * va * vc = xb * vc * va := by grind
    have a3 : vb * (xc * va) = xc * vb * va := by grind
    omega
  exact Int.lt_of_mul_lt_mul_left e3 (Int.le_of_lt hb)

theorem out_ok (at' x v : List Int) : ∀ k, (outN at' x v k = -1 ∧ ∀ l, l < k → v[atF at' l]?.getD 0 ≤ 0) ∨
    (∃ o : Nat, o < k ∧ outN at' x v k = o ∧ 0 < v[atF at' o]?.getD 0 ∧ ∀ l, l < k → 0 < v[atF at' l]?.getD 0 → x[atF at' o]?.getD 0 * v[atF at' l]?.getD 0 ≤ x[atF at' l]?.getD 0 * v[atF at' o]?.getD 0 ∧ (x[atF at' o]?.getD 0 * v[atF at' l]?.getD 0 = x[atF at' l]?.getD 0 * v[atF at' o]?.getD 0 → o ≤ l)) := by
  intro k
  induction k with
  | zero => exact Or.inl ⟨rfl, fun j hj => by omega⟩
  | succ k ih =>
    rcases ih with ⟨h1, h2⟩ | ⟨o, h1, h2, h3, h4⟩
    · unfold outN
      rw [h1]
      by_cases hk : 0 < v[atF at' k]?.getD 0
      · rw [if_pos ⟨hk, Or.inl (by omega)⟩]
        refine Or.inr ⟨k, by omega, rfl, hk, fun l hl hlv => ?_⟩
        by_cases hlk : l = k
        · subst hlk; exact ⟨Int.le_refl _, fun _ => Nat.le_refl _⟩
        · have := h2 l (by omega); omega
      · rw [if_neg (fun h => hk h.1)]
        refine Or.inl ⟨rfl, fun l hl => ?_⟩
        by_cases hlk : l = k
        · subst hlk; omega
        · exact h2 l (by omega)
    · unfold outN
      rw [h2, Int.toNat_natCast]
      by_cases hc : 0 < v[atF at' k]?.getD 0 ∧ ((o : Int) < 0 ∨ x[atF at' k]?.getD 0 * v[atF at' o]?.getD 0 < x[atF at' o]?.getD 0 * v[atF at' k]?.getD 0)
      · rw [if_pos hc]
        obtain ⟨hk, hc2⟩ := hc
        have hlt := hc2.resolve_left (by omega)
        refine Or.inr ⟨k, by omega, rfl, hk, fun l hl hlv => ?_⟩
        by_cases hlk : l = k
        · subst hlk; exact ⟨Int.le_refl _, fun _ => Nat.le_refl _⟩
        · have := cross_trans _ _ _ _ _ _ hk h3 hlv hlt (h4 l (by omega) hlv).1
          exact ⟨by omega, fun e => by omega⟩
      · rw [if_neg hc]
        refine Or.inr ⟨o, by omega, rfl, h3, fun l hl hlv => ?_⟩
        by_cases hlk : l = k
        · subst hlk
          have : ¬ x[atF at' l]?.getD 0 * v[atF at' o]?.getD 0 < x[atF at' o]?.getD 0 * v[atF at' l]?.getD 0 := fun h => hc ⟨hlv, Or.inr h⟩
          exact ⟨by omega, fun _ => by omega⟩
        · exact h4 l (by omega) hlv

/-- What Next answers: columns, a kind, what is wrong. -/
def nextN (p : Lp) (at' : List Int) : List Int × Int × Int :=
  if (look p at').err ≠ 0 then ([], 0, (look p at').err)
  else if anyNeg (look p at').x = true then ([], 0, 3)
  else if firstN (look p at').g (look p at').g.length < 0 then ([], 1, 0)
  else if outN at' (look p at').x (look (askP p (firstN (look p at').g (look p at').g.length).toNat) at').x at'.length < 0 then ([], 2, 0)
  else (swapN at' (at'[(outN at' (look p at').x (look (askP p (firstN (look p at').g (look p at').g.length).toNat) at').x at'.length).toNat]?.getD 0) (firstN (look p at').g (look p at').g.length) at'.length, 0, 0)

end Num
end Go.Proofs.YtloncgmgcnaalaaGreat

/- Walks, in plain numbers: what Next and Walk answer, and that a walk is one, and ends. -/
namespace Go.Proofs.YtloncgmgcnaalaaGreat
namespace Num

/-- A corner that goes. -/
structure Good (p : Lp) (at' : List Int) (m n : Nat) : Prop where
  right : rightB at' m (n + m) = true
  den : denL p at' m ≠ 0
  x : ∀ j : Nat, 0 ≤ sgD p at' m * (xL p at' m (n + m))[j]?.getD 0

theorem anyNeg_false (l : List Int) : anyNeg l = false ↔ ∀ j : Nat, 0 ≤ l[j]?.getD 0 := by
  unfold anyNeg
  rw [List.any_eq_false]
  constructor
  · intro h j
    by_cases hj : j < l.length
    · have := h (l[j]?.getD 0) (by rw [List.getElem?_eq_getElem hj]; exact List.getElem_mem _)
      simpa using this
    · rw [List.getElem?_eq_none (by omega)]; simp
  · intro h x hx
    obtain ⟨j, hj, rfl⟩ := List.getElem_of_mem hx
    have := h j
    rw [List.getElem?_eq_getElem hj] at this
    simpa using this

/-- The parts of a corner that goes. -/
theorem good_of (p : Lp) (at' : List Int) (m n : Nat) (hmay : p.may = true) (hm : m = p.rows.length) (hn : n = p.costs.length) : ((look p at').err = 0 ∧ anyNeg (look p at').x = false) ↔ Good p at' m n := by
  constructor
  · rintro ⟨h1, h2⟩
    cases hr : rightB at' m (n + m) with
    | false =>
      rw [look_range p at' hmay (by rw [← hm, ← hn]; exact hr)] at h1
      simp [noLook] at h1
    | true =>
      by_cases hd : denL p at' m = 0
      · rw [look_none p at' hmay (by rw [← hm, ← hn]; exact hr) (by rw [← hm]; exact hd)] at h1
        simp [noLook] at h1
      · obtain ⟨_, _, _, _, _, gx, gg, gx0, _, hx, _⟩ := look_parts p at' m n hmay hm hn hr hd
        refine ⟨hr, hd, fun j => ?_⟩
        rw [hx j]
        exact (nonneg_mul_iff _ _ gx0).2 ((anyNeg_false _).1 h2 j)
  · rintro ⟨hr, hd, hx0⟩
    obtain ⟨h0, _, _, _, _, gx, gg, gx0, _, hx, _⟩ := look_parts p at' m n hmay hm hn hr hd
    refine ⟨h0, (anyNeg_false _).2 fun j => ?_⟩
    have := hx0 j
    rw [hx j] at this
    exact (nonneg_mul_iff _ _ gx0).1 this

theorem first_len (p : Lp) (at' : List Int) (m n : Nat) (hmay : p.may = true) (hm : m = p.rows.length) (hn : n = p.costs.length) (h : Good p at' m n) : (look p at').g.length = n + m ∧ at'.length = m ∧ 1 ≤ m ∧ m ≤ 4 ∧ n + m ≤ 8 := by
  obtain ⟨_, _, h2, _⟩ := look_parts p at' m n hmay hm hn h.right h.den
  have h1 := (p.may_of hmay).2.2.1
  have h3 := (p.may_of hmay).1
  exact ⟨h2, (right_all at' m _ h.right).1, by omega, by omega, by omega⟩

/-- The column that comes in is not among those of the corner. -/
theorem in_new (p : Lp) (at' : List Int) (m n : Nat) (hmay : p.may = true) (hm : m = p.rows.length) (hn : n = p.costs.length) (h : Good p at' m n) (s : Nat) (hs : 0 < (look p at').g[s]?.getD 0) : inB at' m s = false := by
  cases hb : inB at' m s with
  | false => rfl
  | true =>
    obtain ⟨i, hi, rfl⟩ := (inB_true at' m s).1 hb
    have := (look_comes p at' m n hmay hm hn h.right h.den).2.2.2.2.2.2.2.2.2.1 i hi
    omega

/-- How the columns of the corner make another one up, as Look tells it. -/
theorem ask_parts (p : Lp) (at' : List Int) (m n s : Nat) (hmay : p.may = true) (hm : m = p.rows.length) (hn : n = p.costs.length) (h : Good p at' m n) :
    (look (askP p s) at').err = 0 ∧ (look (askP p s) at').x.length = n + m ∧ (∀ j : Nat, -497664 ≤ (look (askP p s) at').x[j]?.getD 0 ∧ (look (askP p s) at').x[j]?.getD 0 ≤ 497664) ∧ ∃ gv : Int, 0 < gv ∧ ∀ k, k < m → sgD p at' m * (wayL p at' m s)[k]?.getD 0 = gv * (look (askP p s) at').x[atF at' k]?.getD 0 := by
  obtain ⟨h0, h1, _, _, h4, gx, _, gx0, _, hx, _⟩ := look_parts (askP p s) at' m n (ask_may p s hmay) (by rw [ask_len]; exact hm) hn h.right (by rw [ask_den p s at' m hm]; exact h.den)
  refine ⟨h0, h1, h4, gx, gx0, fun k hk => ?_⟩
  rw [← hx, ask_sgD p s at' m hm, ask_x p s at' m (n + m) hm, spread_in (n + m) at' _ m h.right m (Nat.le_refl _) k hk]

theorem swap_place (at' : List Int) (k s m N : Nat) (hr : rightB at' m N = true) (hk : k < m) (hs : s < N) (hsb : inB at' m s = false) : ∃ k', k' < m ∧ rightB (swapI at' k k' s) m N = true := by
  obtain ⟨k', a1, a2, a3⟩ := place_of (restF at' k) s (m - 1) (fun i j hij hj => rest_rise at' k m N hr i j hij (by omega)) (fun i hi => by
    unfold restF
    exact (inB_false at' m s).1 hsb _ (by split <;> omega))
  exact ⟨k', by omega, swap_right at' k k' s m N hr hk (by omega) hs a2 (fun i hi hi2 => a3 i hi (by omega))⟩

theorem swapN_right (at' : List Int) (k s m N : Nat) (hr : rightB at' m N = true) (hk : k < m) (hs : s < N) (hsb : inB at' m s = false) : rightB (swapN at' (at'[k]?.getD 0) s m) m N = true ∧ ∀ j, inB (swapN at' (at'[k]?.getD 0) s m) m j = (if j = s then true else if j = atF at' k then false else inB at' m j) := by
  obtain ⟨k', hk', h2⟩ := swap_place at' k s m N hr hk hs hsb
  rw [swap_doc at' k k' s m N hr hk hk' h2 hsb]
  exact ⟨h2, fun j => swap_inB at' k k' s m N hr hk hk' j⟩

theorem swapN_sort (at' r : List Int) (k s m N : Nat) (hr : rightB at' m N = true) (hk : k < m) (hs : s < N) (hsb : inB at' m s = false) (hp : r.Perm (at'.set k s)) (ho : r.Pairwise (· ≤ ·)) : r = swapN at' (at'[k]?.getD 0) s m := by
  obtain ⟨k', hk', h2⟩ := swap_place at' k s m N hr hk hs hsb
  rw [swap_doc at' k k' s m N hr hk hk' h2 hsb]
  exact swap_sort at' r k k' s m N hr hk hk' h2 hsb hp ho

/-- What Next answers, by kinds. -/
theorem next_cases (p : Lp) (at' : List Int) (m n : Nat) (hmay : p.may = true) (hm : m = p.rows.length) (hn : n = p.costs.length) :
    (∃ e, e ≠ 0 ∧ nextN p at' = ([], 0, e) ∧ ¬ Good p at' m n) ∨ (Good p at' m n ∧ ((∃ k, k ≠ 0 ∧ (k = 1 ∨ k = 2) ∧ nextN p at' = ([], k, 0)) ∨ ∃ nx s k, nextN p at' = (nx, 0, 0) ∧ nx.length = m ∧ Good p nx m n ∧ NextOk p at' nx m (n + m) s k)) := by
  by_cases hg : Good p at' m n
  · refine Or.inr ⟨hg, ?_⟩
    obtain ⟨h1, h2⟩ := (good_of p at' m n hmay hm hn).2 hg
    obtain ⟨l1, l2, l3, l4, _⟩ := first_len p at' m n hmay hm hn hg
    obtain ⟨_, _, _, _, _, gx, gg, gx0, gg0, hx, _, hgn⟩ := look_parts p at' m n hmay hm hn hg.right hg.den
    unfold nextN
    rw [if_neg (by omega), if_neg (by rw [h2]; decide), l1, l2]
    rcases first_ok (look p at').g (n + m) with ⟨f1, f2⟩ | ⟨s, f1, f2, f3, f4⟩
    · rw [f1, if_pos (by omega)]
      exact Or.inl ⟨1, by omega, Or.inl rfl, rfl⟩
    · rw [f2, if_neg (by omega), Int.toNat_natCast]
      have hsb := in_new p at' m n hmay hm hn hg s f3
      obtain ⟨_, _, _, gv, gv0, hv⟩ := ask_parts p at' m n s hmay hm hn hg
      rcases out_ok at' (look p at').x (look (askP p s) at').x m with ⟨o1, o2⟩ | ⟨o, o1, o2, o3, o4⟩
      · rw [o1, if_pos (by omega)]
        exact Or.inl ⟨2, by omega, Or.inr rfl, rfl⟩
      · rw [o2, if_neg (by omega), Int.toNat_natCast]
        have hvi : ∀ l, l < m → (0 < sgD p at' m * (wayL p at' m s)[l]?.getD 0 ↔ 0 < (look (askP p s) at').x[atF at' l]?.getD 0) := fun l hl => by rw [hv l hl]; exact pos_mul_iff _ _ gv0
        obtain ⟨k', a1, a2, a3, a4, a5⟩ := next_of p at' m n s o hmay hm hg.right hg.den hg.x f1 (by rw [hgn s]; exact (pos_mul_iff _ _ gg0).2 f3) (fun j hj => by
            rw [hgn j]
            have := Int.mul_nonpos_of_nonneg_of_nonpos (Int.le_of_lt gg0) (f4 j hj); omega) o1 ((hvi o o1).2 o3) (fun l hl hlv => by
            obtain ⟨b1, b2⟩ := o4 l hl ((hvi l hl).1 hlv)
            rw [hx, hx, hv l hl, hv o o1]
            generalize (look p at').x[atF at' o]?.getD 0 = xo at *
            generalize (look p at').x[atF at' l]?.getD 0 = xl at *
            generalize (look (askP p s) at').x[atF at' o]?.getD 0 = vo at *
            generalize (look (askP p s) at').x[atF at' l]?.getD 0 = vl at *
            have e1 : gx * xo * (gv * vl) = gx * gv * (xo * vl) := by grind
            have e2 : gx * xl * (gv * vo) = gx * gv * (xl * vo) := by grind
            have hp := Int.mul_pos gx0 gv0
            rw [e1, e2]
            exact ⟨Int.mul_le_mul_of_nonneg_left b1 (Int.le_of_lt hp), fun e => b2 (Int.eq_of_mul_eq_mul_left (by omega) e)⟩)
        rw [swap_doc at' o k' s m (n + m) hg.right o1 a1 a4.right2 hsb]
        exact Or.inr ⟨_, s, o, rfl, (right_all _ m _ a4.right2).1, ⟨a4.right2, a4.den2, a5⟩, a4⟩
  · refine Or.inl ?_
    have h := fun h => hg ((good_of p at' m n hmay hm hn).1 h)
    unfold nextN
    by_cases h0 : (look p at').err = 0
    · rw [if_neg (by omega)]
      cases ha : anyNeg (look p at').x with
      | false => exact absurd ⟨h0, ha⟩ h
      | true => rw [if_pos rfl]; exact ⟨3, by omega, rfl, hg⟩
    · rw [if_pos h0]; exact ⟨_, h0, rfl, hg⟩

/-- The columns of a walk so far, and those at which it is. -/
def Path (p : Lp) (at' : List Int) (l : List (List Int)) (now : List Int) : Prop :=
  (l ++ [now])[0]?.getD [] = at' ∧ ∀ q, q < l.length → nextN p ((l ++ [now])[q]?.getD []) = ((l ++ [now])[q + 1]?.getD [], 0, 0)

/-- A walk, whole. -/
def IsWalk (p : Lp) (at' : List Int) (l : List (List Int)) (kind : Int) : Prop :=
  ∃ K, l.length = K + 1 ∧ l[0]?.getD [] = at' ∧ (∀ q, q < K → nextN p (l[q]?.getD []) = (l[q + 1]?.getD [], 0, 0)) ∧ nextN p (l[K]?.getD []) = ([], kind, 0) ∧ kind ≠ 0

theorem Path.start (p : Lp) (at' : List Int) : Path p at' [] at' := ⟨rfl, fun _ hq => absurd hq (Nat.not_lt_zero _)⟩

theorem Path.push {p : Lp} {at' : List Int} {l : List (List Int)} {now nx : List Int} (h : Path p at' l now) (hn : nextN p now = (nx, 0, 0)) : Path p at' (l ++ [now]) nx := by
  obtain ⟨h1, h2⟩ := h
  refine ⟨?_, fun q hq => ?_⟩
  · rw [List.getElem?_append_left (by simp)]; exact h1
  · rw [List.length_append, List.length_singleton] at hq
    rw [List.getElem?_append_left (by simp; omega)]
    by_cases hql : q < l.length
    · rw [h2 q hql, List.getElem?_append_left (l₁ := l ++ [now]) (l₂ := [nx]) (by simp; omega)]
    · have : q = l.length := by omega
      subst this
      rw [List.getElem?_append_right (by omega), Nat.sub_self, List.getElem?_append_right (l₁ := l ++ [now]) (by simp)]
      simpa using hn

theorem Path.ends {p : Lp} {at' : List Int} {l : List (List Int)} {now : List Int} {kind : Int} (h : Path p at' l now) (hn : nextN p now = ([], kind, 0)) (hk : kind ≠ 0) : IsWalk p at' (l ++ [now]) kind := by
  refine ⟨l.length, by simp, h.1, h.2, ?_, hk⟩
  rw [List.getElem?_append_right (by omega), Nat.sub_self]
  simpa using hn

theorem walk_unique {p : Lp} {at' : List Int} {l1 l2 : List (List Int)} {k1 k2 : Int} (h1 : IsWalk p at' l1 k1) (h2 : IsWalk p at' l2 k2) : l1 = l2 ∧ k1 = k2 := by
  obtain ⟨K1, a1, a2, a3, a4, a5⟩ := h1
  obtain ⟨K2, b1, b2, b3, b4, b5⟩ := h2
  have hall : ∀ q, q ≤ K1 → q ≤ K2 → l1[q]?.getD [] = l2[q]?.getD [] := by
    intro q
    induction q with
    | zero => intro _ _; rw [a2, b2]
    | succ q ih =>
      intro h1 h2
      have e := ih (by omega) (by omega)
      have e1 := a3 q (by omega)
      have e2 := b3 q (by omega)
      rw [e, e2] at e1
      simp only [Prod.mk.injEq, and_true] at e1
      exact e1.symm
  have hK : K1 = K2 := by
    by_cases hlt : K1 < K2
    · have e := hall K1 (Nat.le_refl _) (by omega)
      have e2 := b3 K1 hlt
      rw [← e, a4] at e2
      simp only [Prod.mk.injEq] at e2
      exact absurd e2.2.1 a5
    · by_cases hgt : K2 < K1
      · have e := hall K2 (by omega) (Nat.le_refl _)
        have e2 := a3 K2 hgt
        rw [e, b4] at e2
        simp only [Prod.mk.injEq] at e2
        exact absurd e2.2.1 b5
      · omega
  subst hK
  refine ⟨?_, ?_⟩
  · apply List.ext_getElem (by omega)
    intro i g1 g2
    have := hall i (by omega) (by omega)
    rw [List.getElem?_eq_getElem g1, List.getElem?_eq_getElem g2] at this
    exact this
  · have e := hall K1 (Nat.le_refl _) (Nat.le_refl _)
    rw [e, b4] at a4
    simp only [Prod.mk.injEq, and_true, true_and] at a4
    exact a4.symm

/-- The steps of a path, chosen. -/
theorem path_steps (p : Lp) (m n : Nat) (hmay : p.may = true) (hm : m = p.rows.length) (hn : n = p.costs.length) (ats : Nat → List Int) (K : Nat) (h : ∀ q, q < K → nextN p (ats q) = (ats (q + 1), 0, 0)) :
    ∃ ss ks : Nat → Nat, (∀ q, q < K → NextOk p (ats q) (ats (q + 1)) m (n + m) (ss q) (ks q)) ∧ (∀ q, q < K → Good p (ats q) m n ∧ Good p (ats (q + 1)) m n) := by
  have key : ∀ q, q < K → (∃ s k, NextOk p (ats q) (ats (q + 1)) m (n + m) s k) ∧ Good p (ats q) m n ∧ Good p (ats (q + 1)) m n := by
    intro q hq
    have hq' := h q hq
    rcases next_cases p (ats q) m n hmay hm hn with ⟨e, he, h1, _⟩ | ⟨hg, ⟨k, hk, _, h1⟩ | ⟨nx, s, k, h1, _, h3, h4⟩⟩
    · rw [h1] at hq'
      simp only [Prod.mk.injEq] at hq'
      omega
    · rw [h1] at hq'
      simp only [Prod.mk.injEq] at hq'
      omega
    · rw [h1] at hq'
      simp only [Prod.mk.injEq, and_true] at hq'
      subst hq'
      exact ⟨⟨s, k, h4⟩, hg, h3⟩
  refine ⟨fun q => if hq : q < K then Classical.choose (key q hq).1 else 0, fun q => if hq : q < K then Classical.choose (Classical.choose_spec (key q hq).1) else 0, fun q hq => ?_, fun q hq => (key q hq).2⟩
  simp only [hq, dite_true]
  exact Classical.choose_spec (Classical.choose_spec (key q hq).1)

theorem path_good (p : Lp) (m n : Nat) (hmay : p.may = true) (hm : m = p.rows.length) (hn : n = p.costs.length) (ats : Nat → List Int) (K : Nat) (hK : 0 < K) (h : ∀ q, q < K → nextN p (ats q) = (ats (q + 1), 0, 0)) (q : Nat) (hq : q ≤ K) : Good p (ats q) m n := by
  obtain ⟨ss, ks, _, h2⟩ := path_steps p m n hmay hm hn ats K h
  by_cases hqK : q < K
  · exact (h2 q hqK).1
  · have : q = K - 1 + 1 := by omega
    rw [this]
    exact (h2 (K - 1) (by omega)).2

/-- A path has fewer than 4096 columns behind it. -/
theorem path_short {p : Lp} {at' : List Int} {l : List (List Int)} {now : List Int} (m n : Nat) (hmay : p.may = true) (hm : m = p.rows.length) (hn : n = p.costs.length) (h : Path p at' l now) : l.length < 4096 := by
  by_cases h0 : l.length = 0
  · omega
  · obtain ⟨ss, ks, h1, h2⟩ := path_steps p m n hmay hm hn (fun q => (l ++ [now])[q]?.getD []) l.length h.2
    have hg := path_good p m n hmay hm hn (fun q => (l ++ [now])[q]?.getD []) l.length (by omega) h.2
    have a1 := (p.may_of hmay).1.2
    have a2 := (p.may_of hmay).2.2.1.2
    exact walk_ends p m n hmay hm (by omega) (fun q => (l ++ [now])[q]?.getD []) ss ks l.length (fun q j hq => (hg q hq).x j) (fun q hq => (hg q hq).den) (fun q hq => (hg q hq).right) h1

theorem path_now {p : Lp} {at' : List Int} {l : List (List Int)} {now : List Int} (m n : Nat) (hmay : p.may = true) (hm : m = p.rows.length) (hn : n = p.costs.length) (h : Path p at' l now) (hl : l ≠ []) : Good p now m n := by
  have h0 : 0 < l.length := List.length_pos_iff.2 hl
  have := path_good p m n hmay hm hn (fun q => (l ++ [now])[q]?.getD []) l.length h0 h.2 l.length (Nat.le_refl _)
  simpa using this

end Num
end Go.Proofs.YtloncgmgcnaalaaGreat

/- Which column goes out, told by the corners behind each, in plain numbers. -/
namespace Go.Proofs.YtloncgmgcnaalaaGreat
namespace Num

theorem first_stay (g : List Int) (k : Nat) (h : 0 ≤ firstN g k) : ∀ d, firstN g (k + d) = firstN g k := by
  intro d
  induction d with
  | zero => rfl
  | succ d ih =>
    show (if 0 ≤ firstN g (k + d) then firstN g (k + d) else _) = _
    rw [ih, if_pos h]

/-- The corner behind the column at place k: whether there is one, and how far the one that comes in goes. -/
theorem near_frac (p : Lp) (at' : List Int) (m n s k : Nat) (hmay : p.may = true) (hm : m = p.rows.length) (hn : n = p.costs.length) (h : Good p at' m n) (hs : s < n + m) (hsb : inB at' m s = false) (hk : k < m) (gx gv : Int)
    (hgx : ∀ j : Nat, sgD p at' m * (xL p at' m (n + m))[j]?.getD 0 = gx * (look p at').x[j]?.getD 0) (hgv : ∀ k, k < m → sgD p at' m * (wayL p at' m s)[k]?.getD 0 = gv * (look (askP p s) at').x[atF at' k]?.getD 0) (gv0 : 0 < gv) :
    rightB (swapN at' (at'[k]?.getD 0) s m) m (n + m) = true ∧ (denL p (swapN at' (at'[k]?.getD 0) s m) m = 0 ↔ (look (askP p s) at').x[atF at' k]?.getD 0 = 0) ∧
    (denL p (swapN at' (at'[k]?.getD 0) s m) m ≠ 0 → (look p (swapN at' (at'[k]?.getD 0) s m)).x[s]?.getD 0 * (gv * (look (askP p s) at').x[atF at' k]?.getD 0) = gx * (look p at').x[atF at' k]?.getD 0 * (look p (swapN at' (at'[k]?.getD 0) s m)).xd) := by
  have h1 : 1 ≤ m := by have := (p.may_of hmay).2.2.1.1; omega
  have h4 : m ≤ 4 := by have := (p.may_of hmay).2.2.1.2; omega
  obtain ⟨k', hk', hr2⟩ := swap_place at' k s m (n + m) h.right hk hs hsb
  have he := swap_doc at' k k' s m (n + m) h.right hk hk' hr2 hsb
  have hin := swap_inB at' k k' s m (n + m) h.right hk hk'
  have hden := den_swap p at' k k' s m (right_all at' m _ h.right).1 h1 h4 hk hk'
  rw [he]
  generalize swapI at' k k' s = b2 at *
  have hsq := sgD_sq p at' m
  have hw := hgv k hk
  have hsg : sgn (k + k') = 1 ∨ sgn (k + k') = -1 := by unfold sgn; split <;> simp
  refine ⟨hr2, ?_, fun hd2 => ?_⟩
  · rw [hden]
    generalize (wayL p at' m s)[k]?.getD 0 = wk at *
    generalize (look (askP p s) at').x[atF at' k]?.getD 0 = vk at *
    generalize sgD p at' m = g at *
    have hg : g = 1 ∨ g = -1 := by
      rcases Int.lt_or_le 0 g with h | h
      · left
        by_cases h1 : g = 1
        · exact h1
        · have : 2 * 2 ≤ g * g := Int.mul_le_mul (by omega) (by omega) (by omega) (by omega); omega
      · right
        by_cases h1 : g = -1
        · exact h1
        · by_cases h2 : g = 0
          · rw [h2] at hsq; simp at hsq
          · have : 2 * 2 ≤ (-g) * (-g) := Int.mul_le_mul (by omega) (by omega) (by omega) (by omega)
            rw [Int.neg_mul_neg] at this; omega
    constructor
    · intro e
      have e1 : wk = 0 := by rcases hsg with h | h <;> rw [h] at e <;> omega
      rw [e1, Int.mul_zero] at hw
      rcases Int.mul_eq_zero.1 hw.symm with h | h
      · omega
      · exact h
    · intro e
      rw [e, Int.mul_zero] at hw
      have e1 : wk = 0 := by rcases hg with h | h <;> rw [h] at hw <;> omega
      rw [e1, Int.mul_zero]
  · have hex := exchange p at' b2 m (n + m) s k h.right hr2 h1 h4 hs hsb hk hin hd2 s hs
    rw [x_not p at' m (n + m) s hsb] at hex
    have hdir : dirF p at' m (n + m) s s = denL p at' m := by unfold dirF; rw [if_pos rfl]
    rw [hdir] at hex
    obtain ⟨_, _, _, ⟨hxd, _⟩, _, g2, _, g20, _, hx2, hd2e, _⟩ := look_parts p b2 m n hmay hm hn hr2 hd2
    have hx2s := hx2 s
    have hxk := hgx (atF at' k)
    have hD := h.den
    have hsq2 := sgD_sq p b2 m
    generalize (xL p b2 m (n + m))[s]?.getD 0 = x2 at *
    generalize (xL p at' m (n + m))[atF at' k]?.getD 0 = xk at *
    generalize (wayL p at' m s)[k]?.getD 0 = wk at *
    generalize (look (askP p s) at').x[atF at' k]?.getD 0 = vk at *
    generalize (look p at').x[atF at' k]?.getD 0 = lk at *
    generalize (look p b2).x[s]?.getD 0 = l2 at *
    generalize (look p b2).xd = d2 at *
    generalize denL p at' m = D at *
    generalize denL p b2 m = D2 at *
    generalize sgD p at' m = g at *
    generalize sgD p b2 m = gb at *
    -- x2 * wk = D2 * xk
    have e1 : D * (x2 * wk) = D * (D2 * xk) := by
      have a1 : D * (x2 * wk) = x2 * D * wk := by grind
      have a2 : D * (D2 * xk) = D2 * (0 * wk + xk * D) := by grind
      rw [a1, a2, hex]
    have e2 : x2 * wk = D2 * xk := Int.eq_of_mul_eq_mul_left hD e1
    have e3 : (gb * x2) * (g * wk) = (gb * D2) * (g * xk) := by
      have a1 : (gb * x2) * (g * wk) = gb * g * (x2 * wk) := by grind
      have a2 : (gb * D2) * (g * xk) = gb * g * (D2 * xk) := by grind
      rw [a1, a2, e2]
    rw [hx2s, hw, hd2e, hxk] at e3
    have e4 : g2 * (l2 * (gv * vk)) = g2 * (gx * lk * d2) := by
      have a1 : g2 * (l2 * (gv * vk)) = g2 * l2 * (gv * vk) := by grind
      have a2 : g2 * (gx * lk * d2) = g2 * d2 * (gx * lk) := by grind
      rw [a1, a2, e3]
    exact Int.eq_of_mul_eq_mul_left (by omega) e4

/-- The fraction in lowest terms goes as far. -/
theorem frac_of (l d tn td G X : Int) (hd : 1 ≤ d) (h1 : l * td = tn * d) (h2 : l * G = X * d) : tn * G = X * td := by
  have e : d * (tn * G) = d * (X * td) := by
    have a1 : d * (tn * G) = (tn * d) * G := by grind
    have a2 : d * (X * td) = (X * d) * td := by grind
    rw [a1, a2, ← h1, ← h2]; grind
  exact Int.eq_of_mul_eq_mul_left (by omega) e

/-- Which fraction is below. -/
theorem frac_cmp (tn td bn bd gx gv xk vk xo vo : Int) (ht : tn * (gv * vk) = gx * xk * td) (hb : bn * (gv * vo) = gx * xo * bd) (hgx : 0 < gx) (hgv : 0 < gv) (hvk : 0 < vk) (hvo : 0 < vo) (htd : 1 ≤ td) (hbd : 1 ≤ bd) :
    tn * bd - bn * td < 0 ↔ xk * vo < xo * vk := by
  have hP : 0 < gx * gv * td * bd := Int.mul_pos (Int.mul_pos (Int.mul_pos hgx hgv) (by omega)) (by omega)
  have hQ : 0 < (gv * vk) * (gv * vo) := Int.mul_pos (Int.mul_pos hgv hvk) (Int.mul_pos hgv hvo)
  have e : ((gv * vk) * (gv * vo)) * (tn * bd - bn * td) = (gx * gv * td * bd) * (xk * vo - xo * vk) := by
    have a1 : ((gv * vk) * (gv * vo)) * (tn * bd - bn * td) = (tn * (gv * vk)) * (gv * vo) * bd - (bn * (gv * vo)) * (gv * vk) * td := by grind
    rw [a1, ht, hb]; grind
  constructor
  · intro h
    have h2 := Int.mul_neg_of_pos_of_neg hQ h
    rw [e] at h2
    by_cases h3 : xk * vo - xo * vk < 0
    · omega
    · have := Int.mul_nonneg (Int.le_of_lt hP) (Int.not_lt.1 h3); omega
  · intro h
    have h2 := Int.mul_neg_of_pos_of_neg hP (show xk * vo - xo * vk < 0 by omega)
    rw [← e] at h2
    by_cases h3 : tn * bd - bn * td < 0
    · exact h3
    · have := Int.mul_nonneg (Int.le_of_lt hQ) (Int.not_lt.1 h3); omega

end Num
end Go.Proofs.YtloncgmgcnaalaaGreat
