/- All columns that are right, in the document's order: in plain numbers. -/
import Derived.Test.YtloncgmgcnaalaaGreatSlvA
namespace Go.Proofs.YtloncgmgcnaalaaGreat
namespace Num

/-- The column at k goes up by one, and those behind it follow close. -/
def bumpL (at' : List Int) (k : Nat) : List Int := (List.range at'.length).map fun i => if i < k then at'[i]?.getD 0 else at'[k]?.getD 0 + 1 + ((i - k : Nat) : Int)

/-- The columns behind these: the places below k left to ask. -/
def nextGo (at' : List Int) (N : Nat) : Nat → List Int
  | 0 => []
  | k + 1 => if at'[k]?.getD 0 < (N : Int) - ((at'.length : Int) - k) then bumpL at' k else nextGo at' N k

def nextC (at' : List Int) (N : Nat) : List Int := nextGo at' N at'.length

def firstC (m : Nat) : List Int := (List.range m).map fun (i : Nat) => (i : Int)

def allGo (N : Nat) : Nat → List Int → List (List Int)
  | 0, _ => []
  | _ + 1, [] => []
  | f + 1, a :: l => (a :: l) :: allGo N f (nextC (a :: l) N)

def allC (m N : Nat) : List (List Int) := allGo N 71 (firstC m)

theorem all_facts : ∀ n m : Fin 4, (allC (m + 1) (n + 1 + (m + 1))).length ≤ 70 ∧ (allC (m + 1) (n + 1 + (m + 1))).all (fun l => rightB l (m + 1) (n + 1 + (m + 1))) = true := by decide +kernel

def memB (l : List Int) (ls : List (List Int)) : Bool := ls.any fun x => x == l

theorem all_1 : ∀ n : Fin 4, ∀ a : Fin 8, rightB [(a : Nat)] 1 (n + 1 + 1) = true → memB [(a : Nat)] (allC 1 (n + 1 + 1)) = true := by decide +kernel
theorem all_2 : ∀ n : Fin 4, ∀ a b : Fin 8, rightB [(a : Nat), (b : Nat)] 2 (n + 1 + 2) = true → memB [(a : Nat), (b : Nat)] (allC 2 (n + 1 + 2)) = true := by decide +kernel
theorem all_3 : ∀ n : Fin 4, ∀ a b c : Fin 8, rightB [(a : Nat), (b : Nat), (c : Nat)] 3 (n + 1 + 3) = true → memB [(a : Nat), (b : Nat), (c : Nat)] (allC 3 (n + 1 + 3)) = true := by decide +kernel
theorem all_4 : ∀ n : Fin 4, ∀ a b c d : Fin 8, rightB [(a : Nat), (b : Nat), (c : Nat), (d : Nat)] 4 (n + 1 + 4) = true → memB [(a : Nat), (b : Nat), (c : Nat), (d : Nat)] (allC 4 (n + 1 + 4)) = true := by decide +kernel

theorem allGo_nil (N f : Nat) : allGo N f [] = [] := by cases f <;> rfl

theorem allGo_first (N : Nat) : ∀ (f : Nat) (l : List Int), (allGo N f l).length < f → (allGo N f l)[0]?.getD [] = l
  | 0, _, h => absurd h (Nat.not_lt_zero _)
  | _ + 1, [], _ => rfl
  | _ + 1, _ :: _, _ => rfl

/-- One behind the other. -/
theorem allGo_next (N : Nat) : ∀ (f : Nat) (l : List Int), (allGo N f l).length < f → ∀ q, q < (allGo N f l).length → (allGo N f l)[q]?.getD [] ≠ [] ∧ nextC ((allGo N f l)[q]?.getD []) N = (allGo N f l)[q + 1]?.getD []
  | 0, _, h => absurd h (Nat.not_lt_zero _)
  | f + 1, [], _ => fun q hq => by rw [allGo_nil] at hq; simp at hq
  | f + 1, a :: l, h => fun q hq => by
    have e : allGo N (f + 1) (a :: l) = (a :: l) :: allGo N f (nextC (a :: l) N) := rfl
    rw [e] at h hq ⊢
    simp only [List.length_cons] at h hq
    cases q with
    | zero =>
      refine ⟨by simp, ?_⟩
      simp only [List.getElem?_cons_zero, Option.getD_some, List.getElem?_cons_succ]
      exact (allGo_first N f _ (by omega)).symm
    | succ q =>
      simp only [List.getElem?_cons_succ]
      exact allGo_next N f _ (by omega) q (by omega)

theorem all_len (m n : Nat) (h1 : 1 ≤ m) (h4 : m ≤ 4) (hn1 : 1 ≤ n) (hn4 : n ≤ 4) : (allC m (n + m)).length ≤ 70 ∧ ∀ l ∈ allC m (n + m), rightB l m (n + m) = true := by
  obtain ⟨m, rfl⟩ : ∃ k, m = k + 1 := ⟨m - 1, by omega⟩
  obtain ⟨n, rfl⟩ : ∃ k, n = k + 1 := ⟨n - 1, by omega⟩
  have := all_facts ⟨n, by omega⟩ ⟨m, by omega⟩
  exact ⟨this.1, fun l hl => List.all_eq_true.1 this.2 l hl⟩

theorem all_start (m n : Nat) (h1 : 1 ≤ m) (h4 : m ≤ 4) (hn1 : 1 ≤ n) (hn4 : n ≤ 4) : (allC m (n + m))[0]?.getD [] = firstC m :=
  allGo_first _ _ _ (by have := (all_len m n h1 h4 hn1 hn4).1; unfold allC at this; omega)

theorem all_next (m n : Nat) (h1 : 1 ≤ m) (h4 : m ≤ 4) (hn1 : 1 ≤ n) (hn4 : n ≤ 4) (q : Nat) (hq : q < (allC m (n + m)).length) : (allC m (n + m))[q]?.getD [] ≠ [] ∧ nextC ((allC m (n + m))[q]?.getD []) (n + m) = (allC m (n + m))[q + 1]?.getD [] :=
  allGo_next _ _ _ (by have := (all_len m n h1 h4 hn1 hn4).1; unfold allC at this; omega) q hq

theorem memB_mem (l : List Int) (ls : List (List Int)) (h : memB l ls = true) : l ∈ ls := by
  unfold memB at h
  rw [List.any_eq_true] at h
  obtain ⟨x, hx, he⟩ := h
  rw [beq_iff_eq] at he
  subst he
  exact hx

/-- All that are right come. -/
theorem all_come (at' : List Int) (m n : Nat) (h1 : 1 ≤ m) (h4 : m ≤ 4) (hn1 : 1 ≤ n) (hn4 : n ≤ 4) (hr : rightB at' m (n + m) = true) : at' ∈ allC m (n + m) := by
  obtain ⟨hl, hk⟩ := right_all at' m (n + m) hr
  have hv := at_val at' m (n + m) hr
  have h8 : ∀ i, atF at' i < 8 := atF_8 at' m (n + m) hr (by omega)
  obtain ⟨n, rfl⟩ : ∃ k, n = k + 1 := ⟨n - 1, by omega⟩
  have h8' := h8
  refine memB_mem _ _ ?_
  match at', m, h1, h4, hl with
  | [a], 1, _, _, _ =>
    have a0 := hv 0 (by omega)
    simp only [List.getElem?_cons_zero, Option.getD_some] at a0
    have := all_1 ⟨n, by omega⟩ ⟨atF [a] 0, h8 0⟩
    dsimp only at this
    rw [← a0] at this
    exact this hr
  | [a, b], 2, _, _, _ =>
    have a0 := hv 0 (by omega)
    have a1 := hv 1 (by omega)
    simp only [List.getElem?_cons_zero, List.getElem?_cons_succ, Option.getD_some] at a0 a1
    have := all_2 ⟨n, by omega⟩ ⟨atF [a, b] 0, h8 0⟩ ⟨atF [a, b] 1, h8 1⟩
    dsimp only at this
    rw [← a0, ← a1] at this
    exact this hr
  | [a, b, c], 3, _, _, _ =>
    have a0 := hv 0 (by omega)
    have a1 := hv 1 (by omega)
    have a2 := hv 2 (by omega)
    simp only [List.getElem?_cons_zero, List.getElem?_cons_succ, Option.getD_some] at a0 a1 a2
    have := all_3 ⟨n, by omega⟩ ⟨atF [a, b, c] 0, h8 0⟩ ⟨atF [a, b, c] 1, h8 1⟩ ⟨atF [a, b, c] 2, h8 2⟩
    dsimp only at this
    rw [← a0, ← a1, ← a2] at this
    exact this hr
  | [a, b, c, d], 4, _, _, _ =>
    have a0 := hv 0 (by omega)
    have a1 := hv 1 (by omega)
    have a2 := hv 2 (by omega)
    have a3 := hv 3 (by omega)
    simp only [List.getElem?_cons_zero, List.getElem?_cons_succ, Option.getD_some] at a0 a1 a2 a3
    have := all_4 ⟨n, by omega⟩ ⟨atF [a, b, c, d] 0, h8 0⟩ ⟨atF [a, b, c, d] 1, h8 1⟩ ⟨atF [a, b, c, d] 2, h8 2⟩ ⟨atF [a, b, c, d] 3, h8 3⟩
    dsimp only at this
    rw [← a0, ← a1, ← a2, ← a3] at this
    exact this hr

def anyPos (l : List Int) : Bool := l.any fun n => decide (0 < n)

theorem anyPos_false (l : List Int) : anyPos l = false ↔ ∀ j : Nat, l[j]?.getD 0 ≤ 0 := by
  unfold anyPos
  rw [List.any_eq_false]
  constructor
  · intro h j
    by_cases hj : j < l.length
    · have := h _ (List.getElem_mem hj)
      rw [List.getElem?_eq_getElem hj, Option.getD_some]
      simpa using this
    · rw [List.getElem?_eq_none (by omega)]; simp
  · intro h x hx
    obtain ⟨j, hj, rfl⟩ := List.getElem_of_mem hx
    have := h j
    rw [List.getElem?_eq_getElem hj, Option.getD_some] at this
    simpa using this

/-- Does the corner go, as Look tells it? -/
def goodB (p : Lp) (at' : List Int) : Bool := decide ((look p at').err = 0) && !anyNeg (look p at').x
/-- And has it no gains? -/
def topB (p : Lp) (at' : List Int) : Bool := goodB p at' && !anyPos (look p at').g

theorem goodB_iff (p : Lp) (at' : List Int) (m n : Nat) (hmay : p.may = true) (hm : m = p.rows.length) (hn : n = p.costs.length) : goodB p at' = true ↔ Good p at' m n := by
  unfold goodB
  rw [← good_of p at' m n hmay hm hn]
  simp

theorem topB_iff (p : Lp) (at' : List Int) (m n : Nat) (hmay : p.may = true) (hm : m = p.rows.length) (hn : n = p.costs.length) : topB p at' = true ↔ Top p at' m n := by
  unfold topB
  rw [Bool.and_eq_true, goodB_iff p at' m n hmay hm hn, Bool.not_eq_true', anyPos_false]
  constructor
  · rintro ⟨hg, h⟩
    obtain ⟨_, _, _, _, _, _, gg, _, gg0, _, _, hgn⟩ := look_parts p at' m n hmay hm hn hg.right hg.den
    exact ⟨hg, fun j _ => by rw [hgn j]; exact Int.mul_nonpos_of_nonneg_of_nonpos (Int.le_of_lt gg0) (h j)⟩
  · intro ht
    obtain ⟨_, _, hl, _, _, _, gg, _, gg0, _, _, hgn⟩ := look_parts p at' m n hmay hm hn ht.right ht.den
    refine ⟨ht.toGood, fun j => ?_⟩
    by_cases hj : j < n + m
    · have := ht.gain j hj
      rw [hgn j] at this
      refine Int.not_lt.1 fun h => ?_
      have := Int.mul_pos gg0 h
      omega
    · rw [List.getElem?_eq_none (by omega)]; simp

/-- The document's Kind. -/
def kindN (p : Lp) : Int := if (allC p.rows.length (p.costs.length + p.rows.length)).any (topB p) = true then 1 else if (allC p.rows.length (p.costs.length + p.rows.length)).any (goodB p) = true then 2 else 3

theorem kindN_is (p : Lp) (hmay : p.may = true) : KindIs p p.rows.length p.costs.length (kindN p) := by
  obtain ⟨hc, _, hr, _⟩ := p.may_of hmay
  have full := fun at' => all_come at' p.rows.length p.costs.length hr.1 hr.2 hc.1 hc.2
  unfold kindN
  by_cases h1 : (allC p.rows.length (p.costs.length + p.rows.length)).any (topB p) = true
  · rw [if_pos h1]
    obtain ⟨t, _, ht⟩ := List.any_eq_true.1 h1
    exact Or.inl ⟨rfl, t, (topB_iff p t _ _ hmay rfl rfl).1 ht⟩
  · rw [if_neg h1]
    have no : ¬ ∃ t, Top p t p.rows.length p.costs.length := by
      rintro ⟨t, ht⟩
      exact h1 (List.any_eq_true.2 ⟨t, full t ht.right, (topB_iff p t _ _ hmay rfl rfl).2 ht⟩)
    by_cases h2 : (allC p.rows.length (p.costs.length + p.rows.length)).any (goodB p) = true
    · rw [if_pos h2]
      obtain ⟨g, _, hg⟩ := List.any_eq_true.1 h2
      exact Or.inr (Or.inl ⟨rfl, no, g, (goodB_iff p g _ _ hmay rfl rfl).1 hg⟩)
    · rw [if_neg h2]
      refine Or.inr (Or.inr ⟨rfl, ?_⟩)
      rintro ⟨g, hg⟩
      exact h2 (List.any_eq_true.2 ⟨g, full g hg.right, (goodB_iff p g _ _ hmay rfl rfl).2 hg⟩)

/-- An answer that holds is of the document's kind. -/
theorem holds_kindN (p : Lp) (a : Ans) (h : holds p a = true) : a.kind = kindN p := by
  cases hmay : p.may with
  | false => rw [holds_no p a hmay] at h; exact absurd h (by decide)
  | true => exact kind_one p _ _ _ _ (holds_kind p a _ _ rfl rfl h) (kindN_is p hmay)

end Num
end Go.Proofs.YtloncgmgcnaalaaGreat

/- The columns behind these, step by step: in plain numbers. -/
namespace Go.Proofs.YtloncgmgcnaalaaGreat
namespace Num

theorem same_at (a b : List Int) (hl : a.length = b.length) (h : ∀ j, j < a.length → a[j]?.getD 0 = b[j]?.getD 0) : a = b := by
  apply List.ext_getElem hl
  intro i h1 h2
  have := h i h1
  rw [List.getElem?_eq_getElem h1, List.getElem?_eq_getElem h2] at this
  exact this

/-- The columns while those behind k are laid: up to i. -/
def bumpTo (at' : List Int) (k i : Nat) : List Int := (List.range at'.length).map fun q => if q < k then at'[q]?.getD 0 else if q < i then at'[k]?.getD 0 + 1 + ((q - k : Nat) : Int) else at'[q]?.getD 0

theorem bumpTo_len (at' : List Int) (k i : Nat) : (bumpTo at' k i).length = at'.length := by simp [bumpTo]

theorem bumpTo_at (at' : List Int) (k i q : Nat) (hq : q < at'.length) : (bumpTo at' k i)[q]?.getD 0 = if q < k then at'[q]?.getD 0 else if q < i then at'[k]?.getD 0 + 1 + ((q - k : Nat) : Int) else at'[q]?.getD 0 := by
  unfold bumpTo; rw [range_getD, if_pos hq]

theorem set_at (l : List Int) (k j : Nat) (v : Int) (hk : k < l.length) : (l.set k v)[j]?.getD 0 = if j = k then v else l[j]?.getD 0 := by
  rw [List.getElem?_set]
  by_cases h : k = j
  · subst h; rw [if_pos rfl, if_pos hk, if_pos rfl]; rfl
  · rw [if_neg h, if_neg (fun e => h e.symm)]

theorem bump_start (at' : List Int) (k : Nat) (hk : k < at'.length) : at'.set k (at'[k]?.getD 0 + 1) = bumpTo at' k (k + 1) := by
  refine same_at _ _ (by rw [bumpTo_len, List.length_set]) fun j hj => ?_
  rw [List.length_set] at hj
  rw [bumpTo_at at' k (k + 1) j hj, set_at _ _ _ _ hk]
  by_cases h1 : j = k
  · subst h1; rw [if_pos rfl, if_neg (by omega), if_pos (by omega)]; simp
  · rw [if_neg h1]
    by_cases h2 : j < k
    · rw [if_pos h2]
    · rw [if_neg h2, if_neg (by omega)]

theorem bump_step (at' : List Int) (k i : Nat) (hki : k + 1 ≤ i) (hi : i < at'.length) : (bumpTo at' k i).set i ((bumpTo at' k i)[i - 1]?.getD 0 + 1) = bumpTo at' k (i + 1) := by
  refine same_at _ _ (by rw [List.length_set, bumpTo_len, bumpTo_len]) fun j hj => ?_
  rw [List.length_set, bumpTo_len] at hj
  rw [set_at _ _ _ _ (by rw [bumpTo_len]; exact hi), bumpTo_at at' k (i + 1) j hj, bumpTo_at at' k i j hj, bumpTo_at at' k i (i - 1) (by omega)]
  by_cases h1 : j = i
  · subst h1; rw [if_pos rfl, if_neg (by omega), if_pos (by omega), if_neg (by omega), if_pos (by omega)]; omega
  · rw [if_neg h1]
    by_cases h2 : j < k
    · rw [if_pos h2, if_pos h2]
    · rw [if_neg h2, if_neg h2]
      by_cases h3 : j < i
      · rw [if_pos h3, if_pos (by omega)]
      · rw [if_neg h3, if_neg (by omega)]

theorem bump_end (at' : List Int) (k : Nat) : bumpTo at' k at'.length = bumpL at' k := by
  unfold bumpTo bumpL
  refine List.map_congr_left fun q hq => ?_
  rw [List.mem_range] at hq
  rw [if_pos hq]

theorem bumpTo_bd (at' : List Int) (k i : Nat) (h : ∀ j : Nat, 0 ≤ at'[j]?.getD 0 ∧ at'[j]?.getD 0 ≤ 8) (h4 : at'.length ≤ 4) (j : Nat) : 0 ≤ (bumpTo at' k i)[j]?.getD 0 ∧ (bumpTo at' k i)[j]?.getD 0 ≤ 20 := by
  by_cases hj : j < at'.length
  · rw [bumpTo_at at' k i j hj]
    have h1 := h j
    have h2 := h k
    split
    · omega
    · split <;> omega
  · rw [List.getElem?_eq_none (by rw [bumpTo_len]; omega)]; simp

end Num
end Go.Proofs.YtloncgmgcnaalaaGreat
