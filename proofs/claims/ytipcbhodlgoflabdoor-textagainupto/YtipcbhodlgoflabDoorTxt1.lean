/- Programs as text, in plain bytes: lines and words; a program's text is read as it, and what is read is its text. -/
import Derived.Test.YtipcbhodlgoflabDoorTxt0
namespace Go.Proofs.YtipcbhodlgoflabDoor
namespace Num

/-- A text's parts between bytes. -/
def splitW (c : UInt8) : List UInt8 → List (List UInt8)
  | [] => [[]]
  | x :: s => if x = c then [] :: splitW c s else match splitW c s with
    | [] => [[x]]
    | w :: r => (x :: w) :: r

/-- Parts with a byte between two. -/
def joinW (c : UInt8) : List (List UInt8) → List UInt8
  | [] => []
  | [w] => w
  | w :: v :: r => w ++ c :: joinW c (v :: r)

theorem split_ne (c : UInt8) (s : List UInt8) : splitW c s ≠ [] := by
  cases s with
  | nil => simp [splitW]
  | cons x s =>
    unfold splitW
    split
    · simp
    · split <;> simp

theorem join_split (c : UInt8) (s : List UInt8) : joinW c (splitW c s) = s := by
  induction s with
  | nil => rfl
  | cons x s ih =>
    unfold splitW
    by_cases h : x = c
    · rw [if_pos h]
      cases hs : splitW c s with
      | nil => exact absurd hs (split_ne c s)
      | cons w r =>
        show [] ++ c :: joinW c (w :: r) = x :: s
        rw [← hs, ih, h]; rfl
    · rw [if_neg h]
      cases hs : splitW c s with
      | nil => exact absurd hs (split_ne c s)
      | cons w r =>
        rw [hs] at ih
        show joinW c ((x :: w) :: r) = x :: s
        cases r with
        | nil =>
          show x :: w = x :: s
          rw [show w = s from ih]
        | cons v r =>
          show (x :: w) ++ c :: joinW c (v :: r) = x :: s
          rw [List.cons_append]
          rw [show w ++ c :: joinW c (v :: r) = s from ih]

theorem split_word (c : UInt8) (w : List UInt8) (h : c ∉ w) : splitW c w = [w] := by
  induction w with
  | nil => rfl
  | cons x w ih =>
    unfold splitW
    rw [if_neg (fun e => h (by rw [e]; simp)), ih (fun e => h (by simp [e]))]

theorem split_more (c : UInt8) (w s : List UInt8) (h : c ∉ w) : splitW c (w ++ c :: s) = w :: splitW c s := by
  induction w with
  | nil =>
    show splitW c (c :: s) = _
    rw [splitW, if_pos rfl]
  | cons x w ih =>
    show splitW c (x :: (w ++ c :: s)) = _
    rw [splitW, if_neg (fun e => h (by rw [e]; simp)), ih (fun e => h (by simp [e]))]

theorem split_join (c : UInt8) : ∀ ls : List (List UInt8), ls ≠ [] → (∀ w ∈ ls, c ∉ w) → splitW c (joinW c ls) = ls := by
  intro ls
  induction ls with
  | nil => intro h; exact absurd rfl h
  | cons w r ih =>
    intro _ h
    cases r with
    | nil => exact split_word c w (h w (by simp))
    | cons v r =>
      show splitW c (w ++ c :: joinW c (v :: r)) = _
      rw [split_more c w _ (h w (by simp)), ih (by simp) (fun x hx => h x (by simp only [List.mem_cons] at hx ⊢; exact Or.inr hx))]

/-- The words `most` and `<=`. -/
def mostW : List UInt8 := [109, 111, 115, 116]
def leW : List UInt8 := [60, 61]

def headW (c : List Int) : List (List UInt8) := mostW :: c.map digI
def rowW (r : List Int × Int) : List (List UInt8) := r.1.map digI ++ [leW, digI r.2]

/-- I1: the lines of a program's text, and what is behind the last one. -/
def linesW (p : Lp) : List (List UInt8) := joinW 32 (headW p.costs) :: (p.rows.map fun r => joinW 32 (rowW r)) ++ [[]]
def textW (p : Lp) : List UInt8 := joinW 10 (linesW p)

/-- Words that are numbers. -/
def numsW : List (List UInt8) → Option (List Int)
  | [] => some []
  | w :: r => match numW w, numsW r with
    | some n, some l => some (n :: l)
    | _, _ => none

theorem nums_dig : ∀ l : List Int, (∀ n ∈ l, -999999 ≤ n ∧ n ≤ 999999) → numsW (l.map digI) = some l := by
  intro l
  induction l with
  | nil => intro _; rfl
  | cons n l ih =>
    intro h
    rw [List.map_cons, numsW, numW_dig n (h n (by simp)), ih (fun x hx => h x (by simp [hx]))]

theorem dig_nums : ∀ (w : List (List UInt8)) (l : List Int), numsW w = some l → w = l.map digI := by
  intro w
  induction w with
  | nil => intro l h; rw [← Option.some.inj h]; rfl
  | cons x w ih =>
    intro l h
    rw [numsW] at h
    cases h1 : numW x with
    | none => rw [h1] at h; cases h
    | some n =>
      cases h2 : numsW w with
      | none => rw [h1, h2] at h; cases h
      | some r =>
        rw [h1, h2] at h
        have e : n :: r = l := Option.some.inj h
        rw [← e, List.map_cons, (dig_numW x n h1).1, ih r h2]

/-- The first line, and another one. -/
def headP (l : List UInt8) : Option (List Int) :=
  match splitW 32 l with
  | [] => none
  | w :: r => if w = mostW then numsW r else none

def rowP (l : List UInt8) : Option (List Int × Int) :=
  if (splitW 32 l).length < 2 ∨ (splitW 32 l)[(splitW 32 l).length - 2]?.getD [] ≠ leW then none
  else match numsW ((splitW 32 l).take ((splitW 32 l).length - 2)), numW ((splitW 32 l)[(splitW 32 l).length - 1]?.getD []) with
    | some o, some m => some (o, m)
    | _, _ => none

/-- I2: what is read; or the number of the line that is none. -/
def readGo (k : Nat) (p : Lp) : List (List UInt8) → Except Nat Lp
  | [] => .error k
  | [w] => if w = [] ∧ p.may = true then .ok p else .error k
  | w :: v :: r => if k = 0 then match headP w with
      | none => .error k
      | some c => readGo (k + 1) ⟨c, p.rows⟩ (v :: r)
    else match rowP w with
      | none => .error k
      | some q => readGo (k + 1) ⟨p.costs, p.rows ++ [q]⟩ (v :: r)

def readW (s : List UInt8) : Except Nat Lp := readGo 0 ⟨[], []⟩ (splitW 10 s)

theorem dig_byte (n : Int) (c : UInt8) (h : c ∈ digI n) : c = 45 ∨ isDig c = true := by
  unfold digI at h
  split at h
  · rcases List.mem_cons.1 h with h | h
    · exact Or.inl h
    · exact Or.inr (digN_dig _ c h)
  · exact Or.inr (digN_dig _ c h)

theorem dig_no32 (n : Int) : (32 : UInt8) ∉ digI n := fun h => by
  rcases dig_byte n 32 h with h | h
  · exact absurd h (by decide)
  · exact absurd h (by decide)

theorem dig_no10 (n : Int) : (10 : UInt8) ∉ digI n := fun h => by
  rcases dig_byte n 10 h with h | h
  · exact absurd h (by decide)
  · exact absurd h (by decide)

theorem join_no (c d : UInt8) (hcd : d ≠ c) : ∀ ls : List (List UInt8), (∀ w ∈ ls, d ∉ w) → d ∉ joinW c ls := by
  intro ls
  induction ls with
  | nil => intro _ h; cases h
  | cons w r ih =>
    intro h
    cases r with
    | nil => exact h w (by simp)
    | cons v r =>
      show d ∉ w ++ c :: joinW c (v :: r)
      intro hm
      rcases List.mem_append.1 hm with hm | hm
      · exact h w (by simp) hm
      · rcases List.mem_cons.1 hm with hm | hm
        · exact hcd hm
        · exact ih (fun x hx => h x (by simp only [List.mem_cons] at hx ⊢; exact Or.inr hx)) hm

theorem head_words (c : List Int) (d : UInt8) (hd : d ∉ mostW) (hn : ∀ n, d ∉ digI n) : ∀ w ∈ headW c, d ∉ w := by
  intro w hw
  rcases List.mem_cons.1 hw with hw | hw
  · rw [hw]; exact hd
  · obtain ⟨n, _, rfl⟩ := List.mem_map.1 hw
    exact hn n

theorem row_words (r : List Int × Int) (d : UInt8) (hd : d ∉ leW) (hn : ∀ n, d ∉ digI n) : ∀ w ∈ rowW r, d ∉ w := by
  intro w hw
  rcases List.mem_append.1 hw with hw | hw
  · obtain ⟨n, _, rfl⟩ := List.mem_map.1 hw
    exact hn n
  · rcases List.mem_cons.1 hw with hw | hw
    · rw [hw]; exact hd
    · rw [List.mem_singleton.1 hw]; exact hn r.2

theorem head_back (c : List Int) (h : ∀ n ∈ c, -999999 ≤ n ∧ n ≤ 999999) : headP (joinW 32 (headW c)) = some c := by
  unfold headP
  rw [split_join 32 _ (by simp [headW]) (head_words c 32 (by decide) dig_no32)]
  show (if mostW = mostW then numsW (c.map digI) else none) = some c
  rw [if_pos rfl, nums_dig c h]

theorem head_again (l : List UInt8) (c : List Int) (h : headP l = some c) : l = joinW 32 (headW c) := by
  unfold headP at h
  rw [← join_split 32 l]
  cases hs : splitW 32 l with
  | nil => rw [hs] at h; cases h
  | cons w r =>
    rw [hs] at h
    change (if w = mostW then numsW r else none) = some c at h
    by_cases hw : w = mostW
    · rw [if_pos hw] at h
      rw [hw, dig_nums r c h]; rfl
    · rw [if_neg hw] at h; cases h

theorem row_back (r : List Int × Int) (h : ∀ n ∈ r.1, -999999 ≤ n ∧ n ≤ 999999) (h2 : -999999 ≤ r.2 ∧ r.2 ≤ 999999) : rowP (joinW 32 (rowW r)) = some r := by
  unfold rowP
  rw [split_join 32 _ (by simp [rowW]) (row_words r 32 (by decide) dig_no32)]
  have hl : (rowW r).length = r.1.length + 2 := by simp [rowW]
  rw [hl, if_neg]
  · have e1 : (rowW r).take (r.1.length + 2 - 2) = r.1.map digI := by
      unfold rowW
      rw [List.take_append_of_le_length (by simp)]
      exact List.take_of_length_le (by simp)
    have e2 : (rowW r)[r.1.length + 2 - 1]?.getD [] = digI r.2 := by
      unfold rowW
      rw [List.getElem?_append_right (by simp)]
      simp
    rw [e1, e2, nums_dig r.1 h, numW_dig r.2 h2]
  · rintro (h | h)
    · omega
    · refine h ?_
      unfold rowW
      rw [List.getElem?_append_right (by simp)]
      simp

theorem row_again (l : List UInt8) (r : List Int × Int) (h : rowP l = some r) : l = joinW 32 (rowW r) := by
  unfold rowP at h
  rw [← join_split 32 l]
  generalize splitW 32 l = w at *
  by_cases hc : w.length < 2 ∨ w[w.length - 2]?.getD [] ≠ leW
  · rw [if_pos hc] at h; cases h
  · rw [if_neg hc] at h
    cases h1 : numsW (w.take (w.length - 2)) with
    | none => rw [h1] at h; cases h
    | some o =>
      cases h2 : numW (w[w.length - 1]?.getD []) with
      | none => rw [h1, h2] at h; cases h
      | some k =>
        rw [h1, h2] at h
        have e : (o, k) = r := Option.some.inj h
        subst e
        have hlen : ¬ w.length < 2 := fun h => hc (Or.inl h)
        have hle : w[w.length - 2]?.getD [] = leW := Classical.byContradiction fun h => hc (Or.inr h)
        have hw : w = rowW (o, k) := by
          have d1 := dig_nums _ _ h1
          have d2 := (dig_numW _ _ h2).1
          have e0 : w = w.take (w.length - 2) ++ w.drop (w.length - 2) := (List.take_append_drop _ _).symm
          have e1 : w.drop (w.length - 2) = [w[w.length - 2]?.getD [], w[w.length - 1]?.getD []] := by
            apply List.ext_getElem
            · simp; omega
            · intro i g1 g2
              simp only [List.length_cons, List.length_nil] at g2
              rw [List.getElem_drop]
              match i, g2 with
              | 0, _ => simp only [Nat.add_zero, List.getElem_cons_zero]; rw [List.getElem?_eq_getElem (by omega)]; rfl
              | 1, _ =>
                simp only [List.getElem_cons_succ, List.getElem_cons_zero]
                rw [List.getElem?_eq_getElem (by omega), Option.getD_some]
                congr 1
                omega
          rw [e1, hle, d1, ← d2] at e0
          exact e0
        rw [← hw]

/-- A program's rows are read as they are. -/
theorem rows_back : ∀ (rs : List (List Int × Int)) (k : Nat) (q : Lp), k ≠ 0 → (∀ r ∈ rs, (∀ n ∈ r.1, -999999 ≤ n ∧ n ≤ 999999) ∧ -999999 ≤ r.2 ∧ r.2 ≤ 999999) → (Lp.mk q.costs (q.rows ++ rs)).may = true →
    readGo k q ((rs.map fun r => joinW 32 (rowW r)) ++ [[]]) = .ok ⟨q.costs, q.rows ++ rs⟩ := by
  intro rs
  induction rs with
  | nil =>
    intro k q hk _ hm
    rw [List.append_nil] at hm ⊢
    show (if ([] : List UInt8) = [] ∧ q.may = true then Except.ok q else Except.error k) = _
    rw [if_pos ⟨rfl, hm⟩]
  | cons r rs ih =>
    intro k q hk hb hm
    have hr := hb r (by simp)
    obtain ⟨v, rest, hv⟩ : ∃ v rest, (rs.map fun r => joinW 32 (rowW r)) ++ [[]] = v :: rest := by
      cases hx : (rs.map fun r => joinW 32 (rowW r)) ++ [[]] with
      | nil => simp at hx
      | cons v rest => exact ⟨v, rest, rfl⟩
    rw [List.map_cons, List.cons_append, hv, readGo, if_neg hk, row_back r hr.1 hr.2]
    show readGo (k + 1) ⟨q.costs, q.rows ++ [r]⟩ (v :: rest) = _
    rw [← hv]
    have e : q.rows ++ [r] ++ rs = q.rows ++ r :: rs := by simp
    have := ih (k + 1) ⟨q.costs, q.rows ++ [r]⟩ (by omega) (fun x hx => hb x (by simp [hx])) (by rw [e]; exact hm)
    rw [this, e]

/-- THE TEXT IS READ AS THE PROGRAM (TextBack). -/
theorem text_back (p : Lp) (h : p.may = true) : readW (textW p) = .ok p := by
  obtain ⟨h1, h2, h3, h4⟩ := p.may_of h
  have hc : ∀ n ∈ p.costs, -999999 ≤ n ∧ n ≤ 999999 := fun n hn => by
    unfold withinB at h2
    have := List.all_eq_true.1 h2 n hn
    simp only [Bool.and_eq_true, decide_eq_true_eq] at this
    omega
  have hr : ∀ r ∈ p.rows, (∀ n ∈ r.1, -999999 ≤ n ∧ n ≤ 999999) ∧ -999999 ≤ r.2 ∧ r.2 ≤ 999999 := fun r hr => by
    have := List.all_eq_true.1 h4 r hr
    unfold rowB at this
    simp only [Bool.and_eq_true] at this
    refine ⟨fun n hn => ?_, ?_⟩
    · have w := this.1.2
      unfold withinB at w
      have := List.all_eq_true.1 w n hn
      simp only [Bool.and_eq_true, decide_eq_true_eq] at this
      omega
    · have w := this.2
      rw [withinB_one] at w
      simp only [Bool.and_eq_true, decide_eq_true_eq] at w
      omega
  unfold readW textW
  rw [split_join 10 _ (by simp [linesW]) (fun w hw => ?_)]
  · unfold linesW
    obtain ⟨v, rest, hv⟩ : ∃ v rest, (p.rows.map fun r => joinW 32 (rowW r)) ++ [[]] = v :: rest := by
      cases hx : (p.rows.map fun r => joinW 32 (rowW r)) ++ [[]] with
      | nil => simp at hx
      | cons v rest => exact ⟨v, rest, rfl⟩
    rw [List.cons_append, hv, readGo, if_pos rfl, head_back p.costs hc]
    show readGo (0 + 1) ⟨p.costs, []⟩ (v :: rest) = _
    rw [← hv]
    exact rows_back p.rows 1 ⟨p.costs, []⟩ (by omega) hr h
  · unfold linesW at hw
    rcases List.mem_append.1 hw with hw | hw
    · rcases List.mem_cons.1 hw with hw | hw
      · rw [hw]; exact join_no 32 10 (by decide) _ (head_words p.costs 10 (by decide) dig_no10)
      · obtain ⟨r, _, rfl⟩ := List.mem_map.1 hw
        exact join_no 32 10 (by decide) _ (row_words r 10 (by decide) dig_no10)
    · rw [List.mem_singleton.1 hw]; simp

theorem rows_again : ∀ (ls : List (List UInt8)) (k : Nat) (q p : Lp), k ≠ 0 → readGo k q ls = .ok p → p.may = true ∧ p.costs = q.costs ∧ ∃ rs, p.rows = q.rows ++ rs ∧ ls = (rs.map fun r => joinW 32 (rowW r)) ++ [[]] := by
  intro ls
  induction ls with
  | nil => intro k q p _ h; cases h
  | cons w r ih =>
    intro k q p hk h
    cases r with
    | nil =>
      change (if w = [] ∧ q.may = true then Except.ok q else Except.error k) = Except.ok p at h
      by_cases hc : w = [] ∧ q.may = true
      · rw [if_pos hc] at h
        have e : q = p := Except.ok.inj h
        subst e
        exact ⟨hc.2, rfl, [], by simp, by rw [hc.1]; rfl⟩
      · rw [if_neg hc] at h; cases h
    | cons v r =>
      rw [readGo, if_neg hk] at h
      cases hr : rowP w with
      | none => rw [hr] at h; cases h
      | some x =>
        rw [hr] at h
        obtain ⟨e0, e1, rs, e2, e3⟩ := ih (k + 1) _ p (by omega) h
        refine ⟨e0, e1, x :: rs, by rw [e2]; simp, ?_⟩
        rw [e3, List.map_cons, List.cons_append, row_again w x hr]

/-- WHAT IS READ HAS JUST THIS TEXT (TextAgain). -/
theorem text_again (s : List UInt8) (p : Lp) (h : readW s = .ok p) : p.may = true ∧ textW p = s := by
  unfold readW at h
  unfold textW
  have key : splitW 10 s = linesW p ∧ p.may = true := by
    generalize splitW 10 s = ls at *
    cases ls with
    | nil => cases h
    | cons w r =>
      cases r with
      | nil =>
        change (if w = [] ∧ (Lp.mk [] []).may = true then Except.ok (Lp.mk [] []) else Except.error 0) = Except.ok p at h
        rw [if_neg (fun h => absurd h.2 (by decide))] at h
        cases h
      | cons v r =>
        rw [readGo, if_pos rfl] at h
        cases hh : headP w with
        | none => rw [hh] at h; cases h
        | some c =>
          rw [hh] at h
          obtain ⟨e0, e1, rs, e2, e3⟩ := rows_again (v :: r) (0 + 1) ⟨c, []⟩ p (by omega) h
          refine ⟨?_, e0⟩
          unfold linesW
          rw [e3, e1, e2, head_again w c hh]
          rfl
  exact ⟨key.2, by rw [← key.1, join_split]⟩

end Num
end Go.Proofs.YtipcbhodlgoflabDoor
