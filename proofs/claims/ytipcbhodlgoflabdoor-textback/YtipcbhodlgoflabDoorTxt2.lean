/- Programs as text, in plain bytes: the library's words (itoa, parseIntB, cut) against ours; how the program reads numbers, a first line and a row. -/
import Derived.Test.YtipcbhodlgoflabDoorTxt1
import Derived.Lib.ItoaNum
import Derived.Lib.ParseIntBTie
import Derived.Lib.AtoiTie
import Derived.Lib.IndexMore
import Derived.Lib.Join
namespace Go.Proofs.YtipcbhodlgoflabDoor
namespace Num

theorem decDigits_digN (n : Nat) : Lib.decDigits n = digN n := by
  induction n using Nat.strongRecOn with
  | ind n ih =>
    rw [Lib.decDigits, digN]
    by_cases h : n < 10
    · rw [dif_pos h, if_pos h]
    · rw [dif_neg h, if_neg h, ih (n / 10) (by omega)]

theorem itoa_dig (n : Int) : Lib.itoa n = digI n := by
  unfold Lib.itoa digI
  split
  · rw [decDigits_digN]
  · rw [decDigits_digN]
    congr 1
    omega

theorem dec_dig : ∀ (l : List UInt8), (∀ c ∈ l, isDig c = true) → ∀ a, Lib.decFrom a l = some (l.foldl (fun a c => 10 * a + (c.toNat - 48)) a) := by
  intro l
  induction l with
  | nil => intro _ a; rfl
  | cons c l ih =>
    intro h a
    have hc := h c (by simp)
    unfold isDig at hc
    simp only [Bool.and_eq_true, decide_eq_true_eq] at hc
    rw [Lib.decFrom, Lib.digitVal, if_pos hc]
    show Lib.decFrom (a * 10 + (c.toNat - 48)) l = _
    rw [ih (fun x hx => h x (by simp [hx]))]
    rw [List.foldl_cons, Nat.mul_comm]

theorem decNat_dig (n : Nat) : Lib.decNat (digN n) = some n := by
  unfold Lib.decNat
  rw [if_neg (by have := digN_ne n; simpa using this), dec_dig _ (digN_dig n)]
  exact congrArg some (digN_val n)

theorem parse_dig (n : Int) (h : -999999 ≤ n ∧ n ≤ 999999) : Lib.parseIntB 64 (digI n) = .ok n := by
  have hl : (digN n.natAbs).length ≤ 6 := digN_len 5 n.natAbs (by omega)
  rw [Lib.parseIntB_64]
  unfold digI
  by_cases hn : n < 0
  · rw [if_pos hn, Lib.atoiAll_short _ (by rw [List.length_cons]; omega)]
    show Lib.NumEnd.ofOption ((Lib.decNat (digN n.natAbs)).map fun (m : Nat) => -(m : Int)) = _
    rw [decNat_dig]
    show Lib.NumEnd.ok (-(n.natAbs : Int)) = _
    congr 1
    omega
  · rw [if_neg hn, Lib.atoiAll_short _ (by omega)]
    have e : Lib.atoi (digN n.natAbs) = some (n.natAbs : Int) := by
      have hd := digN_dig n.natAbs
      have hv := decNat_dig n.natAbs
      cases hs : digN n.natAbs with
      | nil => exact absurd hs (digN_ne _)
      | cons c r =>
        rw [hs] at hd hv
        have hc := hd c (by simp)
        unfold isDig at hc
        simp only [Bool.and_eq_true, decide_eq_true_eq] at hc
        have h45 : ¬ (c == 45) = true := fun e => by
          have e := eq_of_beq e
          subst e
          exact absurd hc.1 (by decide)
        have h43 : ¬ (c == 43) = true := fun e => by
          have e := eq_of_beq e
          subst e
          exact absurd hc.1 (by decide)
        show (if (c == 45) = true then (Lib.decNat r).map (fun (m : Nat) => -(m : Int)) else if (c == 43) = true then (Lib.decNat r).map (fun (m : Nat) => (m : Int)) else (Lib.decNat (c :: r)).map fun (m : Nat) => (m : Int)) = _
        rw [if_neg h45, if_neg h43, hv]
        rfl
    rw [e]
    show Lib.NumEnd.ok (n.natAbs : Int) = _
    congr 1
    omega

/-- How the program reads a word: the library's number, if it is within 999999 and its own digits are the word. -/
def rdW (w : List UInt8) : Option Int :=
  match Lib.parseIntB 64 w with
  | .ok n => if (-999999 ≤ n ∧ n ≤ 999999) ∧ digI n = w then some n else none
  | _ => none

theorem rd_num (w : List UInt8) : rdW w = numW w := by
  unfold rdW
  cases hw : numW w with
  | some n =>
    obtain ⟨e, hb⟩ := dig_numW w n hw
    rw [← e, parse_dig n hb]
    show (if _ then _ else _) = _
    rw [if_pos ⟨hb, rfl⟩]
  | none =>
    cases hp : Lib.parseIntB 64 w with
    | ok n =>
      show (if _ then _ else _) = _
      rw [if_neg]
      rintro ⟨hb, e⟩
      have := numW_dig n hb
      rw [e, hw] at this
      cases this
    | «syntax» => rfl
    | range => rfl

theorem occ_cons (s : List UInt8) (c : UInt8) (t : List UInt8) (i : Nat) (h : Lib.occAt s (c :: t) i = true) : s[i]? = some c := by
  unfold Lib.occAt at h
  rw [List.isPrefixOf_iff_prefix] at h
  obtain ⟨r, hr⟩ := h
  have : (s.drop i)[0]? = some c := by rw [← hr]; rfl
  rw [List.getElem?_drop] at this
  simpa using this

/-- strings.Cut at one byte. -/
theorem cut_no (c : UInt8) (s : List UInt8) (h : c ∉ s) : Lib.cut s [c] = (s, [], false) := by
  have e : Lib.index s [c] = -1 := Lib.index_none fun j hj => by
    rw [Bool.eq_false_iff]
    intro ho
    have := occ_cons s c [] j ho
    exact h (List.mem_of_getElem? this)
  unfold Lib.cut
  rw [e, if_neg (by omega)]

theorem cut_yes (c : UInt8) (a b : List UInt8) (h : c ∉ a) : Lib.cut (a ++ c :: b) [c] = (a, b, true) := by
  have e : Lib.index (a ++ c :: b) [c] = a.length := Lib.index_first (by simp) (by
      unfold Lib.occAt
      rw [List.drop_left]
      simp) fun j hj => by
    rw [Bool.eq_false_iff]
    intro ho
    have := occ_cons _ c [] j ho
    rw [List.getElem?_append_left hj] at this
    exact h (List.mem_of_getElem? this)
  unfold Lib.cut
  rw [e, if_pos (by omega)]
  simp only [Int.toNat_natCast, List.length_cons, List.length_nil]
  refine Prod.ext ?_ (Prod.ext ?_ rfl)
  · show List.take a.length (a ++ c :: b) = a
    rw [List.take_left]
  · show List.drop (a.length + (0 + 1)) (a ++ c :: b) = b
    rw [← List.drop_drop, List.drop_left]
    rfl

/-- Each text has a byte, or has it first somewhere. -/
theorem byte_first (c : UInt8) : ∀ s : List UInt8, c ∉ s ∨ ∃ a b, s = a ++ c :: b ∧ c ∉ a := by
  intro s
  induction s with
  | nil => exact Or.inl (by simp)
  | cons x s ih =>
    by_cases hx : x = c
    · exact Or.inr ⟨[], s, by rw [hx]; rfl, by simp⟩
    · rcases ih with h | ⟨a, b, e, h⟩
      · refine Or.inl fun hm => ?_
        rcases List.mem_cons.1 hm with hm | hm
        · exact hx hm.symm
        · exact h hm
      · refine Or.inr ⟨x :: a, b, by rw [e]; rfl, fun hm => ?_⟩
        rcases List.mem_cons.1 hm with hm | hm
        · exact hx hm.symm
        · exact h hm

/-- The numbers of a text, each with a blank ahead. -/
def rdNums : List UInt8 → Option (List Int)
  | [] => some []
  | c :: t => if c = 32 then numsW (splitW 32 t) else none

theorem nums_cons (w : List UInt8) (r : List (List UInt8)) : numsW (w :: r) = (numW w).bind fun n => (numsW r).map (n :: ·) := by
  rw [numsW]
  cases numW w with
  | none => rfl
  | some n => cases numsW r <;> rfl

/-- One number off: the word up to the next blank, and the rest. -/
theorem rd_step (t : List UInt8) : rdNums (32 :: t) = (numW (Lib.cut t [32]).1).bind fun n => (rdNums (t.drop (Lib.cut t [32]).1.length)).map (n :: ·) := by
  show (if (32 : UInt8) = 32 then numsW (splitW 32 t) else none) = _
  rw [if_pos rfl]
  rcases byte_first 32 t with h | ⟨a, b, rfl, h⟩
  · rw [cut_no 32 t h, split_word 32 t h, nums_cons]
    rw [show t.drop t.length = [] from List.drop_length]
    rfl
  · rw [cut_yes 32 a b h, split_more 32 a b h, nums_cons]
    rw [show (a ++ 32 :: b).drop a.length = 32 :: b from List.drop_left]
    rfl

theorem rd_bad (c : UInt8) (t : List UInt8) (h : c ≠ 32) : rdNums (c :: t) = none := by
  show (if c = 32 then _ else _) = _
  rw [if_neg h]

/-- A first line. -/
def headQ (l : List UInt8) : Option (List Int) := if mostW.isPrefixOf l = true then rdNums (l.drop 4) else none

theorem most_no : (32 : UInt8) ∉ mostW := by decide

theorem head_q (l : List UInt8) : headQ l = headP l := by
  unfold headQ
  by_cases h : mostW.isPrefixOf l = true
  · rw [if_pos h]
    rw [List.isPrefixOf_iff_prefix] at h
    obtain ⟨t, rfl⟩ := h
    rw [show (mostW ++ t).drop 4 = t from rfl]
    unfold headP
    cases t with
    | nil =>
      rw [List.append_nil, split_word 32 mostW most_no]
      rfl
    | cons c t =>
      by_cases hc : c = 32
      · subst hc
        rw [split_more 32 mostW t most_no]
        rfl
      · rw [rd_bad c t hc]
        rcases byte_first 32 (mostW ++ c :: t) with hs | ⟨a, b, e, hs⟩
        · rw [split_word 32 _ hs]
          show none = (if mostW ++ c :: t = mostW then _ else _)
          rw [if_neg]
          intro e
          have := congrArg List.length e
          simp [mostW] at this
        · rw [e, split_more 32 a b hs]
          show none = (if a = mostW then _ else _)
          rw [if_neg]
          rintro rfl
          have := congrArg (fun l => l.drop 4) e
          change c :: t = 32 :: b at this
          exact hc (by injection this)
  · rw [if_neg h]
    unfold headP
    rcases byte_first 32 l with hs | ⟨a, b, rfl, hs⟩
    · rw [split_word 32 _ hs]
      show none = (if l = mostW then _ else _)
      rw [if_neg]
      rintro rfl
      exact h (by decide)
    · rw [split_more 32 a b hs]
      show none = (if a = mostW then _ else _)
      rw [if_neg]
      rintro rfl
      refine h ?_
      rw [List.isPrefixOf_iff_prefix]
      exact ⟨_, rfl⟩

/-- What is between in a row, with its blanks. -/
def sepW : List UInt8 := [32, 60, 61, 32]

/-- A row. -/
def rowQ (l : List UInt8) : Option (List Int × Int) :=
  if (Lib.cut (32 :: l) sepW).2.2 = true then (rdNums (Lib.cut (32 :: l) sepW).1).bind fun o => (numW (Lib.cut (32 :: l) sepW).2.1).map fun m => (o, m) else none

/-- Numbers, each with a blank ahead. -/
def flatW (o : List Int) : List UInt8 := (o.map fun n => 32 :: digI n).flatten

theorem flat_cons (n : Int) (o : List Int) : flatW (n :: o) = 32 :: (digI n ++ flatW o) := rfl

theorem rd_flat : ∀ (o : List Int), (∀ n ∈ o, -999999 ≤ n ∧ n ≤ 999999) → rdNums (flatW o) = some o := by
  intro o
  induction o with
  | nil => intro _; rfl
  | cons n o ih =>
    intro h
    have ih := ih (fun x hx => h x (by simp [hx]))
    rw [flat_cons, rd_step]
    have e : (Lib.cut (digI n ++ flatW o) [32]).1 = digI n := by
      cases o with
      | nil =>
        show (Lib.cut (digI n ++ []) [32]).1 = _
        rw [List.append_nil, cut_no 32 _ (dig_no32 n)]
      | cons m o => rw [flat_cons, cut_yes 32 _ _ (dig_no32 n)]
    rw [e, List.drop_left, ih, numW_dig n (h n (by simp))]
    rfl

theorem flat_rd : ∀ (k : Nat) (s : List UInt8) (o : List Int), s.length ≤ k → rdNums s = some o → s = flatW o := by
  intro k
  induction k with
  | zero =>
    intro s o hk h
    have : s = [] := List.length_eq_zero_iff.1 (by omega)
    subst this
    rw [← Option.some.inj h]
    rfl
  | succ k ih =>
    intro s o hk h
    cases s with
    | nil => rw [← Option.some.inj h]; rfl
    | cons c t =>
      by_cases hc : c = 32
      · subst hc
        rw [rd_step] at h
        cases h1 : numW (Lib.cut t [32]).1 with
        | none => rw [h1] at h; cases h
        | some n =>
          cases h2 : rdNums (t.drop (Lib.cut t [32]).1.length) with
          | none => rw [h1, h2] at h; cases h
          | some r =>
            rw [h1, h2] at h
            have e : n :: r = o := Option.some.inj h
            subst e
            rw [List.length_cons] at hk
            have e2 := ih _ r (by rw [List.length_drop]; omega) h2
            have e1 := (dig_numW _ n h1).1
            rw [flat_cons, e1, ← e2]
            congr 1
            rcases byte_first 32 t with h | ⟨a, b, rfl, h⟩
            · rw [cut_no 32 t h, List.drop_length, List.append_nil]
            · rw [cut_yes 32 a b h, List.drop_left]
      · rw [rd_bad c t hc] at h; cases h

theorem rd_within (s : List UInt8) (o : List Int) (h : rdNums s = some o) : ∀ n ∈ o, -999999 ≤ n ∧ n ≤ 999999 := by
  have key : ∀ (w : List (List UInt8)) (o : List Int), numsW w = some o → ∀ n ∈ o, -999999 ≤ n ∧ n ≤ 999999 := by
    intro w
    induction w with
    | nil => intro o h; rw [← Option.some.inj h]; intro n hn; cases hn
    | cons x w ih =>
      intro o h
      rw [nums_cons] at h
      cases h1 : numW x with
      | none => rw [h1] at h; cases h
      | some n =>
        cases h2 : numsW w with
        | none => rw [h1, h2] at h; cases h
        | some r =>
          rw [h1, h2] at h
          have e : n :: r = o := Option.some.inj h
          subst e
          intro m hm
          rcases List.mem_cons.1 hm with hm | hm
          · rw [hm]; exact (dig_numW x n h1).2
          · exact ih r h2 m hm
  cases s with
  | nil => rw [← Option.some.inj h]; intro n hn; cases hn
  | cons c t =>
    by_cases hc : c = 32
    · subst hc; exact key _ o h
    · rw [rd_bad c t hc] at h; cases h

theorem join_flat : ∀ (o : List Int) (x : List UInt8) (r : List (List UInt8)), 32 :: joinW 32 (o.map digI ++ x :: r) = flatW o ++ 32 :: joinW 32 (x :: r) := by
  intro o
  induction o with
  | nil => intro x r; rfl
  | cons n o ih =>
    intro x r
    rw [List.map_cons, List.cons_append, flat_cons]
    cases hs : o.map digI ++ x :: r with
    | nil => simp at hs
    | cons v q =>
      show 32 :: (digI n ++ 32 :: joinW 32 (v :: q)) = _
      rw [← hs, ih x r]
      simp

theorem row_line (o : List Int) (m : Int) : 32 :: joinW 32 (rowW (o, m)) = flatW o ++ sepW ++ digI m := by
  show 32 :: joinW 32 (o.map digI ++ leW :: [digI m]) = _
  rw [join_flat]
  rw [List.append_assoc]
  rfl

theorem flat_byte : ∀ (o : List Int) (c : UInt8), c ∈ flatW o → c ≠ 60 := by
  intro o
  induction o with
  | nil => intro c h; cases h
  | cons n o ih =>
    intro c h
    rw [flat_cons] at h
    rcases List.mem_cons.1 h with h | h
    · rw [h]; decide
    · rcases List.mem_append.1 h with h | h
      · rcases dig_byte n c h with h | h
        · rw [h]; decide
        · rintro rfl; exact absurd h (by decide)
      · exact ih c h

theorem cut_row (o : List Int) (b : List UInt8) : Lib.cut (flatW o ++ sepW ++ b) sepW = (flatW o, b, true) := by
  have e : Lib.index (flatW o ++ sepW ++ b) sepW = (flatW o).length := Lib.index_first (by simp) (by
      unfold Lib.occAt
      rw [List.append_assoc, List.drop_left, List.isPrefixOf_iff_prefix]
      exact ⟨b, rfl⟩) fun j hj => by
    rw [Bool.eq_false_iff]
    intro ho
    unfold Lib.occAt at ho
    rw [List.isPrefixOf_iff_prefix] at ho
    obtain ⟨r, hr⟩ := ho
    have h1 : (flatW o ++ sepW ++ b)[j + 1]? = some 60 := by
      have : ((flatW o ++ sepW ++ b).drop j)[1]? = some 60 := by rw [← hr]; rfl
      rw [List.getElem?_drop] at this
      exact this
    by_cases hj1 : j + 1 < (flatW o).length
    · rw [List.append_assoc, List.getElem?_append_left hj1] at h1
      exact flat_byte o 60 (List.mem_of_getElem? h1) rfl
    · have : j + 1 = (flatW o).length := by omega
      rw [List.append_assoc, this, List.getElem?_append_right (by omega), Nat.sub_self] at h1
      have h2 : (32 : UInt8) = 60 := Option.some.inj h1
      exact absurd h2 (by decide)
  unfold Lib.cut
  rw [e, if_pos (by omega)]
  simp only [Int.toNat_natCast]
  refine Prod.ext ?_ (Prod.ext ?_ rfl)
  · show List.take (flatW o).length (flatW o ++ sepW ++ b) = _
    rw [List.append_assoc, List.take_left]
  · show List.drop ((flatW o).length + sepW.length) (flatW o ++ sepW ++ b) = _
    rw [← List.length_append, List.drop_left]

theorem row_q (l : List UInt8) : rowQ l = rowP l := by
  unfold rowQ
  cases hp : rowP l with
  | some r =>
    obtain ⟨o, m⟩ := r
    have hl := row_again l (o, m) hp
    have hb : (∀ n ∈ o, -999999 ≤ n ∧ n ≤ 999999) ∧ -999999 ≤ m ∧ m ≤ 999999 := by
      unfold rowP at hp
      split at hp
      · cases hp
      · cases h1 : numsW ((splitW 32 l).take ((splitW 32 l).length - 2)) with
        | none => rw [h1] at hp; cases hp
        | some o' =>
          cases h2 : numW ((splitW 32 l)[(splitW 32 l).length - 1]?.getD []) with
          | none => rw [h1, h2] at hp; cases hp
          | some m' =>
            rw [h1, h2] at hp
            have e : (o', m') = (o, m) := Option.some.inj hp
            have e1 : o' = o := congrArg Prod.fst e
            have e2 : m' = m := congrArg Prod.snd e
            subst e1 e2
            refine ⟨?_, (dig_numW _ _ h2).2⟩
            have : rdNums (32 :: joinW 32 ((splitW 32 l).take ((splitW 32 l).length - 2))) = some o' ∨ (splitW 32 l).take ((splitW 32 l).length - 2) = [] := by
              by_cases hn : (splitW 32 l).take ((splitW 32 l).length - 2) = []
              · exact Or.inr hn
              · refine Or.inl ?_
                show (if (32 : UInt8) = 32 then numsW (splitW 32 _) else none) = _
                rw [if_pos rfl, split_join 32 _ hn (fun w hw => ?_), h1]
                have e := dig_nums _ _ h1
                rw [e] at hw
                obtain ⟨n, _, rfl⟩ := List.mem_map.1 hw
                exact dig_no32 n
            rcases this with h | h
            · exact rd_within _ _ h
            · rw [h] at h1
              rw [← Option.some.inj h1]
              intro n hn; cases hn
    rw [hl, row_line, cut_row]
    show (if true = true then (rdNums (flatW o)).bind (fun o => (numW (digI m)).map fun m => (o, m)) else none) = _
    rw [if_pos rfl, rd_flat o hb.1, numW_dig m hb.2]
    rfl
  | none =>
    by_cases hc : (Lib.cut (32 :: l) sepW).2.2 = true
    · rw [if_pos hc]
      cases h1 : rdNums (Lib.cut (32 :: l) sepW).1 with
      | none => rfl
      | some o =>
        cases h2 : numW (Lib.cut (32 :: l) sepW).2.1 with
        | none => rfl
        | some m =>
          exfalso
          have hw := rd_within _ _ h1
          have e1 := flat_rd _ _ o (Nat.le_refl _) h1
          have e2 := dig_numW _ m h2
          have e3 : 32 :: l = (Lib.cut (32 :: l) sepW).1 ++ sepW ++ (Lib.cut (32 :: l) sepW).2.1 := by
            generalize 32 :: l = s at *
            rcases Lib.index_spec s sepW with ⟨hi, _⟩ | ⟨i, hi, hle, ho, _⟩
            · unfold Lib.cut at hc
              rw [hi, if_neg (by omega)] at hc
              cases hc
            · unfold Lib.cut
              rw [hi, if_pos (by omega)]
              unfold Lib.occAt at ho
              rw [List.isPrefixOf_iff_prefix] at ho
              obtain ⟨r, hr⟩ := ho
              simp only [Int.toNat_natCast]
              rw [← List.drop_drop, ← hr, List.drop_left, List.append_assoc, hr, List.take_append_drop]
          rw [e1, ← e2.1, ← row_line] at e3
          have e4 : l = joinW 32 (rowW (o, m)) := by injection e3
          have := row_back (o, m) hw e2.2
          rw [← e4, hp] at this
          cases this
    · rw [if_neg hc]

/-- One line off. -/
theorem go_none (k : Nat) (p : Lp) (s : List UInt8) (h0 : s ≠ []) (h : (10 : UInt8) ∉ s) : readGo k p (splitW 10 s) = .error k := by
  rw [split_word 10 s h]
  show (if s = [] ∧ p.may = true then Except.ok p else Except.error k) = _
  rw [if_neg (fun h => h0 h.1)]

theorem go_end (k : Nat) (p : Lp) : readGo k p (splitW 10 []) = if p.may = true then .ok p else .error k := by
  show (if ([] : List UInt8) = [] ∧ p.may = true then Except.ok p else Except.error k) = _
  by_cases h : p.may = true
  · rw [if_pos ⟨rfl, h⟩, if_pos h]
  · rw [if_neg (fun x => h x.2), if_neg h]

theorem go_more (k : Nat) (p : Lp) (a b : List UInt8) (h : (10 : UInt8) ∉ a) : readGo k p (splitW 10 (a ++ 10 :: b)) =
    if k = 0 then match headP a with
      | none => .error k
      | some c => readGo (k + 1) ⟨c, p.rows⟩ (splitW 10 b)
    else match rowP a with
      | none => .error k
      | some q => readGo (k + 1) ⟨p.costs, p.rows ++ [q]⟩ (splitW 10 b) := by
  rw [split_more 10 a b h]
  cases hs : splitW 10 b with
  | nil => exact absurd hs (split_ne 10 b)
  | cons v r => rfl

/-- The same program, of which no more is kept than is too much. -/
def capL (p : Lp) : Lp := ⟨p.costs.take 5, (p.rows.take 5).map fun r => (r.1.take 5, r.2)⟩

theorem withinB_mem (m : Int) (l : List Int) : withinB m l = true ↔ ∀ n ∈ l, -m ≤ n ∧ n ≤ m := by
  unfold withinB
  rw [List.all_eq_true]
  simp only [Bool.and_eq_true, decide_eq_true_eq]

theorem may_iff (p : Lp) : p.may = true ↔ (1 ≤ p.costs.length ∧ p.costs.length ≤ 4) ∧ withinB 400 p.costs = true ∧ (1 ≤ p.rows.length ∧ p.rows.length ≤ 4) ∧ p.rows.all (rowB p.costs.length) = true := by
  refine ⟨p.may_of, fun ⟨⟨h1, h2⟩, h3, ⟨h4, h5⟩, h6⟩ => ?_⟩
  unfold Lp.may
  simp only [Bool.and_eq_true, decide_eq_true_eq]
  exact ⟨⟨⟨⟨⟨h1, h2⟩, h3⟩, h4⟩, h5⟩, h6⟩

theorem cap_of_may (p : Lp) (h : p.may = true) : capL p = p := by
  obtain ⟨h1, h2, h3, h4⟩ := p.may_of h
  cases p with
  | mk c r =>
    unfold capL
    simp only at h1 h2 h3 h4 ⊢
    rw [List.take_of_length_le (by omega), List.take_of_length_le (by omega)]
    congr 1
    refine List.ext_getElem (by simp) fun i g1 g2 => ?_
    rw [List.getElem_map]
    have := List.all_eq_true.1 h4 r[i] (List.getElem_mem g2)
    unfold rowB at this
    simp only [Bool.and_eq_true, beq_iff_eq] at this
    rw [List.take_of_length_le (by omega)]

theorem may_cap (p : Lp) : (capL p).may = p.may := by
  cases h : p.may with
  | true => rw [cap_of_may p h, h]
  | false =>
    rw [Bool.eq_false_iff] at h ⊢
    intro hc
    refine h ?_
    have e : capL p = p := by
      obtain ⟨h1, h2, h3, h4⟩ := (capL p).may_of hc
      cases p with
      | mk c r =>
        unfold capL at h1 h2 h3 h4 ⊢
        simp only [List.length_take, List.length_map] at h1 h2 h3 h4 ⊢
        have hc : c.length ≤ 4 := by omega
        have hr : r.length ≤ 4 := by omega
        rw [List.take_of_length_le (by omega), List.take_of_length_le (by omega)]
        rw [List.take_of_length_le (l := r) (by omega)] at h4
        congr 1
        refine List.ext_getElem (by simp) fun i g1 g2 => ?_
        rw [List.getElem_map]
        have := List.all_eq_true.1 h4 (r[i].1.take 5, r[i].2) (List.mem_map.2 ⟨r[i], List.getElem_mem g2, rfl⟩)
        unfold rowB at this
        simp only [Bool.and_eq_true, beq_iff_eq, List.length_take] at this
        rw [List.take_of_length_le (by omega)]
    rw [e] at hc
    exact hc

theorem cap_rows (c : List Int) (rs : List (List Int × Int)) (q : List Int × Int) : capL ⟨c, rs ++ [q]⟩ = if rs.length ≤ 4 then ⟨(capL ⟨c, rs⟩).costs, (capL ⟨c, rs⟩).rows ++ [(q.1.take 5, q.2)]⟩ else capL ⟨c, rs⟩ := by
  unfold capL
  by_cases h : rs.length ≤ 4
  · rw [if_pos h]
    simp only
    rw [List.take_of_length_le (l := rs ++ [q]) (by rw [List.length_append, List.length_singleton]; omega), List.take_of_length_le (l := rs) (by omega), List.map_append]
    rfl
  · rw [if_neg h]
    simp only
    rw [List.take_append_of_le_length (by omega)]

theorem cap_rows_length (p : Lp) : (capL p).rows.length = min 5 p.rows.length := by
  unfold capL
  simp

theorem joinW_lib : ∀ (ls : List (List UInt8)), Lib.join ls [32] = joinW 32 ls := by
  intro ls
  induction ls with
  | nil => rfl
  | cons w r ih =>
    cases r with
    | nil => rw [Lib.join_one]; rfl
    | cons v r =>
      show _ = w ++ 32 :: joinW 32 (v :: r)
      rw [← ih, Lib.join_cons, Lib.join_cons]
      show w ++ (([32] ++ v) ++ (r.map ([32] ++ ·)).flatten) = _
      simp [Lib.joinTail]

theorem join10 : ∀ (ls : List (List UInt8)), joinW 10 (ls ++ [[]]) = (ls.map (· ++ [10])).flatten := by
  intro ls
  induction ls with
  | nil => rfl
  | cons w r ih =>
    cases hs : r ++ [[]] with
    | nil => simp at hs
    | cons v q =>
      rw [List.cons_append, hs]
      show w ++ 10 :: joinW 10 (v :: q) = _
      rw [← hs, ih]
      simp

/-- The text of a program, line by line. -/
theorem text_lines (p : Lp) : textW p = (joinW 32 (headW p.costs) ++ [10]) ++ (p.rows.map fun r => joinW 32 (rowW r) ++ [10]).flatten := by
  unfold textW linesW
  rw [join10, List.map_cons, List.flatten_cons, List.map_map]
  rfl

theorem join_head (c : List Int) : joinW 32 (headW c) = mostW ++ flatW c := by
  unfold headW
  have : ∀ (c : List Int) (w : List UInt8), joinW 32 (w :: c.map digI) = w ++ flatW c := by
    intro c
    induction c with
    | nil => intro w; exact (List.append_nil w).symm
    | cons n c ih =>
      intro w
      show w ++ 32 :: joinW 32 (digI n :: c.map digI) = _
      rw [ih, flat_cons]
  exact this c mostW

/-- A row's numbers, each with a blank behind. -/
def backW (o : List Int) : List UInt8 := (o.map fun n => digI n ++ [32]).flatten

theorem join_row : ∀ (o : List Int) (m : Int), joinW 32 (rowW (o, m)) = backW o ++ (leW ++ 32 :: digI m) := by
  intro o m
  show joinW 32 (o.map digI ++ [leW, digI m]) = _
  induction o with
  | nil => rfl
  | cons n o ih =>
    cases hs : o.map digI ++ [leW, digI m] with
    | nil => simp at hs
    | cons v q =>
      rw [List.map_cons, List.cons_append, hs]
      show digI n ++ 32 :: joinW 32 (v :: q) = _
      rw [← hs, ih]
      show _ = (digI n ++ [32] ++ backW o) ++ _
      simp

theorem back_take (o : List Int) (k : Nat) (h : k < o.length) : backW (o.take (k + 1)) = backW (o.take k) ++ (digI (o[k]?.getD 0) ++ [32]) := by
  unfold backW
  rw [List.take_add_one, List.getElem?_eq_getElem h, List.map_append, List.flatten_append, Option.getD_some]
  simp only [Option.toList_some, List.map_cons, List.map_nil, List.flatten_cons, List.flatten_nil, List.append_nil]

theorem flat_take (o : List Int) (k : Nat) (h : k < o.length) : flatW (o.take (k + 1)) = flatW (o.take k) ++ (32 :: digI (o[k]?.getD 0)) := by
  unfold flatW
  rw [List.take_add_one, List.getElem?_eq_getElem h, List.map_append, List.flatten_append, Option.getD_some]
  simp only [Option.toList_some, List.map_cons, List.map_nil, List.flatten_cons, List.flatten_nil, List.append_nil]

end Num
end Go.Proofs.YtipcbhodlgoflabDoor
