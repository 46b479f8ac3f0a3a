/- Programs as text, in plain bytes: a program's text is read as it, and what is read is its text. -/
import Derived.Test.YtipcbhodlgoflabDoorNum
namespace Go.Proofs.YtipcbhodlgoflabDoor
namespace Num

/-- The digits of a number from 0 on. -/
def digN (n : Nat) : List UInt8 := if n < 10 then [UInt8.ofNat (48 + n)] else digN (n / 10) ++ [UInt8.ofNat (48 + n % 10)]
termination_by n
decreasing_by omega

def digI (n : Int) : List UInt8 := if n < 0 then 45 :: digN n.natAbs else digN n.natAbs

/-- A byte that is a digit. -/
def isDig (c : UInt8) : Bool := decide (48 ≤ c.toNat) && decide (c.toNat ≤ 57)

/-- What digits come to. -/
def valN (l : List UInt8) : Nat := l.foldl (fun a c => 10 * a + (c.toNat - 48)) 0

theorem val_end (l : List UInt8) (c : UInt8) : valN (l ++ [c]) = 10 * valN l + (c.toNat - 48) := by
  unfold valN
  rw [List.foldl_append]
  rfl

theorem of_dig (k : Nat) (h : k < 10) : (UInt8.ofNat (48 + k)).toNat = 48 + k := by
  rw [UInt8.toNat_ofNat']
  omega

theorem dig_of (c : UInt8) (h : isDig c = true) : UInt8.ofNat (48 + (c.toNat - 48)) = c := by
  unfold isDig at h
  simp only [Bool.and_eq_true, decide_eq_true_eq] at h
  have : 48 + (c.toNat - 48) = c.toNat := by omega
  rw [this]
  exact UInt8.ofNat_toNat

theorem digN_small (n : Nat) (h : n < 10) : digN n = [UInt8.ofNat (48 + n)] := by
  rw [digN]
  rw [if_pos h]

theorem digN_step (n : Nat) (h : 10 ≤ n) : digN n = digN (n / 10) ++ [UInt8.ofNat (48 + n % 10)] := by
  rw [digN]
  rw [if_neg (by omega)]

theorem digN_dig (n : Nat) : ∀ c ∈ digN n, isDig c = true := by
  induction n using Nat.strongRecOn with
  | ind n ih =>
    intro c hc
    have one : ∀ k, k < 10 → isDig (UInt8.ofNat (48 + k)) = true := fun k hk => by
      unfold isDig
      rw [of_dig k hk]
      simp only [Bool.and_eq_true, decide_eq_true_eq]
      omega
    by_cases h : n < 10
    · rw [digN_small n h] at hc
      rw [List.mem_singleton.1 hc]
      exact one n h
    · rw [digN_step n (by omega)] at hc
      rcases List.mem_append.1 hc with hc | hc
      · exact ih (n / 10) (by omega) c hc
      · rw [List.mem_singleton.1 hc]
        exact one _ (by omega)

theorem digN_val (n : Nat) : valN (digN n) = n := by
  induction n using Nat.strongRecOn with
  | ind n ih =>
    by_cases h : n < 10
    · rw [digN_small n h]
      show 10 * 0 + ((UInt8.ofNat (48 + n)).toNat - 48) = n
      rw [of_dig n h]; omega
    · rw [digN_step n (by omega), val_end, ih (n / 10) (by omega), of_dig _ (by omega)]
      omega

theorem digN_head (n : Nat) (h : 0 < n) : ∃ c r, digN n = c :: r ∧ c.toNat ≠ 48 := by
  induction n using Nat.strongRecOn with
  | ind n ih =>
    by_cases h10 : n < 10
    · refine ⟨_, _, digN_small n h10, ?_⟩
      rw [of_dig n h10]; omega
    · obtain ⟨c, r, e1, e2⟩ := ih (n / 10) (by omega) (by omega)
      refine ⟨c, r ++ [UInt8.ofNat (48 + n % 10)], ?_, e2⟩
      rw [digN_step n (by omega), e1]; rfl

theorem digN_len (k : Nat) : ∀ n, n < 10 ^ (k + 1) → (digN n).length ≤ k + 1 := by
  induction k with
  | zero =>
    intro n hn
    rw [digN_small n (by simpa using hn)]
    simp
  | succ k ih =>
    intro n hn
    by_cases h : n < 10
    · rw [digN_small n h]; simp
    · rw [digN_step n (by omega), List.length_append]
      have := ih (n / 10) (by rw [Nat.pow_succ] at hn; omega)
      simp
      omega

theorem digN_ne (n : Nat) : digN n ≠ [] := by
  by_cases h : n < 10
  · rw [digN_small n h]; simp
  · rw [digN_step n (by omega)]; simp

theorem val_pos (l : List UInt8) : ∀ c, isDig c = true → c.toNat ≠ 48 → (∀ x ∈ l, isDig x = true) → 0 < valN (c :: l) := by
  intro c hc hc0 hl
  have key : ∀ (l : List UInt8) (a : Nat), 0 < a → 0 < l.foldl (fun a c => 10 * a + (c.toNat - 48)) a := by
    intro l
    induction l with
    | nil => intro a h; exact h
    | cons x l ih => intro a h; exact ih (10 * a + (x.toNat - 48)) (by omega)
  unfold isDig at hc
  simp only [Bool.and_eq_true, decide_eq_true_eq] at hc
  exact key l (10 * 0 + (c.toNat - 48)) (by omega)

/-- Digits with no 0 ahead of others are those of what they come to. -/
theorem dig_val (l : List UInt8) (hl : ∀ c ∈ l, isDig c = true) (hne : l ≠ []) (h0 : ∀ c r, l = c :: r → r ≠ [] → c.toNat ≠ 48) : digN (valN l) = l := by
  have key : ∀ k (l : List UInt8), l.length = k → (∀ c ∈ l, isDig c = true) → l ≠ [] → (∀ c r, l = c :: r → r ≠ [] → c.toNat ≠ 48) → digN (valN l) = l := by
    intro k
    induction k with
    | zero => intro l hk _ hne _; exact absurd (List.length_eq_zero_iff.1 hk) hne
    | succ k ih =>
      intro l hk hl hne h0
      obtain ⟨i, c, rfl⟩ : ∃ i c, l = i ++ [c] := ⟨l.dropLast, l.getLast hne, (List.dropLast_concat_getLast hne).symm⟩
      have hc := hl c (by simp)
      have hcd := hc
      unfold isDig at hcd
      simp only [Bool.and_eq_true, decide_eq_true_eq] at hcd
      rw [val_end]
      cases i with
      | nil =>
        have e : 10 * valN [] + (c.toNat - 48) = c.toNat - 48 := by show 10 * 0 + _ = _; omega
        rw [e, digN_small _ (by omega), dig_of c hc]; rfl
      | cons x i =>
        have hx : x.toNat ≠ 48 := h0 x (i ++ [c]) rfl (by simp)
        have hp := val_pos i x (hl x (by simp)) hx (fun y hy => hl y (by simp [hy]))
        rw [digN_step _ (by omega), show (10 * valN (x :: i) + (c.toNat - 48)) / 10 = valN (x :: i) by omega, show (10 * valN (x :: i) + (c.toNat - 48)) % 10 = c.toNat - 48 by omega, dig_of c hc]
        rw [ih (x :: i) (by simpa using hk) (fun y hy => hl y (List.mem_append.2 (Or.inl hy))) (by simp) (fun y r e hr => by
          have e' := e
          simp only [List.cons.injEq] at e'
          rw [← e'.1]; exact hx)]
  exact key l.length l rfl hl hne h0

/-- What a word is read as: up to six digits, - ahead of them below 0. -/
def natW (t : List UInt8) (below : Bool) : Option Nat :=
  if t.length < 1 ∨ 6 < t.length ∨ (t.head? = some 48 ∧ (1 < t.length ∨ below = true)) then none else if t.all isDig = true then some (valN t) else none

def numW (s : List UInt8) : Option Int := if s.head? = some 45 then (natW s.tail true).map (fun n : Nat => -(n : Int)) else (natW s false).map (fun n : Nat => (n : Int))

theorem natW_dig (n : Nat) (b : Bool) (h : n ≤ 999999) (hb : b = true → 0 < n) : natW (digN n) b = some n := by
  unfold natW
  rw [if_neg, if_pos, digN_val]
  · rw [List.all_eq_true]; exact digN_dig n
  · rintro (h1 | h1 | ⟨h1, h2⟩)
    · have := List.length_pos_iff.2 (digN_ne n); omega
    · have := digN_len 5 n (by omega); omega
    · by_cases h0 : 0 < n
      · obtain ⟨c, r, e1, e2⟩ := digN_head n h0
        rw [e1] at h1
        simp only [List.head?_cons, Option.some.injEq] at h1
        rw [h1] at e2
        exact e2 rfl
      · have : n = 0 := by omega
        subst this
        rw [digN_small 0 (by omega)] at h2
        rcases h2 with h2 | h2
        · simp at h2
        · have := hb h2; omega

theorem dig_natW (t : List UInt8) (b : Bool) (n : Nat) (h : natW t b = some n) : digN n = t ∧ n ≤ 999999 ∧ (b = true → 0 < n) ∧ ∀ c ∈ t, isDig c = true := by
  unfold natW at h
  by_cases hc : t.length < 1 ∨ 6 < t.length ∨ (t.head? = some 48 ∧ (1 < t.length ∨ b = true))
  · rw [if_pos hc] at h; cases h
  · rw [if_neg hc] at h
    by_cases ha : t.all isDig = true
    · rw [if_pos ha] at h
      simp only [Option.some.injEq] at h
      have hd := List.all_eq_true.1 ha
      have hne : t ≠ [] := fun e => hc (Or.inl (by rw [e]; simp))
      have hz : ∀ c r, t = c :: r → (r ≠ [] ∨ b = true) → c.toNat ≠ 48 := by
        intro c r e hr h48
        refine hc (Or.inr (Or.inr ⟨?_, ?_⟩))
        · rw [e, List.head?_cons]
          have : c = 48 := UInt8.toNat_inj.1 (by rw [h48]; rfl)
          rw [this]
        · rcases hr with hr | hr
          · left; rw [e, List.length_cons]; have := List.length_pos_iff.2 hr; omega
          · exact Or.inr hr
      have e1 := dig_val t hd hne (fun c r e hr => hz c r e (Or.inl hr))
      rw [h] at e1
      refine ⟨e1, ?_, fun hb => ?_, hd⟩
      · have hv : ∀ (l : List UInt8) (a k : Nat), (∀ c ∈ l, isDig c = true) → a < 10 ^ k → l.foldl (fun a c => 10 * a + (c.toNat - 48)) a < 10 ^ (k + l.length) := by
          intro l
          induction l with
          | nil => intro a k _ h; exact h
          | cons x l ih =>
            intro a k hl h
            have hx := hl x (by simp)
            unfold isDig at hx
            simp only [Bool.and_eq_true, decide_eq_true_eq] at hx
            have := ih (10 * a + (x.toNat - 48)) (k + 1) (fun y hy => hl y (by simp [hy])) (by rw [Nat.pow_succ]; omega)
            rw [List.foldl_cons, List.length_cons]
            rw [show k + (l.length + 1) = k + 1 + l.length by omega]
            exact this
        have := hv t 0 0 hd (by decide)
        have hl6 : t.length ≤ 6 := by
          have := fun h6 => hc (Or.inr (Or.inl h6)); omega
        have hp : 10 ^ (0 + t.length) ≤ 10 ^ 6 := Nat.pow_le_pow_right (by omega) (by omega)
        rw [← h]
        unfold valN
        omega
      · obtain ⟨c, r, rfl⟩ : ∃ c r, t = c :: r := by
          cases t with
          | nil => exact absurd rfl hne
          | cons c r => exact ⟨c, r, rfl⟩
        rw [← h]
        exact val_pos r c (hd c (by simp)) (hz c r rfl (Or.inr hb)) (fun x hx => hd x (by simp [hx]))
    · rw [if_neg ha] at h; cases h

theorem dig_no (l : List UInt8) (hl : ∀ c ∈ l, isDig c = true) : l.head? ≠ some 45 := by
  cases l with
  | nil => simp
  | cons c r =>
    intro e
    rw [List.head?_cons] at e
    have := hl c (by simp)
    rw [Option.some.inj e] at this
    exact absurd this (by decide)

theorem numW_dig (n : Int) (h : -999999 ≤ n ∧ n ≤ 999999) : numW (digI n) = some n := by
  unfold digI
  by_cases h0 : n < 0
  · rw [if_pos h0]
    unfold numW
    rw [if_pos List.head?_cons, List.tail_cons, natW_dig n.natAbs true (by omega) (fun _ => by omega)]
    exact congrArg some (show -((n.natAbs : Nat) : Int) = n by omega)
  · rw [if_neg h0]
    unfold numW
    rw [if_neg (dig_no _ (digN_dig _)), natW_dig n.natAbs false (by omega) (fun h => by cases h)]
    exact congrArg some (show ((n.natAbs : Nat) : Int) = n by omega)

theorem dig_numW (s : List UInt8) (n : Int) (h : numW s = some n) : digI n = s ∧ -999999 ≤ n ∧ n ≤ 999999 := by
  unfold numW at h
  by_cases hs : s.head? = some 45
  · rw [if_pos hs] at h
    cases s with
    | nil => cases hs
    | cons c t =>
      rw [List.head?_cons] at hs
      have hc := Option.some.inj hs
      subst hc
      rw [List.tail_cons] at h
      cases hn : natW t true with
      | none => rw [hn] at h; cases h
      | some k =>
        rw [hn] at h
        have h' : -(k : Int) = n := Option.some.inj h
        obtain ⟨e1, e2, e3, _⟩ := dig_natW t true k hn
        have := e3 rfl
        subst h'
        unfold digI
        rw [if_pos (by omega), Int.natAbs_neg, Int.natAbs_natCast, e1]
        exact ⟨rfl, by omega, by omega⟩
  · rw [if_neg hs] at h
    cases hn : natW s false with
    | none => rw [hn] at h; cases h
    | some k =>
      rw [hn] at h
      have h' : (k : Int) = n := Option.some.inj h
      obtain ⟨e1, e2, _, _⟩ := dig_natW s false k hn
      subst h'
      unfold digI
      rw [if_neg (by omega), Int.natAbs_natCast, e1]
      exact ⟨rfl, by omega, by omega⟩

end Num
end Go.Proofs.YtipcbhodlgoflabDoor
