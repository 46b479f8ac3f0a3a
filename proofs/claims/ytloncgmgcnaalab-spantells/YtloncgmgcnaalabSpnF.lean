/- A span as the document makes it: one number after the other. -/
import Derived.Test.YtloncgmgcnaalabSpn0
namespace Go.Proofs.Ytloncgmgcnaalab
namespace Num

/-- A span: where it begins (o: open), where it ends (o2: open), and whether one number is below 0 all along. -/
structure Spn where
  o : Bool
  n : Int
  d : Int
  o2 : Bool
  n2 : Int
  d2 : Int
  no : Bool

def wholeS : Spn := ⟨true, 0, 0, true, 0, 0, false⟩

def aboveS (s : Spn) (a b : Int) : Spn :=
  if b = 0 then { s with no := s.no || decide (a < 0) }
  else if 0 < b then
    if s.o = true ∨ s.n * (mk (0 - a) b).2.1 < (mk (0 - a) b).1 * s.d then { s with o := false, n := (mk (0 - a) b).1, d := (mk (0 - a) b).2.1 } else s
  else if s.o2 = true ∨ (mk (0 - a) b).1 * s.d2 < s.n2 * (mk (0 - a) b).2.1 then { s with o2 := false, n2 := (mk (0 - a) b).1, d2 := (mk (0 - a) b).2.1 } else s

def spanS (a b : Nat → Int) : Nat → Spn
  | 0 => wholeS
  | k + 1 => aboveS (spanS a b k) (a k) (b k)

def emptyS (s : Spn) : Bool := s.no || (!s.o && !s.o2 && decide (s.n2 * s.d < s.n * s.d2))

/-- What a span is. -/
structure SpanIs (a b : Nat → Int) (N : Nat) (s : Spn) : Prop where
  lo : LoIs a b N s.o s.n s.d
  hi : HiIs a b N s.o2 s.n2 s.d2
  no : s.no = true ↔ NoneIs a b N

/-- Two numbers whose quotient is one of small numbers. -/
structure SmallP (a b : Int) : Prop where
  a62 : -4611686018427387904 ≤ a ∧ a ≤ 4611686018427387904
  b62 : -4611686018427387904 ≤ b ∧ b ≤ 4611686018427387904
  rep : b ≠ 0 → ∃ u v : Int, v ≠ 0 ∧ (-1073741824 ≤ u ∧ u ≤ 1073741824) ∧ (-1073741824 ≤ v ∧ v ≤ 1073741824) ∧ u * b = (0 - a) * v

theorem small_of (a b a' b' : Int) (h : Alike a b a' b') (ha : -1073741824 ≤ a ∧ a ≤ 1073741824) (hb : -1073741824 ≤ b ∧ b ≤ 1073741824) (ha' : -4611686018427387904 ≤ a' ∧ a' ≤ 4611686018427387904) (hb' : -4611686018427387904 ≤ b' ∧ b' ≤ 4611686018427387904) : SmallP a' b' := by
  refine ⟨ha', hb', fun h0 => ⟨-a, b, ?_, by omega, hb, ?_⟩⟩
  · exact fun e => h0 ((alike_pos a b a' b' h).2.2.1.2 e)
  · obtain ⟨k, l, k0, l0, e1, e2⟩ := h
    refine Int.eq_of_mul_eq_mul_left (show l ≠ 0 by omega) ?_
    have s1 : l * (-a * b') = -a * (l * b') := by grind
    have s2 : l * ((0 - a') * b) = -(l * a') * b := by grind
    rw [s1, s2, e1, e2]; grind

/-- The fraction at which a number comes to 0. -/
theorem small_at0 (a b : Int) (h : SmallP a b) (hb : b ≠ 0) : ∃ x y, mk (0 - a) b = (x, y, 0) ∧ a * y + x * b = 0 ∧ mayB y [x] = true := by
  obtain ⟨u, v, v0, hu, hv, e⟩ := h.rep hb
  have := h.a62
  obtain ⟨x, y, e1, e2, _, e4⟩ := mk_rep (0 - a) b u v hb v0 hu hv (by omega) h.b62 e
  refine ⟨x, y, e1, ?_, e4⟩
  have : (0 - a) * y = -(a * y) := by grind
  omega

theorem span_zero (a b : Nat → Int) : SpanIs a b 0 wholeS := ⟨lo_zero a b, hi_zero a b, by
  constructor
  · intro h; cases h
  · rintro ⟨j, hj, _⟩; omega⟩

theorem none_skip (a b : Nat → Int) (N : Nat) (h : b N ≠ 0 ∨ 0 ≤ a N) : NoneIs a b (N + 1) ↔ NoneIs a b N := by
  constructor
  · rintro ⟨j, hj, hb, ha⟩
    by_cases e : j = N
    · subst e; rcases h with h | h
      · exact absurd hb h
      · omega
    · exact ⟨j, by omega, hb, ha⟩
  · rintro ⟨j, hj, hb, ha⟩
    exact ⟨j, by omega, hb, ha⟩

theorem above_is (a b : Nat → Int) (N : Nat) (s : Spn) (h : SpanIs a b N s) (hs : SmallP (a N) (b N)) : SpanIs a b (N + 1) (aboveS s (a N) (b N)) := by
  obtain ⟨o, n, d, o2, n2, d2, no⟩ := s
  obtain ⟨h1, h2, h3⟩ := h
  simp only at h1 h2 h3
  unfold aboveS
  by_cases hb : b N = 0
  · rw [if_pos hb]
    refine ⟨lo_skip a b N o n d h1 (by omega), hi_skip a b N o2 n2 d2 h2 (by omega), ?_⟩
    simp only [Bool.or_eq_true, decide_eq_true_eq]
    constructor
    · rintro (h | h)
      · obtain ⟨j, hj, e⟩ := h3.1 h
        exact ⟨j, by omega, e⟩
      · exact ⟨N, by omega, hb, h⟩
    · rintro ⟨j, hj, e1, e2⟩
      by_cases e : j = N
      · subst e; exact Or.inr e2
      · exact Or.inl (h3.2 ⟨j, by omega, e1, e2⟩)
  · rw [if_neg hb]
    obtain ⟨x, y, e1, e2, e3⟩ := small_at0 _ _ hs hb
    have hy := may_pos y x e3
    rw [e1]
    simp only
    by_cases hp : 0 < b N
    · rw [if_pos hp]
      by_cases ht : o = true ∨ n * y < x * d
      · rw [if_pos ht]
        exact ⟨lo_take a b N o n d h1 hp x y e3 e2 (by rcases ht with h | h; exact Or.inl h; exact Or.inr (by omega)), hi_skip a b N o2 n2 d2 h2 (by omega), by rw [none_skip a b N (Or.inl hb)]; exact h3⟩
      · rw [if_neg ht]
        have ho : o = false := by cases o with
          | false => rfl
          | true => exact absurd (Or.inl rfl) ht
        subst ho
        exact ⟨lo_stay a b N n d h1 hp x y hy e2 (Int.not_lt.1 fun h => ht (Or.inr h)), hi_skip a b N o2 n2 d2 h2 (by omega), by rw [none_skip a b N (Or.inl hb)]; exact h3⟩
    · rw [if_neg hp]
      have hp' : b N < 0 := by omega
      by_cases ht : o2 = true ∨ x * d2 < n2 * y
      · rw [if_pos ht]
        exact ⟨lo_skip a b N o n d h1 (by omega), hi_take a b N o2 n2 d2 h2 hp' x y e3 e2 (by rcases ht with h | h; exact Or.inl h; exact Or.inr (by omega)), by rw [none_skip a b N (Or.inl hb)]; exact h3⟩
      · rw [if_neg ht]
        have ho : o2 = false := by cases o2 with
          | false => rfl
          | true => exact absurd (Or.inl rfl) ht
        subst ho
        exact ⟨lo_skip a b N o n d h1 (by omega), hi_stay a b N n2 d2 h2 hp' x y hy e2 (Int.not_lt.1 fun h => ht (Or.inr h)), by rw [none_skip a b N (Or.inl hb)]; exact h3⟩

theorem span_is (a b : Nat → Int) (N : Nat) (hs : ∀ j, j < N → SmallP (a j) (b j)) : SpanIs a b N (spanS a b N) := by
  induction N with
  | zero => exact span_zero a b
  | succ N ih => exact above_is a b N _ (ih fun j hj => hs j (by omega)) (hs N (by omega))

/-- There is one span. -/
theorem span_one (a b : Nat → Int) (N : Nat) (s s' : Spn) (h : SpanIs a b N s) (h' : SpanIs a b N s') : s = s' := by
  obtain ⟨o, n, d, o2, n2, d2, no⟩ := s
  obtain ⟨o', n', d', o2', n2', d2', no'⟩ := s'
  have k1 := lo_one a b N _ _ _ _ _ _ h.lo h'.lo
  have k2 := hi_one a b N _ _ _ _ _ _ h.hi h'.hi
  have k3 := h.no.trans h'.no.symm
  simp only at k1 k2 k3
  obtain ⟨rfl, rfl, rfl⟩ := k1
  obtain ⟨rfl, rfl, rfl⟩ := k2
  have : no = no' := Bool.eq_iff_iff.2 k3
  rw [this]

theorem span_alike (a b a' b' : Nat → Int) (N : Nat) (s : Spn) (hs : ∀ j, j < N → Alike (a j) (b j) (a' j) (b' j)) (h : SpanIs a b N s) : SpanIs a' b' N s :=
  ⟨lo_alike a b a' b' N _ _ _ hs h.lo, hi_alike a b a' b' N _ _ _ hs h.hi, by rw [none_alike a b a' b' N hs]; exact h.no⟩

theorem lo_den (a b : Nat → Int) (N : Nat) (o : Bool) (n d : Int) (h : LoIs a b N o n d) (ho : o = false) : 0 < d ∧ mayB d [n] = true := by
  rcases h with ⟨h1, _⟩ | ⟨_, h2, _⟩
  · rw [ho] at h1; cases h1
  · exact ⟨may_pos d n h2, h2⟩

theorem hi_den (a b : Nat → Int) (N : Nat) (o : Bool) (n d : Int) (h : HiIs a b N o n d) (ho : o = false) : 0 < d ∧ mayB d [n] = true := by
  rcases h with ⟨h1, _⟩ | ⟨_, h2, _⟩
  · rw [ho] at h1; cases h1
  · exact ⟨may_pos d n h2, h2⟩

/-- Within the span, and it is not empty: all are 0 or above. -/
theorem span_all (a b : Nat → Int) (N : Nat) (s : Spn) (h : SpanIs a b N s) (k e : Int) (he : 0 < e) :
    (∀ j, j < N → 0 ≤ a j * e + k * b j) ↔ (emptyS s = false ∧ (s.o = true ∨ s.n * e ≤ k * s.d) ∧ (s.o2 = true ∨ k * s.d2 ≤ s.n2 * e)) := by
  rw [span_in a b N _ _ _ _ _ _ h.lo h.hi k e he]
  constructor
  · rintro ⟨h1, h2, h3⟩
    refine ⟨?_, h2, h3⟩
    unfold emptyS
    rw [Bool.or_eq_false_iff]
    refine ⟨by rw [← Bool.not_eq_true]; exact fun e => h1 (h.no.1 e), ?_⟩
    rw [← Bool.not_eq_true]
    intro e1
    simp only [Bool.and_eq_true, Bool.not_eq_true', decide_eq_true_eq] at e1
    exact span_none _ _ _ _ _ _ (lo_den a b N _ _ _ h.lo e1.1.1).1 (hi_den a b N _ _ _ h.hi e1.1.2).1 e1.2 e1.1.1 e1.1.2 k e he ⟨h2, h3⟩
  · rintro ⟨h1, h2, h3⟩
    refine ⟨fun hn => ?_, h2, h3⟩
    unfold emptyS at h1
    rw [h.no.2 hn] at h1
    cases h1

end Num
end Go.Proofs.Ytloncgmgcnaalab
