/- Spans in plain numbers: where a number, and t times another one, are 0 or above, of several at once. -/
import Derived.Test.YtloncgmgcnaalabSlvA
namespace Go.Proofs.Ytloncgmgcnaalab
namespace Num

/-- A fraction in lowest terms is its own lowest form. -/
theorem mk_self (n d : Int) (h : mayB d [n] = true) : mk n d = (n, d, 0) := by
  obtain ⟨h1, h2, h3, h4⟩ := mayB_bd d [n] h
  rw [withinB_one] at h3
  simp only [Bool.and_eq_true, decide_eq_true_eq] at h3
  have hby : byOf d [n] = 1 := by
    unfold byOf
    rw [if_neg (by omega), h4]; rfl
  have hf : fitsB 1073741824 d [n] = true := by
    unfold fitsB
    rw [hby]
    simp only [List.map_cons, List.map_nil, Int.tdiv_one, withinB_one, Bool.and_eq_true, decide_eq_true_eq]
    omega
  rw [mk_in d n (by omega) (by omega) (by omega), hf, hby]
  simp

/-- One fraction in lowest terms, one form. -/
theorem frac_one (n d n' d' : Int) (h : mayB d [n] = true) (h' : mayB d' [n'] = true) (e : n * d' = n' * d) : n = n' ∧ d = d' := by
  obtain ⟨a1, a2, a3, _⟩ := mayB_bd d [n] h
  obtain ⟨b1, b2, b3, _⟩ := mayB_bd d' [n'] h'
  rw [withinB_one] at a3 b3
  simp only [Bool.and_eq_true, decide_eq_true_eq] at a3 b3
  have := mk_same n d n' d' e (by omega) (by omega) (by omega) (by omega) (by omega) (by omega)
  rw [mk_self n d h, mk_self n' d' h'] at this
  simp only [Prod.mk.injEq, and_true] at this
  exact this

theorem fits_small (u v : Int) (hv : v ≠ 0) (h1 : -1073741824 ≤ u ∧ u ≤ 1073741824) (h2 : -1073741824 ≤ v ∧ v ≤ 1073741824) : fitsB 1073741824 v [u] = true := by
  obtain ⟨g, g0, q1, q2, q3, q4, q5, q6, q7⟩ := pt_ok [u] v hv h2 (fun j => by
    match j with
    | 0 => simpa using h1
    | j + 1 => simp) (by simp)
  cases hf : fitsB 1073741824 v [u] with
  | true => rfl
  | false =>
    exfalso
    have hm : mk u v = (0, 0, 1) := by rw [mk_in v u hv (by omega) (by omega), hf]; rfl
    have := (pt_one_bad u v 0 0 1 hm (by omega)).1
    rw [this] at q1
    simp at q1

/-- A fraction that has small parts somewhere has a lowest form that may be. -/
theorem mk_rep (a b u v : Int) (hb : b ≠ 0) (hv : v ≠ 0) (h1 : -1073741824 ≤ u ∧ u ≤ 1073741824) (h2 : -1073741824 ≤ v ∧ v ≤ 1073741824) (ha : -4611686018427387904 ≤ a ∧ a ≤ 4611686018427387904) (hbb : -4611686018427387904 ≤ b ∧ b ≤ 4611686018427387904) (e : u * b = a * v) :
    ∃ x y, mk a b = (x, y, 0) ∧ x * b = a * y ∧ 1 ≤ y ∧ mayB y [x] = true := by
  have hs := mk_same a b u v e.symm hb hv hbb (by omega) ha (by omega)
  obtain ⟨x, y, e1, e2, e3, _, _, _, e7⟩ := mk_ok v u hv (by omega) (by omega) (fits_small u v hv h1 h2)
  refine ⟨x, y, by rw [hs, e1], ?_, e3, e7⟩
  refine Int.eq_of_mul_eq_mul_left hv ?_
  have k1 : v * (x * b) = x * v * b := by grind
  have k2 : v * (a * y) = a * v * y := by grind
  rw [k1, k2, e2, ← e]
  grind

/-- The least t at which all with a rising part are 0 or above. -/
def LoIs (a b : Nat → Int) (N : Nat) (o : Bool) (n d : Int) : Prop :=
  (o = true ∧ n = 0 ∧ d = 0 ∧ ∀ j, j < N → b j ≤ 0) ∨ (o = false ∧ mayB d [n] = true ∧ (∀ j, j < N → 0 < b j → 0 ≤ a j * d + n * b j) ∧ ∃ j, j < N ∧ 0 < b j ∧ a j * d + n * b j = 0)
/-- The greatest t at which all with a falling part are 0 or above. -/
def HiIs (a b : Nat → Int) (N : Nat) (o : Bool) (n d : Int) : Prop :=
  (o = true ∧ n = 0 ∧ d = 0 ∧ ∀ j, j < N → 0 ≤ b j) ∨ (o = false ∧ mayB d [n] = true ∧ (∀ j, j < N → b j < 0 → 0 ≤ a j * d + n * b j) ∧ ∃ j, j < N ∧ b j < 0 ∧ a j * d + n * b j = 0)
/-- One that is below 0 at all t. -/
def NoneIs (a b : Nat → Int) (N : Nat) : Prop := ∃ j, j < N ∧ b j = 0 ∧ a j < 0

theorem may_pos (d n : Int) (h : mayB d [n] = true) : 0 < d := by have := (mayB_bd d [n] h).1; omega

/-- t = k / e against n / d, through a number that is 0 at n / d. -/
theorem at_sign (a b n d k e : Int) (hz : a * d + n * b = 0) : d * (a * e + k * b) = (k * d - n * e) * b := by
  have : a * d = -(n * b) := by omega
  have h2 : d * (a * e + k * b) = a * d * e + k * d * b := by grind
  rw [h2, this]; grind

theorem lo_in (a b : Nat → Int) (N : Nat) (o : Bool) (n d : Int) (h : LoIs a b N o n d) (k e : Int) (he : 0 < e) : (o = true ∨ n * e ≤ k * d) ↔ ∀ j, j < N → 0 < b j → 0 ≤ a j * e + k * b j := by
  rcases h with ⟨h1, _, _, h4⟩ | ⟨h1, h2, h3, j0, hj0, hb0, hz⟩
  · exact ⟨fun _ j hj hb => by have := h4 j hj; omega, fun _ => Or.inl h1⟩
  · have hd := may_pos d n h2
    constructor
    · intro h j hj hb
      have hle : n * e ≤ k * d := by
        rcases h with h | h
        · rw [h1] at h; cases h
        · exact h
      have h5 := h3 j hj hb
      -- d * (a e + k b) = e (a d + n b) + (k d - n e) b
      have e1 : d * (a j * e + k * b j) = e * (a j * d + n * b j) + (k * d - n * e) * b j := by grind
      have p1 := Int.mul_nonneg (Int.le_of_lt he) h5
      have p2 := Int.mul_nonneg (show 0 ≤ k * d - n * e by omega) (Int.le_of_lt hb)
      exact (nonneg_mul_iff d _ hd).1 (by rw [e1]; omega)
    · intro h
      refine Or.inr ?_
      have h5 := h j0 hj0 hb0
      have e1 := at_sign (a j0) (b j0) n d k e hz
      have p1 := Int.mul_nonneg (Int.le_of_lt hd) h5
      rw [e1, Int.mul_comm] at p1
      have := (nonneg_mul_iff (b j0) _ hb0).1 p1
      omega

theorem hi_in (a b : Nat → Int) (N : Nat) (o : Bool) (n d : Int) (h : HiIs a b N o n d) (k e : Int) (he : 0 < e) : (o = true ∨ k * d ≤ n * e) ↔ ∀ j, j < N → b j < 0 → 0 ≤ a j * e + k * b j := by
  rcases h with ⟨h1, _, _, h4⟩ | ⟨h1, h2, h3, j0, hj0, hb0, hz⟩
  · exact ⟨fun _ j hj hb => by have := h4 j hj; omega, fun _ => Or.inl h1⟩
  · have hd := may_pos d n h2
    constructor
    · intro h j hj hb
      have hle : k * d ≤ n * e := by
        rcases h with h | h
        · rw [h1] at h; cases h
        · exact h
      have h5 := h3 j hj hb
      have e1 : d * (a j * e + k * b j) = e * (a j * d + n * b j) + (n * e - k * d) * -(b j) := by grind
      have p1 := Int.mul_nonneg (Int.le_of_lt he) h5
      have p2 := Int.mul_nonneg (show 0 ≤ n * e - k * d by omega) (show 0 ≤ -(b j) by omega)
      exact (nonneg_mul_iff d _ hd).1 (by rw [e1]; omega)
    · intro h
      refine Or.inr ?_
      have h5 := h j0 hj0 hb0
      have e1 := at_sign (a j0) (b j0) n d k e hz
      have p1 := Int.mul_nonneg (Int.le_of_lt hd) h5
      have e2 : (k * d - n * e) * b j0 = -(b j0) * (n * e - k * d) := by grind
      rw [e1, e2] at p1
      have := (nonneg_mul_iff (-(b j0)) _ (by omega)).1 p1
      omega

/-- Within the span: all are 0 or above. -/
theorem span_in (a b : Nat → Int) (N : Nat) (o o' : Bool) (n d n' d' : Int) (hl : LoIs a b N o n d) (hh : HiIs a b N o' n' d') (k e : Int) (he : 0 < e) :
    (∀ j, j < N → 0 ≤ a j * e + k * b j) ↔ (¬ NoneIs a b N ∧ (o = true ∨ n * e ≤ k * d) ∧ (o' = true ∨ k * d' ≤ n' * e)) := by
  rw [lo_in a b N o n d hl k e he, hi_in a b N o' n' d' hh k e he]
  constructor
  · refine fun h => ⟨?_, fun j hj _ => h j hj, fun j hj _ => h j hj⟩
    rintro ⟨j, hj, hb, ha⟩
    have := h j hj
    rw [hb] at this
    have h2 := Int.mul_neg_of_neg_of_pos ha he
    omega
  · rintro ⟨h1, h2, h3⟩ j hj
    rcases Int.lt_trichotomy (b j) 0 with hb | hb | hb
    · exact h3 j hj hb
    · have ha : 0 ≤ a j := Int.not_lt.1 fun h => h1 ⟨j, hj, hb, h⟩
      have := Int.mul_nonneg ha (Int.le_of_lt he)
      rw [hb]; omega
    · exact h2 j hj hb

/-- An end ahead of the other one: nothing is within. -/
theorem span_none (o o' : Bool) (n d n' d' : Int) (hd : 0 < d) (hd' : 0 < d') (hlt : n' * d < n * d') (ho : o = false) (ho' : o' = false) (k e : Int) (he : 0 < e) : ¬ ((o = true ∨ n * e ≤ k * d) ∧ (o' = true ∨ k * d' ≤ n' * e)) := by
  rintro ⟨h1, h2⟩
  have h3 : n * e ≤ k * d := by rcases h1 with h | h; · rw [ho] at h; cases h
                                · exact h
  have h4 : k * d' ≤ n' * e := by rcases h2 with h | h; · rw [ho'] at h; cases h
                                  · exact h
  have p1 := Int.mul_le_mul_of_nonneg_right h3 (Int.le_of_lt hd')
  have p2 := Int.mul_le_mul_of_nonneg_right h4 (Int.le_of_lt hd)
  have p3 := Int.mul_lt_mul_of_pos_right hlt he
  have e1 : k * d * d' = k * d' * d := by grind
  have e2 : n * e * d' = n * d' * e := by grind
  have e3 : n' * e * d = n' * d * e := by grind
  omega

/-- The ends are told by what they are. -/
theorem lo_one (a b : Nat → Int) (N : Nat) (o o' : Bool) (n d n' d' : Int) (h : LoIs a b N o n d) (h' : LoIs a b N o' n' d') : o = o' ∧ n = n' ∧ d = d' := by
  rcases h with ⟨h1, h2, h3, h4⟩ | ⟨h1, h2, h3, j0, hj0, hb0, hz⟩ <;> rcases h' with ⟨g1, g2, g3, g4⟩ | ⟨g1, g2, g3, j1, hj1, hb1, hz1⟩
  · exact ⟨by rw [h1, g1], by omega, by omega⟩
  · have := h4 j1 hj1; omega
  · have := g4 j0 hj0; omega
  · have hd := may_pos d n h2
    have hd' := may_pos d' n' g2
    have L : ∀ (n d n' d' : Int) (j : Nat), 0 < d → 0 < d' → 0 < b j → a j * d + n * b j = 0 → 0 ≤ a j * d' + n' * b j → n * d' ≤ n' * d := by
      intro n d n' d' j hd hd' hb hz hp
      have e1 := at_sign (a j) (b j) n d n' d' hz
      have p1 := Int.mul_nonneg (Int.le_of_lt hd) hp
      rw [e1, Int.mul_comm] at p1
      have := (nonneg_mul_iff (b j) _ hb).1 p1
      omega
    have p1 := L n d n' d' j0 hd hd' hb0 hz (g3 j0 hj0 hb0)
    have p2 := L n' d' n d j1 hd' hd hb1 hz1 (h3 j1 hj1 hb1)
    have := frac_one n d n' d' h2 g2 (by omega)
    exact ⟨by rw [h1, g1], this.1, this.2⟩

theorem hi_one (a b : Nat → Int) (N : Nat) (o o' : Bool) (n d n' d' : Int) (h : HiIs a b N o n d) (h' : HiIs a b N o' n' d') : o = o' ∧ n = n' ∧ d = d' := by
  rcases h with ⟨h1, h2, h3, h4⟩ | ⟨h1, h2, h3, j0, hj0, hb0, hz⟩ <;> rcases h' with ⟨g1, g2, g3, g4⟩ | ⟨g1, g2, g3, j1, hj1, hb1, hz1⟩
  · exact ⟨by rw [h1, g1], by omega, by omega⟩
  · have := h4 j1 hj1; omega
  · have := g4 j0 hj0; omega
  · have hd := may_pos d n h2
    have hd' := may_pos d' n' g2
    have L : ∀ (n d n' d' : Int) (j : Nat), 0 < d → 0 < d' → b j < 0 → a j * d + n * b j = 0 → 0 ≤ a j * d' + n' * b j → n' * d ≤ n * d' := by
      intro n d n' d' j hd hd' hb hz hp
      have e1 := at_sign (a j) (b j) n d n' d' hz
      have p1 := Int.mul_nonneg (Int.le_of_lt hd) hp
      have e2 : (n' * d - n * d') * b j = -(b j) * (n * d' - n' * d) := by grind
      rw [e1, e2] at p1
      have := (nonneg_mul_iff (-(b j)) _ (by omega)).1 p1
      omega
    have p1 := L n d n' d' j0 hd hd' hb0 hz (g3 j0 hj0 hb0)
    have p2 := L n' d' n d j1 hd' hd hb1 hz1 (h3 j1 hj1 hb1)
    have := frac_one n d n' d' h2 g2 (by omega)
    exact ⟨by rw [h1, g1], this.1, this.2⟩

theorem lo_zero (a b : Nat → Int) : LoIs a b 0 true 0 0 := Or.inl ⟨rfl, rfl, rfl, fun j hj => by omega⟩
theorem hi_zero (a b : Nat → Int) : HiIs a b 0 true 0 0 := Or.inl ⟨rfl, rfl, rfl, fun j hj => by omega⟩

/-- One more: it does not rise. -/
theorem lo_skip (a b : Nat → Int) (N : Nat) (o : Bool) (n d : Int) (h : LoIs a b N o n d) (hb : b N ≤ 0) : LoIs a b (N + 1) o n d := by
  rcases h with ⟨h1, h2, h3, h4⟩ | ⟨h1, h2, h3, j0, hj0, hb0, hz⟩
  · refine Or.inl ⟨h1, h2, h3, fun j hj => ?_⟩
    by_cases hjN : j = N
    · subst hjN; exact hb
    · exact h4 j (by omega)
  · refine Or.inr ⟨h1, h2, fun j hj hp => ?_, j0, by omega, hb0, hz⟩
    by_cases hjN : j = N
    · subst hjN; omega
    · exact h3 j (by omega) hp

theorem hi_skip (a b : Nat → Int) (N : Nat) (o : Bool) (n d : Int) (h : HiIs a b N o n d) (hb : 0 ≤ b N) : HiIs a b (N + 1) o n d := by
  rcases h with ⟨h1, h2, h3, h4⟩ | ⟨h1, h2, h3, j0, hj0, hb0, hz⟩
  · refine Or.inl ⟨h1, h2, h3, fun j hj => ?_⟩
    by_cases hjN : j = N
    · subst hjN; exact hb
    · exact h4 j (by omega)
  · refine Or.inr ⟨h1, h2, fun j hj hp => ?_, j0, by omega, hb0, hz⟩
    by_cases hjN : j = N
    · subst hjN; omega
    · exact h3 j (by omega) hp

/-- One more that rises, and is the last one to come up to 0. -/
theorem lo_take (a b : Nat → Int) (N : Nat) (o : Bool) (n d : Int) (h : LoIs a b N o n d) (hb : 0 < b N) (x y : Int) (hm : mayB y [x] = true) (hx : a N * y + x * b N = 0) (hc : o = true ∨ n * y ≤ x * d) : LoIs a b (N + 1) false x y := by
  have hy := may_pos y x hm
  refine Or.inr ⟨rfl, hm, fun j hj hp => ?_, N, by omega, hb, hx⟩
  by_cases hjN : j = N
  · subst hjN; omega
  · exact (lo_in a b N o n d h x y hy).1 hc j (by omega) hp

theorem hi_take (a b : Nat → Int) (N : Nat) (o : Bool) (n d : Int) (h : HiIs a b N o n d) (hb : b N < 0) (x y : Int) (hm : mayB y [x] = true) (hx : a N * y + x * b N = 0) (hc : o = true ∨ x * d ≤ n * y) : HiIs a b (N + 1) false x y := by
  have hy := may_pos y x hm
  refine Or.inr ⟨rfl, hm, fun j hj hp => ?_, N, by omega, hb, hx⟩
  by_cases hjN : j = N
  · subst hjN; omega
  · exact (hi_in a b N o n d h x y hy).1 hc j (by omega) hp

/-- One more that rises, and is up already. -/
theorem lo_stay (a b : Nat → Int) (N : Nat) (n d : Int) (h : LoIs a b N false n d) (hb : 0 < b N) (x y : Int) (hy : 0 < y) (hx : a N * y + x * b N = 0) (hc : x * d ≤ n * y) : LoIs a b (N + 1) false n d := by
  rcases h with ⟨h1, _⟩ | ⟨h1, h2, h3, j0, hj0, hb0, hz⟩
  · cases h1
  · have hd := may_pos d n h2
    refine Or.inr ⟨rfl, h2, fun j hj hp => ?_, j0, by omega, hb0, hz⟩
    by_cases hjN : j = N
    · subst hjN
      have e1 := at_sign (a j) (b j) x y n d hx
      have p1 := Int.mul_nonneg (show 0 ≤ n * y - x * d by omega) (Int.le_of_lt hp)
      exact (nonneg_mul_iff y _ hy).1 (by rw [e1]; exact p1)
    · exact h3 j (by omega) hp

theorem hi_stay (a b : Nat → Int) (N : Nat) (n d : Int) (h : HiIs a b N false n d) (hb : b N < 0) (x y : Int) (hy : 0 < y) (hx : a N * y + x * b N = 0) (hc : n * y ≤ x * d) : HiIs a b (N + 1) false n d := by
  rcases h with ⟨h1, _⟩ | ⟨h1, h2, h3, j0, hj0, hb0, hz⟩
  · cases h1
  · refine Or.inr ⟨rfl, h2, fun j hj hp => ?_, j0, by omega, hb0, hz⟩
    by_cases hjN : j = N
    · subst hjN
      have e1 := at_sign (a j) (b j) x y n d hx
      have e2 : (n * y - x * d) * b j = (x * d - n * y) * -(b j) := by grind
      have p1 := Int.mul_nonneg (show 0 ≤ x * d - n * y by omega) (show 0 ≤ -(b j) by omega)
      exact (nonneg_mul_iff y _ hy).1 (by rw [e1, e2]; exact p1)
    · exact h3 j (by omega) hp

/-- Two pairs of numbers that are the same but for a factor above 0. -/
def Alike (a b a' b' : Int) : Prop := ∃ k l : Int, 0 < k ∧ 0 < l ∧ l * a' = k * a ∧ l * b' = k * b

theorem alike_sum (a b a' b' x y : Int) (h : Alike a b a' b') : ∃ k l : Int, 0 < k ∧ 0 < l ∧ l * (a' * x + y * b') = k * (a * x + y * b) := by
  obtain ⟨k, l, h1, h2, h3, h4⟩ := h
  refine ⟨k, l, h1, h2, ?_⟩
  have e1 : l * (a' * x + y * b') = l * a' * x + y * (l * b') := by grind
  rw [e1, h3, h4]; grind

theorem alike_pos (a b a' b' : Int) (h : Alike a b a' b') : (0 < b' ↔ 0 < b) ∧ (b' < 0 ↔ b < 0) ∧ (b' = 0 ↔ b = 0) ∧ (a' < 0 ↔ a < 0) := by
  obtain ⟨k, l, h1, h2, h3, h4⟩ := h
  have P : ∀ u v : Int, l * u = k * v → (0 < u ↔ 0 < v) := fun u v e => by rw [← pos_mul_iff l u h2, e, pos_mul_iff k v h1]
  have M : ∀ u v : Int, l * u = k * v → (u < 0 ↔ v < 0) := fun u v e => by
    have := P (-u) (-v) (by rw [Int.mul_neg, Int.mul_neg, e])
    omega
  have p1 := P b' b h4
  have p2 := M b' b h4
  exact ⟨p1, p2, by omega, M a' a h3⟩

theorem lo_alike (a b a' b' : Nat → Int) (N : Nat) (o : Bool) (n d : Int) (hs : ∀ j, j < N → Alike (a j) (b j) (a' j) (b' j)) (h : LoIs a b N o n d) : LoIs a' b' N o n d := by
  rcases h with ⟨h1, h2, h3, h4⟩ | ⟨h1, h2, h3, j0, hj0, hb0, hz⟩
  · exact Or.inl ⟨h1, h2, h3, fun j hj => by have := (alike_pos _ _ _ _ (hs j hj)).1; have := h4 j hj; omega⟩
  · refine Or.inr ⟨h1, h2, fun j hj hp => ?_, j0, hj0, ((alike_pos _ _ _ _ (hs j0 hj0)).1).2 hb0, ?_⟩
    · obtain ⟨k, l, k0, l0, e⟩ := alike_sum _ _ _ _ d n (hs j hj)
      have := Int.mul_nonneg (Int.le_of_lt k0) (h3 j hj (((alike_pos _ _ _ _ (hs j hj)).1).1 hp))
      exact (nonneg_mul_iff l _ l0).1 (by rw [e]; exact this)
    · obtain ⟨k, l, k0, l0, e⟩ := alike_sum _ _ _ _ d n (hs j0 hj0)
      rw [hz, Int.mul_zero] at e
      rcases Int.mul_eq_zero.1 e with h | h
      · omega
      · exact h

theorem hi_alike (a b a' b' : Nat → Int) (N : Nat) (o : Bool) (n d : Int) (hs : ∀ j, j < N → Alike (a j) (b j) (a' j) (b' j)) (h : HiIs a b N o n d) : HiIs a' b' N o n d := by
  rcases h with ⟨h1, h2, h3, h4⟩ | ⟨h1, h2, h3, j0, hj0, hb0, hz⟩
  · exact Or.inl ⟨h1, h2, h3, fun j hj => by have := (alike_pos _ _ _ _ (hs j hj)).2.1; have := h4 j hj; omega⟩
  · refine Or.inr ⟨h1, h2, fun j hj hp => ?_, j0, hj0, ((alike_pos _ _ _ _ (hs j0 hj0)).2.1).2 hb0, ?_⟩
    · obtain ⟨k, l, k0, l0, e⟩ := alike_sum _ _ _ _ d n (hs j hj)
      have := Int.mul_nonneg (Int.le_of_lt k0) (h3 j hj (((alike_pos _ _ _ _ (hs j hj)).2.1).1 hp))
      exact (nonneg_mul_iff l _ l0).1 (by rw [e]; exact this)
    · obtain ⟨k, l, k0, l0, e⟩ := alike_sum _ _ _ _ d n (hs j0 hj0)
      rw [hz, Int.mul_zero] at e
      rcases Int.mul_eq_zero.1 e with h | h
      · omega
      · exact h

theorem none_alike (a b a' b' : Nat → Int) (N : Nat) (hs : ∀ j, j < N → Alike (a j) (b j) (a' j) (b' j)) : NoneIs a' b' N ↔ NoneIs a b N := by
  constructor
  · rintro ⟨j, hj, hb, ha⟩
    have := alike_pos _ _ _ _ (hs j hj)
    exact ⟨j, hj, this.2.2.1.1 hb, this.2.2.2.1 ha⟩
  · rintro ⟨j, hj, hb, ha⟩
    have := alike_pos _ _ _ _ (hs j hj)
    exact ⟨j, hj, this.2.2.1.2 hb, this.2.2.2.2 ha⟩

end Num
end Go.Proofs.Ytloncgmgcnaalab
