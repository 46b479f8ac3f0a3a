/- Spans in plain numbers: where a number, and t times another one, are 0 or above, of several at once. -/
import Derived.Test.YtipcbhodlgoflabGreatPlnA
namespace Go.Proofs.YtipcbhodlgoflabGreat
namespace Num

/-- A fraction in lowest terms is its own lowest form. -/
theorem mk_self (n d : Int) (h : mayB d [n] = true) : mk n d = (n, d, 0) := by
  obtain ⟨h1, h2, h3, h4⟩ := mayB_bd d [n] h
  rw [withinB_one] at h3
  simp only [Bool.and_eq_true, decide_eq_true_eq] at h3
  have hby : byOf d [n] = 1 := by
    unfold byOf
    rw [if_neg (by omega), h4]; rfl
  have hf : fitsB 1073741824 d [n] = true := by
    unfold fitsB
    rw [hby]
    simp only [List.map_cons, List.map_nil, Int.tdiv_one, withinB_one, Bool.and_eq_true, decide_eq_true_eq]
    omega
  rw [mk_in d n (by omega) (by omega) (by omega), hf, hby]
  simp

/-- One fraction in lowest terms, one form. -/
theorem frac_one (n d n' d' : Int) (h : mayB d [n] = true) (h' : mayB d' [n'] = true) (e : n * d' = n' * d) : n = n' ∧ d = d' := by
  obtain ⟨a1, a2, a3, _⟩ := mayB_bd d [n] h
  obtain ⟨b1, b2, b3, _⟩ := mayB_bd d' [n'] h'
  rw [withinB_one] at a3 b3
  simp only [Bool.and_eq_true, decide_eq_true_eq] at a3 b3
  have := mk_same n d n' d' e (by omega) (by omega) (by omega) (by omega) (by omega) (by omega)
  rw [mk_self n d h, mk_self n' d' h'] at this
  simp only [Prod.mk.injEq, and_true] at this
  exact this

theorem fits_small (u v : Int) (hv : v ≠ 0) (h1 : -1073741824 ≤ u ∧ u ≤ 1073741824) (h2 : -1073741824 ≤ v ∧ v ≤ 1073741824) : fitsB 1073741824 v [u] = true := by
  obtain ⟨g, g0, q1, q2, q3, q4, q5, q6, q7⟩ := pt_ok [u] v hv h2 (fun j => by
    match j with
    | 0 => simpa using h1
    | j + 1 => simp) (by simp)
  cases hf : fitsB 1073741824 v [u] with
  | true => rfl
  | false =>
    exfalso
    have hm : mk u v = (0, 0, 1) := by rw [mk_in v u hv (by omega) (by omega), hf]; rfl
    have := (pt_one_bad u v 0 0 1 hm (by omega)).1
    rw [this] at q1
    simp at q1

/-- A fraction that has small parts somewhere has a lowest form that may be. -/
theorem mk_rep (a b u v : Int) (hb : b ≠ 0) (hv : v ≠ 0) (h1 : -1073741824 ≤ u ∧ u ≤ 1073741824) (h2 : -1073741824 ≤ v ∧ v ≤ 1073741824) (ha : -4611686018427387904 ≤ a ∧ a ≤ 4611686018427387904) (hbb : -4611686018427387904 ≤ b ∧ b ≤ 4611686018427387904) (e : u * b = a * v) :
    ∃ x y, mk a b = (x, y, 0) ∧ x * b = a * y ∧ 1 ≤ y ∧ mayB y [x] = true := by
  have hs := mk_same a b u v e.symm hb hv hbb (by omega) ha (by omega)
  obtain ⟨x, y, e1, e2, e3, _, _, _, e7⟩ := mk_ok v u hv (by omega) (by omega) (fits_small u v hv h1 h2)
  refine ⟨x, y, by rw [hs, e1], ?_, e3, e7⟩
  refine Int.eq_of_mul_eq_mul_left hv ?_
  have k1 : v * (x * b) = x * v * b := by grind
  have k2 : v * (a * y) = a * v * y := by grind
  rw [k1, k2, e2, ← e]
  grind

/-- The least t at which all with a rising part are 0 or above. -/
def LoIs (a b : Nat → Int) (N : Nat) (o : Bool) (n d : Int) : Prop :=
  (o = true ∧ n = 0 ∧ d = 0 ∧ ∀ j, j < N → b j ≤ 0) ∨ (o = false ∧ mayB d [n] = true ∧ (∀ j, j < N → 0 < b j → 0 ≤ a j * d + n * b j) ∧ ∃ j, j < N ∧ 0 < b j ∧ a j * d + n * b j = 0)
/-- The greatest t at which all with a falling part are 0 or above. -/
def HiIs (a b : Nat → Int) (N : Nat) (o : Bool) (n d : Int) : Prop :=
  (o = true ∧ n = 0 ∧ d = 0 ∧ ∀ j, j < N → 0 ≤ b j) ∨ (o = false ∧ mayB d [n] = true ∧ (∀ j, j < N → b j < 0 → 0 ≤ a j * d + n * b j) ∧ ∃ j, j < N ∧ b j < 0 ∧ a j * d + n * b j = 0)
/-- One that is below 0 at all t. -/
def NoneIs (a b : Nat → Int) (N : Nat) : Prop := ∃ j, j < N ∧ b j = 0 ∧ a j < 0

theorem may_pos (d n : Int) (h : mayB d [n] = true) : 0 < d := by have := (mayB_bd d [n] h).1; omega

/-- t = k / e against n / d, through a number that is 0 at n / d. -/
theorem at_sign (a b n d k e : Int) (hz : a * d + n * b = 0) : d * (a * e + k * b) = (k * d - n * e) * b := by
  have : a * d = -(n * b) := by omega
  have h2 : d * (a * e + k * b) = a * d * e + k * d * b := by grind
  rw [h2, this]; grind

theorem lo_in (a b : Nat → Int) (N : Nat) (o : Bool) (n d : Int) (h : LoIs a b N o n d) (k e : Int) (he : 0 < e) : (o = true ∨ n * e ≤ k * d) ↔ ∀ j, j < N → 0 < b j → 0 ≤ a j * e + k * b j := by
  rcases h with ⟨h1, _, _, h4⟩ | ⟨h1, h2, h3, j0, hj0, hb0, hz⟩
  · exact ⟨fun _ j hj hb => by have := h4 j hj; omega, fun _ => Or.inl h1⟩
  · have hd := may_pos d n h2
    constructor
    · intro h j hj hb
      have hle : n * e ≤ k * d := by
        rcases h with h | h
        · rw [h1] at h; cases h
        · exact h
      have h5 := h3 j hj hb
      -- d * (a e + k b) = e (a d + n b) + (k d - n e) b
      have e1 : d * (a j * e + k * b j) = e * (a j * d + n * b j) + (k * d - n * e) * b j := by grind
      have p1 := Int.mul_nonneg (Int.le_of_lt he) h5
      have p2 := Int.mul_nonneg (show 0 ≤ k * d - n * e by omega) (Int.le_of_lt hb)
      exact (nonneg_mul_iff d _ hd).1 (by rw [e1]; omega)
    · intro h
      refine Or.inr ?_
      have h5 := h j0 hj0 hb0
      have e1 := at_sign (a j0) (b j0) n d k e hz
      have p1 := Int.mul_nonneg (Int.le_of_lt hd) h5
      rw [e1, Int.mul_comm] at p1
      have := (nonneg_mul_iff (b j0) _ hb0).1 p1
      omega

theorem hi_in (a b : Nat → Int) (N : Nat) (o : Bool) (n d : Int) (h : HiIs a b N o n d) (k e : Int) (he : 0 < e) : (o = true ∨ k * d ≤ n * e) ↔ ∀ j, j < N → b j < 0 → 0 ≤ a j * e + k * b j := by
  rcases h with ⟨h1, _, _, h4⟩ | ⟨h1, h2, h3, j0, hj0, hb0, hz⟩
  · exact ⟨fun _ j hj hb => by have := h4 j hj; omega, fun _ => Or.inl h1⟩
  · have hd := may_pos d n h2
    constructor
    · intro h j hj hb
      have hle : k * d ≤ n * e := by
        rcases h with h | h
        · rw [h1] at h; cases h
        · exact h
      have h5 := h3 j hj hb
      have e1 : d * (a j * e + k * b j) = e * (a j * d + n * b j) + (n * e - k * d) * -(b j) := by grind
      have p1 := Int.mul_nonneg (Int.le_of_lt he) h5
      have p2 := Int.mul_nonneg (show 0 ≤ n * e - k * d by omega) (show 0 ≤ -(b j) by omega)
      exact (nonneg_mul_iff d _ hd).1 (by rw [e1]; omega)
    · intro h
      refine Or.inr ?_
      have h5 := h j0 hj0 hb0
      have e1 := at_sign (a j0) (b j0) n d k e hz
      have p1 := Int.mul_nonneg (Int.le_of_lt hd) h5
      have e2 : (k * d - n * e) * b j0 = -(b j0) * (n * e - k * d) := by grind
      rw [e1, e2] at p1
      have := (nonneg_mul_iff (-(b j0)) _ (by omega)).1 p1
      omega

/-- Within the span: all are 0 or above. -/
theorem span_in (a b : Nat → Int) (N : Nat) (o o' : Bool) (n d n' d' : Int) (hl : LoIs a b N o n d) (hh : HiIs a b N o' n' d') (k e : Int) (he : 0 < e) :
    (∀ j, j < N → 0 ≤ a j * e + k * b j) ↔ (¬ NoneIs a b N ∧ (o = true ∨ n * e ≤ k * d) ∧ (o' = true ∨ k * d' ≤ n' * e)) := by
  rw [lo_in a b N o n d hl k e he, hi_in a b N o' n' d' hh k e he]
  constructor
  · refine fun h => ⟨?_, fun j hj _ => h j hj, fun j hj _ => h j hj⟩
    rintro ⟨j, hj, hb, ha⟩
    have := h j hj
    rw [hb] at this
    have h2 := Int.mul_neg_of_neg_of_pos ha he
    omega
  · rintro ⟨h1, h2, h3⟩ j hj
    rcases Int.lt_trichotomy (b j) 0 with hb | hb | hb
    · exact h3 j hj hb
    · have ha : 0 ≤ a j := Int.not_lt.1 fun h => h1 ⟨j, hj, hb, h⟩
      have := Int.mul_nonneg ha (Int.le_of_lt he)
      rw [hb]; omega
    · exact h2 j hj hb

/-- An end ahead of the other one: nothing is within. -/
theorem span_none (o o' : Bool) (n d n' d' : Int) (hd : 0 < d) (hd' : 0 < d') (hlt : n' * d < n * d') (ho : o = false) (ho' : o' = false) (k e : Int) (he : 0 < e) : ¬ ((o = true ∨ n * e ≤ k * d) ∧ (o' = true ∨ k * d' ≤ n' * e)) := by
  rintro ⟨h1, h2⟩
  have h3 : n * e ≤ k * d := by rcases h1 with h | h; · rw [ho] at h; cases h
                                · exact h
  have h4 : k * d' ≤ n' * e := by rcases h2 with h | h; · rw [ho'] at h; cases h
                                  · exact h
  have p1 := Int.mul_le_mul_of_nonneg_right h3 (Int.le_of_lt hd')
  have p2 := Int.mul_le_mul_of_nonneg_right h4 (Int.le_of_lt hd)
  have p3 := Int.mul_lt_mul_of_pos_right hlt he
  have e1 : k * d * d' = k * d' * d := by grind
  have e2 : n * e * d' = n * d' * e := by grind
  have e3 : n' * e * d = n' * d * e := by grind
  omega

theorem lo_zero (a b : Nat → Int) : LoIs a b 0 true 0 0 := Or.inl ⟨rfl, rfl, rfl, fun j hj => by omega⟩
theorem hi_zero (a b : Nat → Int) : HiIs a b 0 true 0 0 := Or.inl ⟨rfl, rfl, rfl, fun j hj => by omega⟩

/-- One more: it does not rise. -/
theorem lo_skip (a b : Nat → Int) (N : Nat) (o : Bool) (n d : Int) (h : LoIs a b N o n d) (hb : b N ≤ 0) : LoIs a b (N + 1) o n d := by
  rcases h with ⟨h1, h2, h3, h4⟩ | ⟨h1, h2, h3, j0, hj0, hb0, hz⟩
  · refine Or.inl ⟨h1, h2, h3, fun j hj => ?_⟩
    by_cases hjN : j = N
    · subst hjN; exact hb
    · exact h4 j (by omega)
  · refine Or.inr ⟨h1, h2, fun j hj hp => ?_, j0, by omega, hb0, hz⟩
    by_cases hjN : j = N
    · subst hjN; omega
    · exact h3 j (by omega) hp

theorem hi_skip (a b : Nat → Int) (N : Nat) (o : Bool) (n d : Int) (h : HiIs a b N o n d) (hb : 0 ≤ b N) : HiIs a b (N + 1) o n d := by
  rcases h with ⟨h1, h2, h3, h4⟩ | ⟨h1, h2, h3, j0, hj0, hb0, hz⟩
  · refine Or.inl ⟨h1, h2, h3, fun j hj => ?_⟩
    by_cases hjN : j = N
    · subst hjN; exact hb
    · exact h4 j (by omega)
  · refine Or.inr ⟨h1, h2, fun j hj hp => ?_, j0, by omega, hb0, hz⟩
    by_cases hjN : j = N
    · subst hjN; omega
    · exact h3 j (by omega) hp

/-- One more that rises, and is the last one to come up to 0. -/
theorem lo_take (a b : Nat → Int) (N : Nat) (o : Bool) (n d : Int) (h : LoIs a b N o n d) (hb : 0 < b N) (x y : Int) (hm : mayB y [x] = true) (hx : a N * y + x * b N = 0) (hc : o = true ∨ n * y ≤ x * d) : LoIs a b (N + 1) false x y := by
  have hy := may_pos y x hm
  refine Or.inr ⟨rfl, hm, fun j hj hp => ?_, N, by omega, hb, hx⟩
  by_cases hjN : j = N
  · subst hjN; omega
  · exact (lo_in a b N o n d h x y hy).1 hc j (by omega) hp

theorem hi_take (a b : Nat → Int) (N : Nat) (o : Bool) (n d : Int) (h : HiIs a b N o n d) (hb : b N < 0) (x y : Int) (hm : mayB y [x] = true) (hx : a N * y + x * b N = 0) (hc : o = true ∨ x * d ≤ n * y) : HiIs a b (N + 1) false x y := by
  have hy := may_pos y x hm
  refine Or.inr ⟨rfl, hm, fun j hj hp => ?_, N, by omega, hb, hx⟩
  by_cases hjN : j = N
  · subst hjN; omega
  · exact (hi_in a b N o n d h x y hy).1 hc j (by omega) hp

/-- One more that rises, and is up already. -/
theorem lo_stay (a b : Nat → Int) (N : Nat) (n d : Int) (h : LoIs a b N false n d) (hb : 0 < b N) (x y : Int) (hy : 0 < y) (hx : a N * y + x * b N = 0) (hc : x * d ≤ n * y) : LoIs a b (N + 1) false n d := by
  rcases h with ⟨h1, _⟩ | ⟨h1, h2, h3, j0, hj0, hb0, hz⟩
  · cases h1
  · have hd := may_pos d n h2
    refine Or.inr ⟨rfl, h2, fun j hj hp => ?_, j0, by omega, hb0, hz⟩
    by_cases hjN : j = N
    · subst hjN
      have e1 := at_sign (a j) (b j) x y n d hx
      have p1 := Int.mul_nonneg (show 0 ≤ n * y - x * d by omega) (Int.le_of_lt hp)
      exact (nonneg_mul_iff y _ hy).1 (by rw [e1]; exact p1)
    · exact h3 j (by omega) hp

theorem hi_stay (a b : Nat → Int) (N : Nat) (n d : Int) (h : HiIs a b N false n d) (hb : b N < 0) (x y : Int) (hy : 0 < y) (hx : a N * y + x * b N = 0) (hc : n * y ≤ x * d) : HiIs a b (N + 1) false n d := by
  rcases h with ⟨h1, _⟩ | ⟨h1, h2, h3, j0, hj0, hb0, hz⟩
  · cases h1
  · refine Or.inr ⟨rfl, h2, fun j hj hp => ?_, j0, by omega, hb0, hz⟩
    by_cases hjN : j = N
    · subst hjN
      have e1 := at_sign (a j) (b j) x y n d hx
      have e2 : (n * y - x * d) * b j = (x * d - n * y) * -(b j) := by grind
      have p1 := Int.mul_nonneg (show 0 ≤ x * d - n * y by omega) (show 0 ≤ -(b j) by omega)
      exact (nonneg_mul_iff y _ hy).1 (by rw [e1, e2]; exact p1)
    · exact h3 j (by omega) hp

/-- Two pairs of numbers that are the same but for a factor above 0. -/
def Alike (a b a' b' : Int) : Prop := ∃ k l : Int, 0 < k ∧ 0 < l ∧ l * a' = k * a ∧ l * b' = k * b

theorem alike_sum (a b a' b' x y : Int) (h : Alike a b a' b') : ∃ k l : Int, 0 < k ∧ 0 < l ∧ l * (a' * x + y * b') = k * (a * x + y * b) := by
  obtain ⟨k, l, h1, h2, h3, h4⟩ := h
  refine ⟨k, l, h1, h2, ?_⟩
  have e1 : l * (a' * x + y * b') = l * a' * x + y * (l * b') := by grind
  rw [e1, h3, h4]; grind

theorem alike_pos (a b a' b' : Int) (h : Alike a b a' b') : (0 < b' ↔ 0 < b) ∧ (b' < 0 ↔ b < 0) ∧ (b' = 0 ↔ b = 0) ∧ (a' < 0 ↔ a < 0) := by
  obtain ⟨k, l, h1, h2, h3, h4⟩ := h
  have P : ∀ u v : Int, l * u = k * v → (0 < u ↔ 0 < v) := fun u v e => by rw [← pos_mul_iff l u h2, e, pos_mul_iff k v h1]
  have M : ∀ u v : Int, l * u = k * v → (u < 0 ↔ v < 0) := fun u v e => by
    have := P (-u) (-v) (by rw [Int.mul_neg, Int.mul_neg, e])
    omega
  have p1 := P b' b h4
  have p2 := M b' b h4
  exact ⟨p1, p2, by omega, M a' a h3⟩

end Num
end Go.Proofs.YtipcbhodlgoflabGreat

/- Corners of programs whose costs are of any size, in plain numbers: one without gains is found, or a way that rises without end. -/
namespace Go.Proofs.YtipcbhodlgoflabGreat
namespace Num

theorem comes_gain_b (p : Lp) (at' : List Int) (m n : Nat) (h1 : 1 ≤ m) (h4 : m ≤ 4) (hm : m = p.rows.length) (hr : rightB at' m (n + m) = true) (k : Nat) (hk : k < m) : (gainL p at' m (n + m))[atF at' k]?.getD 0 = 0 := by
  have hsq := turn_sq _ m (chosen_sq p at' m)
  have hc := cramer m (turnL (chosenL p at' m)) (worthsL p at' m) hsq (by simp [worthsL]) h1 h4 k hk
  rw [vol_turn m _ (chosen_sq p at' m) h1 h4] at hc
  have e0 : (worthsL p at' m)[k]?.getD 0 = p.costs[atF at' k]?.getD 0 := by unfold worthsL; rw [range_getD, if_pos hk]
  rw [e0] at hc
  unfold gainL
  rw [range_getD, if_pos (atF_lt at' (n + m) m hr k hk)]
  unfold gainF
  rw [← hm]
  have e1 : dotN ((List.range m).map (hasF p (atF at' k))) (priceL p at' m) m = crm (turnL (chosenL p at' m)) (worthsL p at' m) m k := by
    unfold crm
    rw [dotN_sum, dotN_sum]
    refine sumN_congr _ _ _ fun i hi => ?_
    rw [range_getD, if_pos hi, range_getD, if_pos hi, Int.mul_comm]
    congr 1
    rw [← down_turn]
    exact (at2_grid (fun i k => hasF p (atF at' k) i) m i k hi hk).symm
  rw [e1, hc]
  show p.costs[atF at' k]?.getD 0 * vol (chosenL p at' m) none4 - vol (chosenL p at' m) none4 * p.costs[atF at' k]?.getD 0 = 0
  rw [Int.mul_comm]; omega

theorem NextOk.out_b {p : Lp} {at' at2' : List Int} {m n s k : Nat} (h : NextOk p at' at2' m (n + m) s k) (h1 : 1 ≤ m) (h4 : m ≤ 4) (hm : m = p.rows.length) : inB at' m s = false := by
  cases hb : inB at' m s with
  | false => rfl
  | true =>
    obtain ⟨i, hi, hs⟩ := (inB_true at' m s).1 hb
    have := comes_gain_b p at' m n h1 h4 hm h.right i hi
    have h2 := h.sg
    rw [← hs, this] at h2
    omega

theorem steps_of_b (p : Lp) (m n : Nat) (h1 : 1 ≤ m) (h4 : m ≤ 4) (hm : m = p.rows.length) (ats : Nat → List Int) (ss ks : Nat → Nat) (K : Nat) (hx : ∀ q j : Nat, q ≤ K → 0 ≤ sgD p (ats q) m * (xL p (ats q) m (n + m))[j]?.getD 0) (hd : ∀ q, q ≤ K → denL p (ats q) m ≠ 0)
    (h : ∀ q, q < K → NextOk p (ats q) (ats (q + 1)) m (n + m) (ss q) (ks q)) :
    Steps (n + m) m (fun j => p.costs[j]?.getD 0) (fun i j => hasF p j i) (fun q j => inB (ats q) m j) (fun q j => sgD p (ats q) m * (xL p (ats q) m (n + m))[j]?.getD 0) (fun q => sgD p (ats q) m * denL p (ats q) m)
      (fun q j => sgD p (ats q) m * (gainL p (ats q) m (n + m))[j]?.getD 0) (fun q => sgD p (ats q) m * denL p (ats q) m) (fun q i => sgD p (ats q) m * (priceL p (ats q) m)[i]?.getD 0)
      (fun q j => sgD p (ats q) m * dirF p (ats q) m (n + m) (ss q) j) ss (fun q => atF (ats q) (ks q)) K := by
  have hso : ∀ q, q < K → inB (ats q) m (ss q) = false := fun q hq => (h q hq).out_b h1 h4 hm
  have hdo : ∀ q, q < K → dirF p (ats q) m (n + m) (ss q) (atF (ats q) (ks q)) = -(wayL p (ats q) m (ss q))[ks q]?.getD 0 := fun q hq => dir_in p (ats q) m (n + m) (ss q) (ks q) (h q hq).right (h q hq).km (hso q hq)
  refine ⟨fun q hq => sgD_pos p _ m (hd q hq), fun q hq => sgD_pos p _ m (hd q (by omega)), fun q j hq => hx q j hq, ?_, ?_, ?_, ?_, ?_, fun q hq => (h q hq).sN, fun q hq => (h q hq).sg, fun q j hq hj => (h q hq).sl j hj, fun q hq => atF_lt _ _ m (h q hq).right _ (h q hq).km, fun q hq => (inB_true _ _ _).2 ⟨_, (h q hq).km, rfl⟩, ?_, ?_, fun q j hq => (h q hq).inn j, ?_⟩
  · intro q j hq hb
    obtain ⟨i, hi, rfl⟩ := (inB_true _ _ _).1 hb
    show sgD p (ats q) m * _ = 0
    rw [comes_gain_b p (ats q) m n h1 h4 hm (h q hq).right i hi]; omega
  · intro q j hq hj
    show sgD p (ats q) m * _ = _
    unfold gainL
    rw [range_getD, if_pos hj]
    unfold gainF
    rw [← hm, dotN_sum]
    have e : sumN (fun i => sgD p (ats q) m * (priceL p (ats q) m)[i]?.getD 0 * hasF p j i) m = sgD p (ats q) m * sumN (fun i => ((List.range m).map (hasF p j))[i]?.getD 0 * (priceL p (ats q) m)[i]?.getD 0) m := by
      rw [← sumN_mul]
      refine sumN_congr _ _ _ fun i hi => ?_
      rw [range_getD, if_pos hi]; grind
    rw [e]; grind
  · intro q i hq hi
    have e : sumN (fun j => hasF p j i * (sgD p (ats q) m * dirF p (ats q) m (n + m) (ss q) j)) (n + m) = sgD p (ats q) m * sumN (fun j => hasF p j i * dirF p (ats q) m (n + m) (ss q) j) (n + m) := by
      rw [← sumN_mul]; exact sumN_congr _ _ _ fun j _ => by grind
    show sumN (fun j => hasF p j i * (sgD p (ats q) m * dirF p (ats q) m (n + m) (ss q) j)) (n + m) = 0
    rw [e, dir_level p (ats q) m (n + m) (ss q) (h q hq).right h1 h4 (h q hq).sN (hso q hq) i hi]; omega
  · intro q j hq hb hne
    show sgD p (ats q) m * _ = 0
    rw [dir_not p (ats q) m (n + m) (ss q) j hb hne]; omega
  · intro q hq
    show 0 < sgD p (ats q) m * dirF p (ats q) m (n + m) (ss q) (ss q)
    unfold dirF
    rw [if_pos rfl]
    exact sgD_pos p _ m (hd q (by omega))
  · intro q hq
    show sgD p (ats q) m * dirF p (ats q) m (n + m) (ss q) (atF (ats q) (ks q)) < 0
    rw [hdo q hq]
    have := (h q hq).falls
    rw [Int.mul_neg]; omega
  · intro q j hq hb hdn he
    obtain ⟨l, hl, rfl⟩ := (inB_true _ _ _).1 hb
    have hdl := dir_in p (ats q) m (n + m) (ss q) l (h q hq).right hl (hso q hq)
    rw [hdl] at hdn he
    rw [hdo q hq] at he
    rw [Int.mul_neg] at hdn
    have hsq := sgD_sq p (ats q) m
    have e2 : (xL p (ats q) m (n + m))[atF (ats q) (ks q)]?.getD 0 * (wayL p (ats q) m (ss q))[l]?.getD 0 = (xL p (ats q) m (n + m))[atF (ats q) l]?.getD 0 * (wayL p (ats q) m (ss q))[ks q]?.getD 0 := by
      generalize (xL p (ats q) m (n + m))[atF (ats q) (ks q)]?.getD 0 = x1 at *
      generalize (wayL p (ats q) m (ss q))[l]?.getD 0 = w1 at *
      generalize (xL p (ats q) m (n + m))[atF (ats q) l]?.getD 0 = x2 at *
      generalize (wayL p (ats q) m (ss q))[ks q]?.getD 0 = w2 at *
      generalize sgD p (ats q) m = g at *
      have a1 : (g * g) * (x1 * w1) = (g * g) * (x2 * w2) := by grind
      rw [hsq] at a1
      omega
    have hkl := (h q hq).least l hl (by omega) e2
    show atF (ats q) (ks q) ≤ atF (ats q) l
    by_cases hkl2 : ks q = l
    · rw [hkl2]; exact Nat.le_refl _
    · have := atF_rise (ats q) _ m (h q hq).right l hl (ks q) (by omega); omega
  · intro q j hq hj
    have he := exchange p (ats q) (ats (q + 1)) m (n + m) (ss q) (ks q) (h q hq).right (h q hq).right2 h1 h4 (h q hq).sN (hso q hq) (h q hq).km (h q hq).inn (h q hq).den2 j hj
    rw [hdo q hq]
    have hsq := sgD_sq p (ats q) m
    generalize (xL p (ats (q + 1)) m (n + m))[j]?.getD 0 = y1 at *
    generalize (xL p (ats q) m (n + m))[j]?.getD 0 = y2 at *
    generalize (xL p (ats q) m (n + m))[atF (ats q) (ks q)]?.getD 0 = y3 at *
    generalize (wayL p (ats q) m (ss q))[ks q]?.getD 0 = w at *
    generalize dirF p (ats q) m (n + m) (ss q) j = dd at *
    generalize denL p (ats q) m = D at *
    generalize denL p (ats (q + 1)) m = D2 at *
    generalize sgD p (ats q) m = g at *
    generalize sgD p (ats (q + 1)) m = g2 at *
    have a1 : g2 * y1 * (g * D) * (-(g * -w)) = g2 * (g * g) * (y1 * D * w) := by grind
    have a2 : g2 * D2 * (g * y2 * (-(g * -w)) + g * y3 * (g * dd)) = g2 * (g * g) * (D2 * (y2 * w + y3 * dd)) := by grind
    rw [a1, a2, he]

theorem walk_new_b (p : Lp) (m n : Nat) (h1 : 1 ≤ m) (h4 : m ≤ 4) (hm : m = p.rows.length) (ats : Nat → List Int) (ss ks : Nat → Nat) (K : Nat) (hx : ∀ q j : Nat, q ≤ K → 0 ≤ sgD p (ats q) m * (xL p (ats q) m (n + m))[j]?.getD 0) (hd : ∀ q, q ≤ K → denL p (ats q) m ≠ 0)
    (h : ∀ q, q < K → NextOk p (ats q) (ats (q + 1)) m (n + m) (ss q) (ks q)) (a b : Nat) (hab : a < b) (hb : b ≤ K) : ats a ≠ ats b := by
  intro e
  exact (steps_of_b p m n h1 h4 hm ats ss ks K hx hd h).never_back a b hab hb (fun j => by show inB (ats a) m j = inB (ats b) m j; rw [e]) (fun j _ => by show sgD p (ats a) m * _ * _ = sgD p (ats b) m * _ * _; rw [e])

theorem next_above_b (p : Lp) (at' at2' : List Int) (m n s k : Nat) (h1 : 1 ≤ m) (h4 : m ≤ 4) (hm : m = p.rows.length) (h : NextOk p at' at2' m (n + m) s k) (hx : ∀ j : Nat, 0 ≤ sgD p at' m * (xL p at' m (n + m))[j]?.getD 0)
    (hn : ∀ l, l < m → 0 < sgD p at' m * (wayL p at' m s)[l]?.getD 0 → (sgD p at' m * (xL p at' m (n + m))[atF at' k]?.getD 0) * (sgD p at' m * (wayL p at' m s)[l]?.getD 0) ≤ (sgD p at' m * (xL p at' m (n + m))[atF at' l]?.getD 0) * (sgD p at' m * (wayL p at' m s)[k]?.getD 0)) :
    ∀ j : Nat, 0 ≤ sgD p at2' m * (xL p at2' m (n + m))[j]?.getD 0 := by
  intro j
  have hsb := h.out_b h1 h4 hm
  by_cases hj : j < n + m
  · have he := exchange p at' at2' m (n + m) s k h.right h.right2 h1 h4 h.sN hsb h.km h.inn h.den2 j hj
    have hsq := sgD_sq p at' m
    have hD := sgD_pos p at' m h.den
    have hD2 := sgD_pos p at2' m h.den2
    have hw := h.falls
    have hxj := hx j
    have hxo := hx (atF at' k)
    have hR : 0 ≤ (sgD p at' m * (xL p at' m (n + m))[j]?.getD 0) * (sgD p at' m * (wayL p at' m s)[k]?.getD 0) + (sgD p at' m * (xL p at' m (n + m))[atF at' k]?.getD 0) * (sgD p at' m * dirF p at' m (n + m) s j) := by
      cases hb : inB at' m j with
      | false =>
        by_cases hjs : j = s
        · subst hjs
          have : dirF p at' m (n + m) j j = denL p at' m := by unfold dirF; rw [if_pos rfl]
          rw [this]
          have a1 := Int.mul_nonneg hxj (Int.le_of_lt hw)
          have a2 := Int.mul_nonneg hxo (Int.le_of_lt hD)
          omega
        · rw [dir_not p at' m (n + m) s j hb hjs, Int.mul_zero, Int.mul_zero, Int.add_zero]
          exact Int.mul_nonneg hxj (Int.le_of_lt hw)
      | true =>
        obtain ⟨l, hl, rfl⟩ := (inB_true at' m j).1 hb
        rw [dir_in p at' m (n + m) s l h.right hl hsb, Int.mul_neg, Int.mul_neg]
        by_cases hwl : 0 < sgD p at' m * (wayL p at' m s)[l]?.getD 0
        · have := hn l hl hwl
          omega
        · have a1 := Int.mul_nonneg hxj (Int.le_of_lt hw)
          have a2 := Int.mul_nonpos_of_nonneg_of_nonpos hxo (Int.not_lt.1 hwl)
          omega
    generalize (xL p at2' m (n + m))[j]?.getD 0 = y1 at *
    generalize (xL p at' m (n + m))[j]?.getD 0 = y2 at *
    generalize (xL p at' m (n + m))[atF at' k]?.getD 0 = y3 at he hR
    generalize (wayL p at' m s)[k]?.getD 0 = w at he hR hw
    generalize dirF p at' m (n + m) s j = dd at *
    generalize denL p at' m = D at *
    generalize denL p at2' m = D2 at *
    generalize sgD p at' m = g at *
    generalize sgD p at2' m = g2 at *
    have e : (g2 * y1) * ((g * D) * (g * w)) = (g2 * D2) * ((g * y2) * (g * w) + (g * y3) * (g * dd)) := by
      have a1 : (g2 * y1) * ((g * D) * (g * w)) = g2 * (g * g) * (y1 * D * w) := by grind
      have a2 : (g2 * D2) * ((g * y2) * (g * w) + (g * y3) * (g * dd)) = g2 * (g * g) * (D2 * (y2 * w + y3 * dd)) := by grind
      rw [a1, a2, he]
    have q1 := Int.mul_pos hD hw
    have q2 := Int.mul_nonneg (Int.le_of_lt hD2) hR
    by_cases hneg : 0 ≤ g2 * y1
    · exact hneg
    · have := Int.mul_neg_of_neg_of_pos (Int.not_le.1 hneg) q1
      omega
  · rw [List.getElem?_eq_none (by unfold xL; rw [spread_len]; omega)]
    show 0 ≤ sgD p at2' m * 0
    omega

theorem walk_ends_b (p : Lp) (m n : Nat) (h1 : 1 ≤ m) (h4 : m ≤ 4) (hm : m = p.rows.length) (h8 : n + m ≤ 8) (ats : Nat → List Int) (ss ks : Nat → Nat) (K : Nat) (hx : ∀ q j : Nat, q ≤ K → 0 ≤ sgD p (ats q) m * (xL p (ats q) m (n + m))[j]?.getD 0) (hd : ∀ q, q ≤ K → denL p (ats q) m ≠ 0) (hr : ∀ q, q ≤ K → rightB (ats q) m (n + m) = true)
    (h : ∀ q, q < K → NextOk p (ats q) (ats (q + 1)) m (n + m) (ss q) (ks q)) : K < 4096 := by
  by_cases hK : K < 4096
  · exact hK
  · obtain ⟨i, j, hij, hj, he⟩ := pigeon 4096 (fun q => codeN (ats q)) fun i hi => code_lt _ m _ (hr i (by omega)) h8
    exact absurd (code_one _ _ m _ (hr i (by omega)) (hr j (by omega)) h4 h8 he) (walk_new_b p m n h1 h4 hm ats ss ks K hx hd h i j hij (by omega))

theorem next_of_b (p : Lp) (at' : List Int) (m n s k : Nat) (h1 : 1 ≤ m) (h4 : m ≤ 4) (hm : m = p.rows.length) (hr : rightB at' m (n + m) = true) (hd : denL p at' m ≠ 0) (hx : ∀ j : Nat, 0 ≤ sgD p at' m * (xL p at' m (n + m))[j]?.getD 0)
    (hs : s < n + m) (sg : 0 < sgD p at' m * (gainL p at' m (n + m))[s]?.getD 0) (sl : ∀ j : Nat, j < s → sgD p at' m * (gainL p at' m (n + m))[j]?.getD 0 ≤ 0)
    (hk : k < m) (falls : 0 < sgD p at' m * (wayL p at' m s)[k]?.getD 0)
    (near : ∀ l, l < m → 0 < sgD p at' m * (wayL p at' m s)[l]?.getD 0 → (sgD p at' m * (xL p at' m (n + m))[atF at' k]?.getD 0) * (sgD p at' m * (wayL p at' m s)[l]?.getD 0) ≤ (sgD p at' m * (xL p at' m (n + m))[atF at' l]?.getD 0) * (sgD p at' m * (wayL p at' m s)[k]?.getD 0) ∧
      ((sgD p at' m * (xL p at' m (n + m))[atF at' k]?.getD 0) * (sgD p at' m * (wayL p at' m s)[l]?.getD 0) = (sgD p at' m * (xL p at' m (n + m))[atF at' l]?.getD 0) * (sgD p at' m * (wayL p at' m s)[k]?.getD 0) → k ≤ l)) :
    ∃ k', k' < m ∧ (∀ i, i < k' → restF at' k i < s) ∧ (∀ i, k' ≤ i → i + 1 < m → s < restF at' k i) ∧ NextOk p at' (swapI at' k k' s) m (n + m) s k ∧ ∀ j : Nat, 0 ≤ sgD p (swapI at' k k' s) m * (xL p (swapI at' k k' s) m (n + m))[j]?.getD 0 := by
  have hsb : inB at' m s = false := by
    cases hb : inB at' m s with
    | false => rfl
    | true =>
      obtain ⟨i, hi, he⟩ := (inB_true at' m s).1 hb
      have := comes_gain_b p at' m n h1 h4 hm hr i hi
      rw [← he, this] at sg
      omega
  obtain ⟨k', a1, a2, a3⟩ := place_of (restF at' k) s (m - 1) (fun i j hij hj => rest_rise at' k m (n + m) hr i j hij (by omega)) (fun i hi => by
    unfold restF
    exact (inB_false at' m s).1 hsb _ (by split <;> omega))
  have hk' : k' < m := by omega
  have hok : NextOk p at' (swapI at' k k' s) m (n + m) s k := by
    refine ⟨hr, swap_right at' k k' s m (n + m) hr hk hk' hs a2 (fun i hi hi2 => a3 i hi (by omega)), hd, ?_, hs, sg, sl, hk, falls, ?_, swap_inB at' k k' s m (n + m) hr hk hk'⟩
    · rw [den_swap p at' k k' s m (right_all at' m _ hr).1 h1 h4 hk hk']
      have hw : (wayL p at' m s)[k]?.getD 0 ≠ 0 := by intro e; rw [e] at falls; omega
      unfold sgn
      split <;> omega
    · intro l hl hwl he
      refine (near l hl hwl).2 ?_
      generalize (xL p at' m (n + m))[atF at' k]?.getD 0 = x1 at *
      generalize (wayL p at' m s)[l]?.getD 0 = w1 at *
      generalize (xL p at' m (n + m))[atF at' l]?.getD 0 = x2 at *
      generalize (wayL p at' m s)[k]?.getD 0 = w2 at *
      generalize sgD p at' m = g at *
      grind
  exact ⟨k', hk', a2, fun i hi hi2 => a3 i hi (by omega), hok, next_above_b p at' _ m n s k h1 h4 hm hok hx fun l hl hwl => (near l hl hwl).1⟩

theorem dir_rise_b (p : Lp) (at' : List Int) (m n s : Nat) (h1 : 1 ≤ m) (h4 : m ≤ 4) (hm : m = p.rows.length) (hr : rightB at' m (n + m) = true) (hd : denL p at' m ≠ 0) (hs : s < n + m) (hsb : inB at' m s = false) :
    sumN (fun j => p.costs[j]?.getD 0 * dirF p at' m (n + m) s j) (n + m) = (gainL p at' m (n + m))[s]?.getD 0 := by
  have e0 : sumN (fun j => (gainL p at' m (n + m))[j]?.getD 0 * dirF p at' m (n + m) s j) (n + m) = (gainL p at' m (n + m))[s]?.getD 0 * denL p at' m := by
    rw [sumN_only _ s _ hs]
    · show _ * dirF p at' m (n + m) s s = _
      unfold dirF
      rw [if_pos rfl]
    · intro j _ hjs
      show _ * dirF p at' m (n + m) s j = 0
      cases hb : inB at' m j with
      | false => rw [dir_not p at' m (n + m) s j hb hjs]; omega
      | true =>
        obtain ⟨i, hi, rfl⟩ := (inB_true at' m j).1 hb
        rw [comes_gain_b p at' m n h1 h4 hm hr i hi]; omega
  have e1 : sumN (fun j => (gainL p at' m (n + m))[j]?.getD 0 * dirF p at' m (n + m) s j) (n + m) = sumN (fun j => denL p at' m * (p.costs[j]?.getD 0 * dirF p at' m (n + m) s j) + (-1) * sumN (fun i => hasF p j i * (priceL p at' m)[i]?.getD 0 * dirF p at' m (n + m) s j) m) (n + m) := by
    refine sumN_congr _ _ _ fun j hj => ?_
    rw [gain_eq p at' m (n + m) j hm hj]
    have : sumN (fun i => hasF p j i * (priceL p at' m)[i]?.getD 0 * dirF p at' m (n + m) s j) m = dirF p at' m (n + m) s j * sumN (fun i => hasF p j i * (priceL p at' m)[i]?.getD 0) m := by
      rw [← sumN_mul]; exact sumN_congr _ _ _ fun i _ => by grind
    rw [this]; grind
  have e2 : sumN (fun j => sumN (fun i => hasF p j i * (priceL p at' m)[i]?.getD 0 * dirF p at' m (n + m) s j) m) (n + m) = 0 := by
    rw [sumN_swap]
    refine (sumN_congr _ (fun _ => 0) _ fun i hi => ?_).trans (sumN_zero m)
    have : sumN (fun j => hasF p j i * (priceL p at' m)[i]?.getD 0 * dirF p at' m (n + m) s j) (n + m) = (priceL p at' m)[i]?.getD 0 * sumN (fun j => hasF p j i * dirF p at' m (n + m) s j) (n + m) := by
      rw [← sumN_mul]; exact sumN_congr _ _ _ fun j _ => by grind
    rw [this, dir_level p at' m (n + m) s hr h1 h4 hs hsb i hi]; omega
  rw [e1, sumN_add, sumN_mul, sumN_mul, e2] at e0
  have e3 : denL p at' m * sumN (fun j => p.costs[j]?.getD 0 * dirF p at' m (n + m) s j) (n + m) = denL p at' m * (gainL p at' m (n + m))[s]?.getD 0 := by rw [Int.mul_comm (denL p at' m) ((gainL p at' m (n + m))[s]?.getD 0)]; omega
  exact Int.eq_of_mul_eq_mul_left hd e3

theorem dir_ray_b (p : Lp) (at' : List Int) (m n s : Nat) (h1 : 1 ≤ m) (h4 : m ≤ 4) (hm : m = p.rows.length) (hg : Good p at' m n) (hs : s < n + m) (hsb : inB at' m s = false) (h0 : 0 < sgD p at' m * (gainL p at' m (n + m))[s]?.getD 0) (hw : ∀ k, k < m → sgD p at' m * (wayL p at' m s)[k]?.getD 0 ≤ 0) :
    Ray p m n (fun j => sgD p at' m * dirF p at' m (n + m) s j) := by
  refine ⟨fun j hj => ?_, fun i hi => ?_, ?_⟩
  · show 0 ≤ sgD p at' m * dirF p at' m (n + m) s j
    by_cases hjs : j = s
    · subst hjs
      unfold dirF
      rw [if_pos rfl]
      exact Int.le_of_lt (sgD_pos p at' m hg.den)
    · cases hb : inB at' m j with
      | false => rw [dir_not p at' m (n + m) s j hb hjs]; omega
      | true =>
        obtain ⟨k, hk, rfl⟩ := (inB_true at' m j).1 hb
        rw [dir_in p at' m (n + m) s k hg.right hk hsb, Int.mul_neg]
        have := hw k hk
        omega
  · have e : sumN (fun j => hasF p j i * (sgD p at' m * dirF p at' m (n + m) s j)) (n + m) = sgD p at' m * sumN (fun j => hasF p j i * dirF p at' m (n + m) s j) (n + m) := by
      rw [← sumN_mul]; exact sumN_congr _ _ _ fun j _ => by grind
    show sumN (fun j => hasF p j i * (sgD p at' m * dirF p at' m (n + m) s j)) (n + m) = 0
    rw [e, dir_level p at' m (n + m) s hg.right h1 h4 hs hsb i hi]; omega
  · have e : sumN (fun j => p.costs[j]?.getD 0 * (sgD p at' m * dirF p at' m (n + m) s j)) (n + m) = sgD p at' m * sumN (fun j => p.costs[j]?.getD 0 * dirF p at' m (n + m) s j) (n + m) := by
      rw [← sumN_mul]; exact sumN_congr _ _ _ fun j _ => by grind
    show 0 < sumN (fun j => p.costs[j]?.getD 0 * (sgD p at' m * dirF p at' m (n + m) s j)) (n + m)
    rw [e, dir_rise_b p at' m n s h1 h4 hm hg.right hg.den hs hsb]
    exact h0

theorem map_sg (c : Int) (l : List Int) (j : Nat) : (l.map (c * ·))[j]?.getD 0 = c * l[j]?.getD 0 := by
  rw [List.getElem?_map]
  cases l[j]? with
  | none => simp
  | some x => simp

/-- One step from a corner that goes. -/
theorem step_b (p : Lp) (at' : List Int) (m n : Nat) (h1 : 1 ≤ m) (h4 : m ≤ 4) (hm : m = p.rows.length) (hg : Good p at' m n) : Top p at' m n ∨ (∃ r, Ray p m n r) ∨ ∃ nx s k, NextOk p at' nx m (n + m) s k ∧ Good p nx m n := by
  rcases first_ok ((gainL p at' m (n + m)).map (sgD p at' m * ·)) (n + m) with ⟨_, f2⟩ | ⟨s, f1, _, f3, f4⟩
  · exact Or.inl ⟨hg, fun j hj => by have := f2 j hj; rw [map_sg] at this; exact this⟩
  · rw [map_sg] at f3
    have f4' : ∀ j : Nat, j < s → sgD p at' m * (gainL p at' m (n + m))[j]?.getD 0 ≤ 0 := fun j hj => by have := f4 j hj; rw [map_sg] at this; exact this
    have hsb : inB at' m s = false := by
      cases hb : inB at' m s with
      | false => rfl
      | true =>
        obtain ⟨i, hi, he⟩ := (inB_true at' m s).1 hb
        have := comes_gain_b p at' m n h1 h4 hm hg.right i hi
        rw [← he, this] at f3
        omega
    have hv : ∀ k, k < m → ((spreadN (n + m) at' (wayL p at' m s) m).map (sgD p at' m * ·))[atF at' k]?.getD 0 = sgD p at' m * (wayL p at' m s)[k]?.getD 0 := fun k hk => by
      rw [map_sg, spread_in (n + m) at' _ m hg.right m (Nat.le_refl _) k hk]
    rcases out_ok at' ((xL p at' m (n + m)).map (sgD p at' m * ·)) ((spreadN (n + m) at' (wayL p at' m s) m).map (sgD p at' m * ·)) m with ⟨_, o2⟩ | ⟨o, o1, _, o3, o4⟩
    · exact Or.inr (Or.inl ⟨_, dir_ray_b p at' m n s h1 h4 hm hg f1 hsb f3 fun k hk => by rw [← hv k hk]; exact o2 k hk⟩)
    · rw [hv o o1] at o3
      obtain ⟨k', a1, a2, a3, a4, a5⟩ := next_of_b p at' m n s o h1 h4 hm hg.right hg.den hg.x f1 f3 f4' o1 o3 (fun l hl hlv => by
        have := o4 l hl (by rw [hv l hl]; exact hlv)
        rw [hv l hl, hv o o1, map_sg, map_sg] at this
        exact this)
      exact Or.inr (Or.inr ⟨_, s, o, a4, a4.right2, a4.den2, a5⟩)

/-- Where a corner goes, one without gains is found, or a way that rises without end: of costs of any size. -/
theorem top_or_ray_b (p : Lp) (at' : List Int) (m n : Nat) (h1 : 1 ≤ m) (h4 : m ≤ 4) (h8 : n + m ≤ 8) (hm : m = p.rows.length) (hg : Good p at' m n) : (∃ t, Top p t m n) ∨ ∃ r, Ray p m n r := by
  refine Classical.byContradiction fun hno => ?_
  have hT : ∀ t, ¬ Top p t m n := fun t h => hno (Or.inl ⟨t, h⟩)
  have hR : ∀ r, ¬ Ray p m n r := fun r h => hno (Or.inr ⟨r, h⟩)
  have go : ∀ q : { a : List Int // Good p a m n }, ∃ nx : { a : List Int // Good p a m n }, ∃ s k, NextOk p q.1 nx.1 m (n + m) s k := by
    intro q
    rcases step_b p q.1 m n h1 h4 hm q.2 with h | ⟨r, h⟩ | ⟨nx, s, k, h, h'⟩
    · exact absurd h (hT _)
    · exact absurd h (hR _)
    · exact ⟨⟨nx, h'⟩, s, k, h⟩
  let ats : Nat → { a : List Int // Good p a m n } := fun q => Nat.rec ⟨at', hg⟩ (fun _ r => Classical.choose (go r)) q
  have hs : ∀ q, ∃ s k, NextOk p (ats q).1 (ats (q + 1)).1 m (n + m) s k := fun q => Classical.choose_spec (go (ats q))
  have := walk_ends_b p m n h1 h4 hm h8 (fun q => (ats q).1) (fun q => Classical.choose (hs q)) (fun q => Classical.choose (Classical.choose_spec (hs q))) 4096 (fun q j _ => (ats q).2.x j) (fun q _ => (ats q).2.den) (fun q _ => (ats q).2.right) (fun q _ => Classical.choose_spec (Classical.choose_spec (hs q)))
  omega

end Num
end Go.Proofs.YtipcbhodlgoflabGreat

/- Costs along a line, in plain numbers: the gains of a corner go along with them. -/
namespace Go.Proofs.YtipcbhodlgoflabGreat
namespace Num

/-- The program with other costs. -/
def withC (p : Lp) (c : List Int) : Lp := ⟨c, p.rows⟩
theorem withC_self (p : Lp) : withC p p.costs = p := rfl

theorem withC_has (p : Lp) (c : List Int) (hc : c.length = p.costs.length) (j i : Nat) : hasF (withC p c) j i = hasF p j i := by
  unfold hasF
  rw [show (withC p c).costs.length = p.costs.length from hc]
  rfl

theorem withC_chosen (p : Lp) (c : List Int) (hc : c.length = p.costs.length) (at' : List Int) (m : Nat) : chosenL (withC p c) at' m = chosenL p at' m := by
  unfold chosenL
  refine List.map_congr_left fun k _ => ?_
  exact List.map_congr_left fun i _ => withC_has p c hc _ i

theorem withC_den (p : Lp) (c : List Int) (hc : c.length = p.costs.length) (at' : List Int) (m : Nat) : denL (withC p c) at' m = denL p at' m := by
  unfold denL
  rw [withC_chosen p c hc]

theorem withC_sg (p : Lp) (c : List Int) (hc : c.length = p.costs.length) (at' : List Int) (m : Nat) : sgD (withC p c) at' m = sgD p at' m := by
  unfold sgD
  rw [withC_den p c hc]

theorem withC_x (p : Lp) (c : List Int) (hc : c.length = p.costs.length) (at' : List Int) (m N : Nat) : xL (withC p c) at' m N = xL p at' m N := by
  unfold xL
  rw [withC_chosen p c hc]
  rfl

theorem withC_may (p : Lp) (c : List Int) (hc : c.length = p.costs.length) (hmay : p.may = true) (hw : withinB 400 c = true) : (withC p c).may = true := by
  unfold Lp.may at hmay ⊢
  rw [show (withC p c).costs.length = p.costs.length from hc, show (withC p c).rows = p.rows from rfl, show (withC p c).costs = c from rfl, hw]
  simp only [Bool.and_eq_true, decide_eq_true_eq] at hmay ⊢
  exact ⟨⟨⟨⟨⟨hmay.1.1.1.1.1, hmay.1.1.1.1.2⟩, trivial⟩, hmay.1.1.2⟩, hmay.1.2⟩, hmay.2⟩

/-- The prices pay for each chosen column what it is worth. -/
theorem price_own (p : Lp) (at' : List Int) (m n : Nat) (h1 : 1 ≤ m) (h4 : m ≤ 4) (hm : m = p.rows.length) (hr : rightB at' m (n + m) = true) (k : Nat) (hk : k < m) : sumN (fun i => hasF p (atF at' k) i * (priceL p at' m)[i]?.getD 0) m = p.costs[atF at' k]?.getD 0 * denL p at' m := by
  have hg := comes_gain_b p at' m n h1 h4 hm hr k hk
  rw [gain_eq p at' m (n + m) _ hm (atF_lt at' (n + m) m hr k hk)] at hg
  omega

theorem sum_line (h y z : Nat → Int) (d t : Int) (m : Nat) : sumN (fun i => h i * (d * y i + t * z i)) m = d * sumN (fun i => h i * y i) m + t * sumN (fun i => h i * z i) m := by
  rw [← sumN_mul, ← sumN_mul, ← sumN_add]
  exact sumN_congr _ _ _ fun i _ => by grind

/-- Prices along a line of costs. -/
theorem price_line (p : Lp) (c1 c2 c3 : List Int) (d t : Int) (at' : List Int) (m n : Nat) (hm : m = p.rows.length) (l1 : c1.length = p.costs.length) (l2 : c2.length = p.costs.length) (l3 : c3.length = p.costs.length)
    (h1 : 1 ≤ m) (h4 : m ≤ 4) (hr : rightB at' m (n + m) = true) (hd : denL p at' m ≠ 0) (hc : ∀ j : Nat, c3[j]?.getD 0 = d * c1[j]?.getD 0 + t * c2[j]?.getD 0) (i : Nat) (hi : i < m) :
    (priceL (withC p c3) at' m)[i]?.getD 0 = d * (priceL (withC p c1) at' m)[i]?.getD 0 + t * (priceL (withC p c2) at' m)[i]?.getD 0 := by
  have p1 := price_own (withC p c1) at' m n h1 h4 hm hr
  have p2 := price_own (withC p c2) at' m n h1 h4 hm hr
  have p3 := price_own (withC p c3) at' m n h1 h4 hm hr
  have z := left_none p at' m h1 h4 hd (fun i => (priceL (withC p c3) at' m)[i]?.getD 0 - (d * (priceL (withC p c1) at' m)[i]?.getD 0 + t * (priceL (withC p c2) at' m)[i]?.getD 0)) (fun k hk => by
    have q1 := p1 k hk
    have q2 := p2 k hk
    have q3 := p3 k hk
    rw [withC_den p _ l1, show (withC p c1).costs = c1 from rfl] at q1
    rw [withC_den p _ l2, show (withC p c2).costs = c2 from rfl] at q2
    rw [withC_den p _ l3, show (withC p c3).costs = c3 from rfl] at q3
    have r1 : sumN (fun i => hasF p (atF at' k) i * (priceL (withC p c1) at' m)[i]?.getD 0) m = c1[atF at' k]?.getD 0 * denL p at' m := by
      rw [← q1]; exact sumN_congr _ _ _ fun i _ => by rw [withC_has p c1 l1]
    have r2 : sumN (fun i => hasF p (atF at' k) i * (priceL (withC p c2) at' m)[i]?.getD 0) m = c2[atF at' k]?.getD 0 * denL p at' m := by
      rw [← q2]; exact sumN_congr _ _ _ fun i _ => by rw [withC_has p c2 l2]
    have r3 : sumN (fun i => hasF p (atF at' k) i * (priceL (withC p c3) at' m)[i]?.getD 0) m = c3[atF at' k]?.getD 0 * denL p at' m := by
      rw [← q3]; exact sumN_congr _ _ _ fun i _ => by rw [withC_has p c3 l3]
    have e1 : sumN (fun i => hasF p (atF at' k) i * ((priceL (withC p c3) at' m)[i]?.getD 0 - (d * (priceL (withC p c1) at' m)[i]?.getD 0 + t * (priceL (withC p c2) at' m)[i]?.getD 0))) m
        = sumN (fun i => hasF p (atF at' k) i * (1 * (priceL (withC p c3) at' m)[i]?.getD 0 + -1 * (d * (priceL (withC p c1) at' m)[i]?.getD 0 + t * (priceL (withC p c2) at' m)[i]?.getD 0))) m := sumN_congr _ _ _ fun i _ => by
      rw [show (priceL (withC p c3) at' m)[i]?.getD 0 - (d * (priceL (withC p c1) at' m)[i]?.getD 0 + t * (priceL (withC p c2) at' m)[i]?.getD 0) = 1 * (priceL (withC p c3) at' m)[i]?.getD 0 + -1 * (d * (priceL (withC p c1) at' m)[i]?.getD 0 + t * (priceL (withC p c2) at' m)[i]?.getD 0) by omega]
    show sumN (fun i => hasF p (atF at' k) i * ((priceL (withC p c3) at' m)[i]?.getD 0 - (d * (priceL (withC p c1) at' m)[i]?.getD 0 + t * (priceL (withC p c2) at' m)[i]?.getD 0))) m = 0
    rw [e1, sum_line, sum_line, r1, r2, r3, hc]
    grind) i hi
  have z' : (priceL (withC p c3) at' m)[i]?.getD 0 - (d * (priceL (withC p c1) at' m)[i]?.getD 0 + t * (priceL (withC p c2) at' m)[i]?.getD 0) = 0 := z
  omega

/-- Gains along a line of costs. -/
theorem gain_line (p : Lp) (c1 c2 c3 : List Int) (d t : Int) (at' : List Int) (m n : Nat) (hm : m = p.rows.length) (l1 : c1.length = p.costs.length) (l2 : c2.length = p.costs.length) (l3 : c3.length = p.costs.length)
    (h1 : 1 ≤ m) (h4 : m ≤ 4) (hr : rightB at' m (n + m) = true) (hd : denL p at' m ≠ 0) (hc : ∀ j : Nat, c3[j]?.getD 0 = d * c1[j]?.getD 0 + t * c2[j]?.getD 0) (j : Nat) (hj : j < n + m) :
    (gainL (withC p c3) at' m (n + m))[j]?.getD 0 = d * (gainL (withC p c1) at' m (n + m))[j]?.getD 0 + t * (gainL (withC p c2) at' m (n + m))[j]?.getD 0 := by
  have hp := price_line p c1 c2 c3 d t at' m n hm l1 l2 l3 h1 h4 hr hd hc
  rw [gain_eq (withC p c1) at' m (n + m) j hm hj, gain_eq (withC p c2) at' m (n + m) j hm hj, gain_eq (withC p c3) at' m (n + m) j hm hj, withC_den p _ l1, withC_den p _ l2, withC_den p _ l3,
    show (withC p c1).costs = c1 from rfl, show (withC p c2).costs = c2 from rfl, show (withC p c3).costs = c3 from rfl, hc j]
  have e3 : sumN (fun i => hasF (withC p c3) j i * (priceL (withC p c3) at' m)[i]?.getD 0) m = d * sumN (fun i => hasF (withC p c1) j i * (priceL (withC p c1) at' m)[i]?.getD 0) m + t * sumN (fun i => hasF (withC p c2) j i * (priceL (withC p c2) at' m)[i]?.getD 0) m := by
    have a1 : sumN (fun i => hasF (withC p c3) j i * (priceL (withC p c3) at' m)[i]?.getD 0) m = sumN (fun i => hasF p j i * (d * (priceL (withC p c1) at' m)[i]?.getD 0 + t * (priceL (withC p c2) at' m)[i]?.getD 0)) m := sumN_congr _ _ _ fun i hi => by
      rw [withC_has p c3 l3, hp i hi]
    have a2 : sumN (fun i => hasF (withC p c1) j i * (priceL (withC p c1) at' m)[i]?.getD 0) m = sumN (fun i => hasF p j i * (priceL (withC p c1) at' m)[i]?.getD 0) m := sumN_congr _ _ _ fun i hi => by rw [withC_has p c1 l1]
    have a3 : sumN (fun i => hasF (withC p c2) j i * (priceL (withC p c2) at' m)[i]?.getD 0) m = sumN (fun i => hasF p j i * (priceL (withC p c2) at' m)[i]?.getD 0) m := sumN_congr _ _ _ fun i hi => by rw [withC_has p c2 l2]
    rw [a1, a2, a3, sum_line]
  rw [e3]
  grind

/-- What a look tells of the gains. -/
theorem look_gain (p : Lp) (at' : List Int) (m n : Nat) (hmay : p.may = true) (hm : m = p.rows.length) (hn : n = p.costs.length) (hr : rightB at' m (n + m) = true) (hd : denL p at' m ≠ 0) :
    (look p at').err = 0 ∧ (look p at').g.length = n + m ∧ (1 ≤ (look p at').gd ∧ (look p at').gd ≤ 497664) ∧ (∀ j : Nat, -1073741824 ≤ (look p at').g[j]?.getD 0 ∧ (look p at').g[j]?.getD 0 ≤ 1073741824) ∧
    ∃ g : Int, 0 < g ∧ (∀ j : Nat, sgD p at' m * (gainL p at' m (n + m))[j]?.getD 0 = g * (look p at').g[j]?.getD 0) ∧ sgD p at' m * denL p at' m = g * (look p at').gd := by
  have h1 : 1 ≤ m := by have := (p.may_of hmay).2.2.1.1; omega
  have h4 : m ≤ 4 := by have := (p.may_of hmay).2.2.1.2; omega
  have hn4 : n ≤ 4 := by have := (p.may_of hmay).1.2; omega
  have hb := den_bd12 p at' m hmay h1 h4
  have gb := gain_bd p at' m (n + m) hmay hm
  obtain ⟨g, g0, _, q2, q3, q4, q5, q6, q7⟩ := pt_ok (gainL p at' m (n + m)) (denL p at' m) hd (by omega) gb (by unfold gainL; simp; omega)
  have hy : (look p at').err = 0 ∧ (look p at').g = (pt (gainL p at' m (n + m)) (denL p at' m)).1 ∧ (look p at').gd = (pt (gainL p at' m (n + m)) (denL p at' m)).2.1 := by
    unfold look
    rw [if_neg (by simp [hmay]), if_neg (by rw [← hm, ← hn, hr]; decide), if_neg (by rw [← hm]; exact hd), ← hm, ← hn]
    exact ⟨rfl, rfl, rfl⟩
  refine ⟨hy.1, by rw [hy.2.1, q2]; simp [gainL], by rw [hy.2.2]; omega, fun j => by rw [hy.2.1]; have := q7 j; have := gb j; omega, sgD p at' m * g, ?_, fun j => by rw [hy.2.1, q3 j]; grind, ?_⟩
  · have hs := sgD_pos p at' m hd
    rw [q4, ← Int.mul_assoc] at hs
    exact (pos_mul_iff _ _ (show 0 < (pt (gainL p at' m (n + m)) (denL p at' m)).2.1 by omega)).1 (by rw [Int.mul_comm]; exact hs)
  · rw [hy.2.2, Int.mul_assoc, ← q4]

/-- The numbers by which the document tells a span of costs are those of the corner, but for a factor. -/
theorem costs_alike (p : Lp) (c1 c2 : List Int) (at' : List Int) (m n : Nat) (hm : m = p.rows.length) (hn : n = p.costs.length) (l1 : c1.length = p.costs.length) (l2 : c2.length = p.costs.length)
    (m1 : (withC p c1).may = true) (m2 : (withC p c2).may = true) (hr : rightB at' m (n + m) = true) (hd : denL p at' m ≠ 0) (j : Nat) :
    Alike (-(sgD p at' m * (gainL (withC p c1) at' m (n + m))[j]?.getD 0)) (-(sgD p at' m * (gainL (withC p c2) at' m (n + m))[j]?.getD 0))
      (0 - (look (withC p c1) at').g[j]?.getD 0 * (look (withC p c2) at').gd) (0 - (look (withC p c2) at').g[j]?.getD 0 * (look (withC p c1) at').gd) := by
  obtain ⟨_, _, _, _, g, g0, a1, a2⟩ := look_gain (withC p c1) at' m n m1 hm (by rw [hn]; exact l1.symm) hr (by rw [withC_den p _ l1]; exact hd)
  obtain ⟨_, _, _, _, h, h0, b1, b2⟩ := look_gain (withC p c2) at' m n m2 hm (by rw [hn]; exact l2.symm) hr (by rw [withC_den p _ l2]; exact hd)
  have a1 := a1 j
  have b1 := b1 j
  rw [withC_sg p _ l1] at a1 a2
  rw [withC_sg p _ l2] at b1 b2
  rw [withC_den p _ l1] at a2
  rw [withC_den p _ l2] at b2
  refine ⟨sgD p at' m * denL p at' m, g * h, sgD_pos p at' m hd, Int.mul_pos g0 h0, ?_, ?_⟩
  · rw [a1, b2]; grind
  · rw [b1, a2]; grind

end Num
end Go.Proofs.YtipcbhodlgoflabGreat

/- A span as the document makes it: one number after the other. -/
namespace Go.Proofs.YtipcbhodlgoflabGreat
namespace Num

/-- A span: where it begins (o: open), where it ends (o2: open), and whether one number is below 0 all along. -/
structure Spn where
  o : Bool
  n : Int
  d : Int
  o2 : Bool
  n2 : Int
  d2 : Int
  no : Bool

def wholeS : Spn := ⟨true, 0, 0, true, 0, 0, false⟩

def aboveS (s : Spn) (a b : Int) : Spn :=
  if b = 0 then { s with no := s.no || decide (a < 0) }
  else if 0 < b then
    if s.o = true ∨ s.n * (mk (0 - a) b).2.1 < (mk (0 - a) b).1 * s.d then { s with o := false, n := (mk (0 - a) b).1, d := (mk (0 - a) b).2.1 } else s
  else if s.o2 = true ∨ (mk (0 - a) b).1 * s.d2 < s.n2 * (mk (0 - a) b).2.1 then { s with o2 := false, n2 := (mk (0 - a) b).1, d2 := (mk (0 - a) b).2.1 } else s

def spanS (a b : Nat → Int) : Nat → Spn
  | 0 => wholeS
  | k + 1 => aboveS (spanS a b k) (a k) (b k)

def emptyS (s : Spn) : Bool := s.no || (!s.o && !s.o2 && decide (s.n2 * s.d < s.n * s.d2))

/-- What a span is. -/
structure SpanIs (a b : Nat → Int) (N : Nat) (s : Spn) : Prop where
  lo : LoIs a b N s.o s.n s.d
  hi : HiIs a b N s.o2 s.n2 s.d2
  no : s.no = true ↔ NoneIs a b N

/-- Two numbers whose quotient is one of small numbers. -/
structure SmallP (a b : Int) : Prop where
  a62 : -4611686018427387904 ≤ a ∧ a ≤ 4611686018427387904
  b62 : -4611686018427387904 ≤ b ∧ b ≤ 4611686018427387904
  rep : b ≠ 0 → ∃ u v : Int, v ≠ 0 ∧ (-1073741824 ≤ u ∧ u ≤ 1073741824) ∧ (-1073741824 ≤ v ∧ v ≤ 1073741824) ∧ u * b = (0 - a) * v

theorem small_of (a b a' b' : Int) (h : Alike a b a' b') (ha : -1073741824 ≤ a ∧ a ≤ 1073741824) (hb : -1073741824 ≤ b ∧ b ≤ 1073741824) (ha' : -4611686018427387904 ≤ a' ∧ a' ≤ 4611686018427387904) (hb' : -4611686018427387904 ≤ b' ∧ b' ≤ 4611686018427387904) : SmallP a' b' := by
  refine ⟨ha', hb', fun h0 => ⟨-a, b, ?_, by omega, hb, ?_⟩⟩
  · exact fun e => h0 ((alike_pos a b a' b' h).2.2.1.2 e)
  · obtain ⟨k, l, k0, l0, e1, e2⟩ := h
    refine Int.eq_of_mul_eq_mul_left (show l ≠ 0 by omega) ?_
    have s1 : l * (-a * b') = -a * (l * b') := by grind
    have s2 : l * ((0 - a') * b) = -(l * a') * b := by grind
    rw [s1, s2, e1, e2]; grind

/-- The fraction at which a number comes to 0. -/
theorem small_at0 (a b : Int) (h : SmallP a b) (hb : b ≠ 0) : ∃ x y, mk (0 - a) b = (x, y, 0) ∧ a * y + x * b = 0 ∧ mayB y [x] = true := by
  obtain ⟨u, v, v0, hu, hv, e⟩ := h.rep hb
  have := h.a62
  obtain ⟨x, y, e1, e2, _, e4⟩ := mk_rep (0 - a) b u v hb v0 hu hv (by omega) h.b62 e
  refine ⟨x, y, e1, ?_, e4⟩
  have : (0 - a) * y = -(a * y) := by grind
  omega

theorem span_zero (a b : Nat → Int) : SpanIs a b 0 wholeS := ⟨lo_zero a b, hi_zero a b, by
  constructor
  · intro h; cases h
  · rintro ⟨j, hj, _⟩; omega⟩

theorem none_skip (a b : Nat → Int) (N : Nat) (h : b N ≠ 0 ∨ 0 ≤ a N) : NoneIs a b (N + 1) ↔ NoneIs a b N := by
  constructor
  · rintro ⟨j, hj, hb, ha⟩
    by_cases e : j = N
    · subst e; rcases h with h | h
      · exact absurd hb h
      · omega
    · exact ⟨j, by omega, hb, ha⟩
  · rintro ⟨j, hj, hb, ha⟩
    exact ⟨j, by omega, hb, ha⟩

theorem above_is (a b : Nat → Int) (N : Nat) (s : Spn) (h : SpanIs a b N s) (hs : SmallP (a N) (b N)) : SpanIs a b (N + 1) (aboveS s (a N) (b N)) := by
  obtain ⟨o, n, d, o2, n2, d2, no⟩ := s
  obtain ⟨h1, h2, h3⟩ := h
  simp only at h1 h2 h3
  unfold aboveS
  by_cases hb : b N = 0
  · rw [if_pos hb]
    refine ⟨lo_skip a b N o n d h1 (by omega), hi_skip a b N o2 n2 d2 h2 (by omega), ?_⟩
    simp only [Bool.or_eq_true, decide_eq_true_eq]
    constructor
    · rintro (h | h)
      · obtain ⟨j, hj, e⟩ := h3.1 h
        exact ⟨j, by omega, e⟩
      · exact ⟨N, by omega, hb, h⟩
    · rintro ⟨j, hj, e1, e2⟩
      by_cases e : j = N
      · subst e; exact Or.inr e2
      · exact Or.inl (h3.2 ⟨j, by omega, e1, e2⟩)
  · rw [if_neg hb]
    obtain ⟨x, y, e1, e2, e3⟩ := small_at0 _ _ hs hb
    have hy := may_pos y x e3
    rw [e1]
    simp only
    by_cases hp : 0 < b N
    · rw [if_pos hp]
      by_cases ht : o = true ∨ n * y < x * d
      · rw [if_pos ht]
        exact ⟨lo_take a b N o n d h1 hp x y e3 e2 (by rcases ht with h | h; exact Or.inl h; exact Or.inr (by omega)), hi_skip a b N o2 n2 d2 h2 (by omega), by rw [none_skip a b N (Or.inl hb)]; exact h3⟩
      · rw [if_neg ht]
        have ho : o = false := by cases o with
          | false => rfl
          | true => exact absurd (Or.inl rfl) ht
        subst ho
        exact ⟨lo_stay a b N n d h1 hp x y hy e2 (Int.not_lt.1 fun h => ht (Or.inr h)), hi_skip a b N o2 n2 d2 h2 (by omega), by rw [none_skip a b N (Or.inl hb)]; exact h3⟩
    · rw [if_neg hp]
      have hp' : b N < 0 := by omega
      by_cases ht : o2 = true ∨ x * d2 < n2 * y
      · rw [if_pos ht]
        exact ⟨lo_skip a b N o n d h1 (by omega), hi_take a b N o2 n2 d2 h2 hp' x y e3 e2 (by rcases ht with h | h; exact Or.inl h; exact Or.inr (by omega)), by rw [none_skip a b N (Or.inl hb)]; exact h3⟩
      · rw [if_neg ht]
        have ho : o2 = false := by cases o2 with
          | false => rfl
          | true => exact absurd (Or.inl rfl) ht
        subst ho
        exact ⟨lo_skip a b N o n d h1 (by omega), hi_stay a b N n2 d2 h2 hp' x y hy e2 (Int.not_lt.1 fun h => ht (Or.inr h)), by rw [none_skip a b N (Or.inl hb)]; exact h3⟩

theorem span_is (a b : Nat → Int) (N : Nat) (hs : ∀ j, j < N → SmallP (a j) (b j)) : SpanIs a b N (spanS a b N) := by
  induction N with
  | zero => exact span_zero a b
  | succ N ih => exact above_is a b N _ (ih fun j hj => hs j (by omega)) (hs N (by omega))

theorem lo_den (a b : Nat → Int) (N : Nat) (o : Bool) (n d : Int) (h : LoIs a b N o n d) (ho : o = false) : 0 < d ∧ mayB d [n] = true := by
  rcases h with ⟨h1, _⟩ | ⟨_, h2, _⟩
  · rw [ho] at h1; cases h1
  · exact ⟨may_pos d n h2, h2⟩

theorem hi_den (a b : Nat → Int) (N : Nat) (o : Bool) (n d : Int) (h : HiIs a b N o n d) (ho : o = false) : 0 < d ∧ mayB d [n] = true := by
  rcases h with ⟨h1, _⟩ | ⟨_, h2, _⟩
  · rw [ho] at h1; cases h1
  · exact ⟨may_pos d n h2, h2⟩

/-- Within the span, and it is not empty: all are 0 or above. -/
theorem span_all (a b : Nat → Int) (N : Nat) (s : Spn) (h : SpanIs a b N s) (k e : Int) (he : 0 < e) :
    (∀ j, j < N → 0 ≤ a j * e + k * b j) ↔ (emptyS s = false ∧ (s.o = true ∨ s.n * e ≤ k * s.d) ∧ (s.o2 = true ∨ k * s.d2 ≤ s.n2 * e)) := by
  rw [span_in a b N _ _ _ _ _ _ h.lo h.hi k e he]
  constructor
  · rintro ⟨h1, h2, h3⟩
    refine ⟨?_, h2, h3⟩
    unfold emptyS
    rw [Bool.or_eq_false_iff]
    refine ⟨by rw [← Bool.not_eq_true]; exact fun e => h1 (h.no.1 e), ?_⟩
    rw [← Bool.not_eq_true]
    intro e1
    simp only [Bool.and_eq_true, Bool.not_eq_true', decide_eq_true_eq] at e1
    exact span_none _ _ _ _ _ _ (lo_den a b N _ _ _ h.lo e1.1.1).1 (hi_den a b N _ _ _ h.hi e1.1.2).1 e1.2 e1.1.1 e1.1.2 k e he ⟨h2, h3⟩
  · rintro ⟨h1, h2, h3⟩
    refine ⟨fun hn => ?_, h2, h3⟩
    unfold emptyS at h1
    rw [h.no.2 hn] at h1
    cases h1

end Num
end Go.Proofs.YtipcbhodlgoflabGreat

/- Spans of costs and of mosts. -/
namespace Go.Proofs.YtipcbhodlgoflabGreat
namespace Num

/-- The span of costs, as the document tells it, is the corner's own. -/
theorem costs_span (p : Lp) (c1 c2 : List Int) (at' : List Int) (m n : Nat) (hm : m = p.rows.length) (hn : n = p.costs.length) (l1 : c1.length = p.costs.length) (l2 : c2.length = p.costs.length)
    (m1 : (withC p c1).may = true) (m2 : (withC p c2).may = true) (hr : rightB at' m (n + m) = true) (hd : denL p at' m ≠ 0) :
    (∀ j : Nat, SmallP (0 - (look (withC p c1) at').g[j]?.getD 0 * (look (withC p c2) at').gd) (0 - (look (withC p c2) at').g[j]?.getD 0 * (look (withC p c1) at').gd)) ∧
    SpanIs (fun j => 0 - (look (withC p c1) at').g[j]?.getD 0 * (look (withC p c2) at').gd) (fun j => 0 - (look (withC p c2) at').g[j]?.getD 0 * (look (withC p c1) at').gd) (n + m)
      (spanS (fun j => 0 - (look (withC p c1) at').g[j]?.getD 0 * (look (withC p c2) at').gd) (fun j => 0 - (look (withC p c2) at').g[j]?.getD 0 * (look (withC p c1) at').gd) (n + m)) := by
  have hsm : ∀ j : Nat, SmallP (0 - (look (withC p c1) at').g[j]?.getD 0 * (look (withC p c2) at').gd) (0 - (look (withC p c2) at').g[j]?.getD 0 * (look (withC p c1) at').gd) := by
    intro j
    have al := costs_alike p c1 c2 at' m n hm hn l1 l2 m1 m2 hr hd j
    obtain ⟨_, _, d1, b1, _⟩ := look_gain (withC p c1) at' m n m1 hm (by rw [hn]; exact l1.symm) hr (by rw [withC_den p _ l1]; exact hd)
    obtain ⟨_, _, d2, b2, _⟩ := look_gain (withC p c2) at' m n m2 hm (by rw [hn]; exact l2.symm) hr (by rw [withC_den p _ l2]; exact hd)
    have b1 := b1 j
    have b2 := b2 j
    have g1 := gain_bd (withC p c1) at' m (n + m) m1 hm j
    have g2 := gain_bd (withC p c2) at' m (n + m) m2 hm j
    have sb : ∀ x : Int, -1073741824 ≤ x ∧ x ≤ 1073741824 → -1073741824 ≤ -(sgD p at' m * x) ∧ -(sgD p at' m * x) ≤ 1073741824 := fun x hx => by unfold sgD; split <;> omega
    have pb : ∀ x y : Int, -1073741824 ≤ x ∧ x ≤ 1073741824 → 1 ≤ y ∧ y ≤ 497664 → -4611686018427387904 ≤ 0 - x * y ∧ 0 - x * y ≤ 4611686018427387904 := by
      intro x y hx hy
      have p1 := Int.mul_le_mul_of_nonneg_right hx.2 (show 0 ≤ y by omega)
      have p2 := Int.mul_le_mul_of_nonneg_right hx.1 (show 0 ≤ y by omega)
      omega
    exact small_of _ _ _ _ al (sb _ g1) (sb _ g2) (pb _ _ b1 d2) (pb _ _ b2 d1)
  exact ⟨hsm, span_is _ _ _ fun j _ => hsm j⟩

end Num
end Go.Proofs.YtipcbhodlgoflabGreat

/- All costs along a line, in plain numbers: where some corner is best, and what it is worth there. -/
namespace Go.Proofs.YtipcbhodlgoflabGreat
namespace Num

/-- Costs at the place k / e of a line, times e. -/
def lineC (c b : List Int) (e k : Int) (n : Nat) : List Int := (List.range n).map fun j => e * c[j]?.getD 0 + k * b[j]?.getD 0

theorem line_len (c b : List Int) (e k : Int) (n : Nat) : (lineC c b e k n).length = n := by simp [lineC]

theorem line_at (c b : List Int) (e k : Int) (n : Nat) (hc : c.length = n) (hb : b.length = n) (j : Nat) : (lineC c b e k n)[j]?.getD 0 = e * c[j]?.getD 0 + k * b[j]?.getD 0 := by
  unfold lineC
  rw [range_getD]
  by_cases h : j < n
  · rw [if_pos h]
  · rw [if_neg h, List.getElem?_eq_none (by omega), List.getElem?_eq_none (by omega)]; simp

/-- A corner that goes, and is best at the place k / e. -/
structure TopAt (p : Lp) (b : List Int) (m n : Nat) (e k : Int) (a : List Int) : Prop where
  good : Good p a m n
  gain : ∀ j, j < n + m → 0 ≤ -(sgD p a m * (gainL p a m (n + m))[j]?.getD 0) * e + k * -(sgD p a m * (gainL (withC p b) a m (n + m))[j]?.getD 0)

theorem withC_good (p : Lp) (c : List Int) (hc : c.length = p.costs.length) (a : List Int) (m n : Nat) : Good (withC p c) a m n ↔ Good p a m n := by
  constructor
  · rintro ⟨h1, h2, h3⟩
    refine ⟨h1, by rw [← withC_den p c hc]; exact h2, fun j => ?_⟩
    have := h3 j
    rw [withC_sg p c hc, withC_x p c hc] at this
    exact this
  · rintro ⟨h1, h2, h3⟩
    refine ⟨h1, by rw [withC_den p c hc]; exact h2, fun j => ?_⟩
    rw [withC_sg p c hc, withC_x p c hc]
    exact h3 j

theorem topAt_iff (p : Lp) (b : List Int) (m n : Nat) (e k : Int) (a : List Int) (h1 : 1 ≤ m) (h4 : m ≤ 4) (hm : m = p.rows.length) (hn : n = p.costs.length) (hb : b.length = n) : TopAt p b m n e k a ↔ Top (withC p (lineC p.costs b e k n)) a m n := by
  have l3 : (lineC p.costs b e k n).length = p.costs.length := by rw [line_len, hn]
  have key : Good p a m n → ∀ j, j < n + m → (sgD p a m * (gainL (withC p (lineC p.costs b e k n)) a m (n + m))[j]?.getD 0 = -(-(sgD p a m * (gainL p a m (n + m))[j]?.getD 0) * e + k * -(sgD p a m * (gainL (withC p b) a m (n + m))[j]?.getD 0))) := by
    intro hg j hj
    rw [gain_line p p.costs b (lineC p.costs b e k n) e k a m n hm rfl (by omega) l3 h1 h4 hg.right hg.den (line_at p.costs b e k n hn.symm hb) j hj, withC_self]
    grind
  constructor
  · rintro ⟨hg, h⟩
    refine ⟨(withC_good p _ l3 a m n).2 hg, fun j hj => ?_⟩
    have := h j hj
    rw [withC_sg p _ l3, key hg j hj]
    omega
  · rintro ⟨hg, h⟩
    have hg' := (withC_good p _ l3 a m n).1 hg
    refine ⟨hg', fun j hj => ?_⟩
    have := h j hj
    rw [withC_sg p _ l3, key hg' j hj] at this
    omega

/-- Nothing that goes is worth more than a corner without gains. -/
theorem gain_sum (p : Lp) (a : List Int) (m N : Nat) (hm : m = p.rows.length) (x : Nat → Int) : sumN (fun j => (gainL p a m N)[j]?.getD 0 * x j) N = denL p a m * sumN (fun j => p.costs[j]?.getD 0 * x j) N - sumN (fun i => (priceL p a m)[i]?.getD 0 * sumN (fun j => hasF p j i * x j) N) m := by
  rw [← pairs (hasF p) (fun i => (priceL p a m)[i]?.getD 0) x m N]
  have e1 : sumN (fun j => (gainL p a m N)[j]?.getD 0 * x j) N = sumN (fun j => denL p a m * (p.costs[j]?.getD 0 * x j) + -1 * (sumN (fun i => hasF p j i * (priceL p a m)[i]?.getD 0) m * x j)) N := sumN_congr _ _ _ fun j hj => by
    rw [gain_eq p a m N j hm hj]; grind
  rw [e1, sumN_add, sumN_mul, sumN_mul]
  omega

/-- What the rows' prices come to is what the corner is worth. -/
theorem own_worth (p : Lp) (a : List Int) (m n : Nat) (h1 : 1 ≤ m) (h4 : m ≤ 4) (hm : m = p.rows.length) (hr : rightB a m (n + m) = true) (hd : denL p a m ≠ 0) : sumN (fun j => p.costs[j]?.getD 0 * (xL p a m (n + m))[j]?.getD 0) (n + m) = sumN (fun i => (priceL p a m)[i]?.getD 0 * mostF p i) m := by
  have e1 := gain_sum p a m (n + m) hm (fun j => (xL p a m (n + m))[j]?.getD 0)
  have e2 : sumN (fun j => (gainL p a m (n + m))[j]?.getD 0 * (xL p a m (n + m))[j]?.getD 0) (n + m) = 0 := (sumN_congr _ (fun _ => 0) _ fun j _ => by
    cases hb : inB a m j with
    | false => rw [x_not p a m (n + m) j hb]; omega
    | true =>
      obtain ⟨i, hi, rfl⟩ := (inB_true a m j).1 hb
      rw [comes_gain_b p a m n h1 h4 hm hr i hi]; omega).trans (sumN_zero _)
  have e3 : sumN (fun i => (priceL p a m)[i]?.getD 0 * sumN (fun j => hasF p j i * (xL p a m (n + m))[j]?.getD 0) (n + m)) m = denL p a m * sumN (fun i => (priceL p a m)[i]?.getD 0 * mostF p i) m := by
    rw [← sumN_mul]
    exact sumN_congr _ _ _ fun i hi => by rw [x_level p a m (n + m) hr h1 h4 i hi]; grind
  rw [e2, e3] at e1
  exact Int.eq_of_mul_eq_mul_left hd (by omega)

theorem top_over (p : Lp) (a : List Int) (m n : Nat) (h1 : 1 ≤ m) (h4 : m ≤ 4) (hm : m = p.rows.length) (ht : Top p a m n) (x : Nat → Int) (D : Int) (hx : ∀ j, j < n + m → 0 ≤ x j) (hl : ∀ i, i < m → sumN (fun j => hasF p j i * x j) (n + m) = D * mostF p i) :
    sumN (fun j => p.costs[j]?.getD 0 * x j) (n + m) * (sgD p a m * denL p a m) ≤ D * (sgD p a m * sumN (fun j => p.costs[j]?.getD 0 * (xL p a m (n + m))[j]?.getD 0) (n + m)) := by
  have e1 := gain_sum p a m (n + m) hm x
  have e2 : sumN (fun i => (priceL p a m)[i]?.getD 0 * sumN (fun j => hasF p j i * x j) (n + m)) m = D * sumN (fun i => (priceL p a m)[i]?.getD 0 * mostF p i) m := by
    rw [← sumN_mul]
    exact sumN_congr _ _ _ fun i hi => by rw [hl i hi]; grind
  rw [e2, ← own_worth p a m n h1 h4 hm ht.right ht.den] at e1
  have e3 : sumN (fun j => sgD p a m * (gainL p a m (n + m))[j]?.getD 0 * x j) (n + m) ≤ sumN (fun _ => 0) (n + m) := sumN_le _ _ _ fun j hj => by
    have := Int.mul_le_mul_of_nonneg_right (ht.gain j hj) (hx j hj)
    omega
  rw [sumN_zero] at e3
  have e4 : sumN (fun j => sgD p a m * (gainL p a m (n + m))[j]?.getD 0 * x j) (n + m) = sgD p a m * sumN (fun j => (gainL p a m (n + m))[j]?.getD 0 * x j) (n + m) := by
    rw [← sumN_mul]; exact sumN_congr _ _ _ fun j _ => by grind
  rw [e4, e1] at e3
  generalize sumN (fun j => p.costs[j]?.getD 0 * x j) (n + m) = u at *
  generalize sumN (fun j => p.costs[j]?.getD 0 * (xL p a m (n + m))[j]?.getD 0) (n + m) = v at *
  have e5 : sgD p a m * (denL p a m * u - D * v) = u * (sgD p a m * denL p a m) - D * (sgD p a m * v) := by grind
  omega

/-- What is 0 or below at both ends is so in between. -/
theorem between (e0 k0 e1 k1 e k C S : Int) (h0 : 0 < e0) (h1 : 0 < e1) (he : 0 < e) (a : k0 * e ≤ k * e0) (b : k * e1 ≤ k1 * e) (c0 : e0 * C + k0 * S ≤ 0) (c1 : e1 * C + k1 * S ≤ 0) : e * C + k * S ≤ 0 := by
  have w : 0 ≤ k1 * e0 - k0 * e1 := by
    have p1 := Int.mul_le_mul_of_nonneg_right a (Int.le_of_lt h1)
    have p2 := Int.mul_le_mul_of_nonneg_right b (Int.le_of_lt h0)
    have s1 : k * e0 * e1 = k * e1 * e0 := by grind
    have s2 : e * (k1 * e0 - k0 * e1) = k1 * e * e0 - k0 * e * e1 := by grind
    exact (nonneg_mul_iff e _ he).1 (by omega)
  by_cases hw : k1 * e0 - k0 * e1 = 0
  · have q : k0 * e = k * e0 := by
      have p2 := Int.mul_le_mul_of_nonneg_right b (Int.le_of_lt h0)
      have s1 : k * e1 * e0 = e1 * (k * e0) := by grind
      have s2 : k1 * e * e0 = e1 * (k0 * e) := by
        have : k1 * e * e0 = k1 * e0 * e := by grind
        rw [this, show k1 * e0 = k0 * e1 by omega]; grind
      rw [s1, s2] at p2
      have := Int.le_of_mul_le_mul_left p2 h1
      omega
    have s : e0 * (e * C + k * S) = e * (e0 * C + k0 * S) := by
      have : e0 * (e * C + k * S) = e * (e0 * C) + k * e0 * S := by grind
      rw [this, ← q]; grind
    have := Int.mul_nonpos_of_nonneg_of_nonpos (Int.le_of_lt he) c0
    refine Int.not_lt.1 fun hlt => ?_
    have := Int.mul_pos h0 hlt
    omega
  · have s : (k1 * e0 - k0 * e1) * (e * C + k * S) = (k1 * e - k * e1) * (e0 * C + k0 * S) + (k * e0 - k0 * e) * (e1 * C + k1 * S) := by grind
    have p1 := Int.mul_nonpos_of_nonneg_of_nonpos (show 0 ≤ k1 * e - k * e1 by omega) c0
    have p2 := Int.mul_nonpos_of_nonneg_of_nonpos (show 0 ≤ k * e0 - k0 * e by omega) c1
    refine Int.not_lt.1 fun hlt => ?_
    have := Int.mul_pos (show 0 < k1 * e0 - k0 * e1 by omega) hlt
    omega

/-- What a corner is worth: Base, Slope, and what both are over. -/
def baseN (p : Lp) (m n : Nat) (a : List Int) : Int := sgD p a m * sumN (fun j => p.costs[j]?.getD 0 * (xL p a m (n + m))[j]?.getD 0) (n + m)
def slopeN (p : Lp) (b : List Int) (m n : Nat) (a : List Int) : Int := sgD p a m * sumN (fun j => b[j]?.getD 0 * (xL p a m (n + m))[j]?.getD 0) (n + m)
def overN (p : Lp) (m : Nat) (a : List Int) : Int := sgD p a m * denL p a m

theorem over_pos (p : Lp) (m n : Nat) (a : List Int) (h : Good p a m n) : 0 < overN p m a := sgD_pos p a m h.den

theorem line_worth (p : Lp) (b : List Int) (m n : Nat) (e k : Int) (a : List Int) (hn : n = p.costs.length) (hb : b.length = n) : sgD p a m * sumN (fun j => (lineC p.costs b e k n)[j]?.getD 0 * (xL p a m (n + m))[j]?.getD 0) (n + m) = e * baseN p m n a + k * slopeN p b m n a := by
  unfold baseN slopeN
  have e1 : sumN (fun j => (lineC p.costs b e k n)[j]?.getD 0 * (xL p a m (n + m))[j]?.getD 0) (n + m) = sumN (fun j => e * (p.costs[j]?.getD 0 * (xL p a m (n + m))[j]?.getD 0) + k * (b[j]?.getD 0 * (xL p a m (n + m))[j]?.getD 0)) (n + m) := sumN_congr _ _ _ fun j _ => by
    rw [line_at p.costs b e k n hn.symm hb]; grind
  rw [e1, sumN_add, sumN_mul, sumN_mul]
  grind

/-- No corner that goes is worth more at a place than one that is best there. -/
theorem topAt_over (p : Lp) (b : List Int) (m n : Nat) (e k : Int) (a c : List Int) (h1 : 1 ≤ m) (h4 : m ≤ 4) (hm : m = p.rows.length) (hn : n = p.costs.length) (hb : b.length = n) (ht : TopAt p b m n e k a) (hg : Good p c m n) :
    (e * baseN p m n c + k * slopeN p b m n c) * overN p m a ≤ (e * baseN p m n a + k * slopeN p b m n a) * overN p m c := by
  have l3 : (lineC p.costs b e k n).length = p.costs.length := by rw [line_len, hn]
  have h := top_over (withC p (lineC p.costs b e k n)) a m n h1 h4 hm ((topAt_iff p b m n e k a h1 h4 hm hn hb).1 ht) (fun j => sgD p c m * (xL p c m (n + m))[j]?.getD 0) (overN p m c) (fun j _ => hg.x j) (fun i hi => by
    have e1 : sumN (fun j => hasF (withC p (lineC p.costs b e k n)) j i * (sgD p c m * (xL p c m (n + m))[j]?.getD 0)) (n + m) = sgD p c m * sumN (fun j => hasF p j i * (xL p c m (n + m))[j]?.getD 0) (n + m) := by
      rw [← sumN_mul]; exact sumN_congr _ _ _ fun j _ => by rw [withC_has p _ l3]; grind
    rw [e1, x_level p c m (n + m) hg.right h1 h4 i hi]
    unfold overN
    show _ = sgD p c m * denL p c m * mostF p i
    grind)
  rw [withC_sg p _ l3, withC_den p _ l3, withC_x p _ l3, show (withC p (lineC p.costs b e k n)).costs = lineC p.costs b e k n from rfl, line_worth p b m n e k a hn hb] at h
  have e2 : sumN (fun j => (lineC p.costs b e k n)[j]?.getD 0 * (sgD p c m * (xL p c m (n + m))[j]?.getD 0)) (n + m) = e * baseN p m n c + k * slopeN p b m n c := by
    rw [← line_worth p b m n e k c hn hb, ← sumN_mul]
    exact sumN_congr _ _ _ fun j _ => by grind
  rw [e2] at h
  rw [Int.mul_comm (e * baseN p m n a + k * slopeN p b m n a)]
  exact h

/-- Where a corner is best, no way rises without end. -/
theorem topAt_ray (p : Lp) (b : List Int) (m n : Nat) (e k : Int) (a : List Int) (h1 : 1 ≤ m) (h4 : m ≤ 4) (hm : m = p.rows.length) (hn : n = p.costs.length) (hb : b.length = n) (ht : TopAt p b m n e k a) (r : Nat → Int) (hu : ∀ j, j < n + m → 0 ≤ r j) (hl : ∀ i, i < m → sumN (fun j => hasF p j i * r j) (n + m) = 0) :
    e * sumN (fun j => p.costs[j]?.getD 0 * r j) (n + m) + k * sumN (fun j => b[j]?.getD 0 * r j) (n + m) ≤ 0 := by
  have l3 : (lineC p.costs b e k n).length = p.costs.length := by rw [line_len, hn]
  have h := top_over (withC p (lineC p.costs b e k n)) a m n h1 h4 hm ((topAt_iff p b m n e k a h1 h4 hm hn hb).1 ht) r 0 hu (fun i hi => by
    rw [Int.zero_mul, ← hl i hi]
    exact sumN_congr _ _ _ fun j _ => by rw [withC_has p _ l3])
  rw [Int.zero_mul, withC_sg p _ l3, withC_den p _ l3, show (withC p (lineC p.costs b e k n)).costs = lineC p.costs b e k n from rfl] at h
  have e1 : sumN (fun j => (lineC p.costs b e k n)[j]?.getD 0 * r j) (n + m) = e * sumN (fun j => p.costs[j]?.getD 0 * r j) (n + m) + k * sumN (fun j => b[j]?.getD 0 * r j) (n + m) := by
    rw [← sumN_mul, ← sumN_mul, ← sumN_add]
    exact sumN_congr _ _ _ fun j _ => by rw [line_at p.costs b e k n hn.symm hb]; grind
  rw [e1] at h
  have hp := over_pos p m n a ht.good
  unfold overN at hp
  refine Int.not_lt.1 fun hlt => ?_
  have := Int.mul_pos hlt hp
  omega

/-- At a place some corner is best, or a way rises without end. -/
theorem topAt_or (p : Lp) (b : List Int) (m n : Nat) (e k : Int) (h1 : 1 ≤ m) (h4 : m ≤ 4) (h8 : n + m ≤ 8) (hm : m = p.rows.length) (hn : n = p.costs.length) (hb : b.length = n) (g : List Int) (hg : Good p g m n) :
    (∃ a, TopAt p b m n e k a) ∨ ∃ r : Nat → Int, (∀ j, j < n + m → 0 ≤ r j) ∧ (∀ i, i < m → sumN (fun j => hasF p j i * r j) (n + m) = 0) ∧ 0 < e * sumN (fun j => p.costs[j]?.getD 0 * r j) (n + m) + k * sumN (fun j => b[j]?.getD 0 * r j) (n + m) := by
  have l3 : (lineC p.costs b e k n).length = p.costs.length := by rw [line_len, hn]
  rcases top_or_ray_b (withC p (lineC p.costs b e k n)) g m n h1 h4 h8 hm ((withC_good p _ l3 g m n).2 hg) with ⟨t, ht⟩ | ⟨r, hr⟩
  · exact Or.inl ⟨t, (topAt_iff p b m n e k t h1 h4 hm hn hb).2 ht⟩
  · refine Or.inr ⟨r, hr.up, fun i hi => ?_, ?_⟩
    · rw [← hr.level i hi]
      exact sumN_congr _ _ _ fun j _ => by rw [withC_has p _ l3]
    · have e1 : sumN (fun j => (lineC p.costs b e k n)[j]?.getD 0 * r j) (n + m) = e * sumN (fun j => p.costs[j]?.getD 0 * r j) (n + m) + k * sumN (fun j => b[j]?.getD 0 * r j) (n + m) := by
        rw [← sumN_mul, ← sumN_mul, ← sumN_add]
        exact sumN_congr _ _ _ fun j _ => by rw [line_at p.costs b e k n hn.symm hb]; grind
      rw [← e1]
      exact hr.rise

/-- The places at which some corner is best are a span. -/
theorem topAt_between (p : Lp) (b : List Int) (m n : Nat) (h1 : 1 ≤ m) (h4 : m ≤ 4) (h8 : n + m ≤ 8) (hm : m = p.rows.length) (hn : n = p.costs.length) (hb : b.length = n) (e0 k0 e1 k1 e k : Int) (p0 : 0 < e0) (p1 : 0 < e1) (pe : 0 < e) (lo : k0 * e ≤ k * e0) (hi : k * e1 ≤ k1 * e)
    (a0 a1 : List Int) (t0 : TopAt p b m n e0 k0 a0) (t1 : TopAt p b m n e1 k1 a1) : ∃ c, TopAt p b m n e k c := by
  rcases topAt_or p b m n e k h1 h4 h8 hm hn hb a0 t0.good with h | ⟨r, r1, r2, r3⟩
  · exact h
  · have q0 := topAt_ray p b m n e0 k0 a0 h1 h4 hm hn hb t0 r r1 r2
    have q1 := topAt_ray p b m n e1 k1 a1 h1 h4 hm hn hb t1 r r1 r2
    have := between e0 k0 e1 k1 e k _ _ p0 p1 pe lo hi q0 q1
    omega

/-- Between two places at which corners on one line are best, the most is on that line. -/
theorem line_between (p : Lp) (b : List Int) (m n : Nat) (h1 : 1 ≤ m) (h4 : m ≤ 4) (hm : m = p.rows.length) (hn : n = p.costs.length) (hb : b.length = n) (e0 k0 e1 k1 e k : Int) (p0 : 0 < e0) (p1 : 0 < e1) (pe : 0 < e) (lo : k0 * e ≤ k * e0) (hi : k * e1 ≤ k1 * e)
    (a0 a1 c : List Int) (t0 : TopAt p b m n e0 k0 a0) (t1 : TopAt p b m n e1 k1 a1) (tc : TopAt p b m n e k c) (hB : baseN p m n a0 * overN p m a1 = baseN p m n a1 * overN p m a0) (hS : slopeN p b m n a0 * overN p m a1 = slopeN p b m n a1 * overN p m a0) :
    (e * baseN p m n c + k * slopeN p b m n c) * overN p m a0 = (e * baseN p m n a0 + k * slopeN p b m n a0) * overN p m c := by
  have u0 := topAt_over p b m n e0 k0 a0 c h1 h4 hm hn hb t0 tc.good
  have u1 := topAt_over p b m n e1 k1 a1 c h1 h4 hm hn hb t1 tc.good
  have uc := topAt_over p b m n e k c a0 h1 h4 hm hn hb tc t0.good
  have d0 := over_pos p m n a0 t0.good
  have d1 := over_pos p m n a1 t1.good
  generalize baseN p m n a0 = B0 at *
  generalize baseN p m n a1 = B1 at *
  generalize baseN p m n c = Bc at *
  generalize slopeN p b m n a0 = S0 at *
  generalize slopeN p b m n a1 = S1 at *
  generalize slopeN p b m n c = Sc at *
  generalize overN p m a0 = D0 at *
  generalize overN p m a1 = D1 at *
  generalize overN p m c = Dc at *
  have v0 : e0 * (Bc * D0 - B0 * Dc) + k0 * (Sc * D0 - S0 * Dc) ≤ 0 := by
    have : e0 * (Bc * D0 - B0 * Dc) + k0 * (Sc * D0 - S0 * Dc) = (e0 * Bc + k0 * Sc) * D0 - (e0 * B0 + k0 * S0) * Dc := by grind
    omega
  have v1 : e1 * (Bc * D0 - B0 * Dc) + k1 * (Sc * D0 - S0 * Dc) ≤ 0 := by
    have w1 : D1 * (e1 * (Bc * D0 - B0 * Dc) + k1 * (Sc * D0 - S0 * Dc)) = D0 * ((e1 * Bc + k1 * Sc) * D1) - Dc * (e1 * (B0 * D1) + k1 * (S0 * D1)) := by grind
    have w2 : Dc * (e1 * (B1 * D0) + k1 * (S1 * D0)) = D0 * ((e1 * B1 + k1 * S1) * Dc) := by grind
    rw [hB, hS, w2] at w1
    have w3 := Int.mul_le_mul_of_nonneg_left u1 (Int.le_of_lt d0)
    refine Int.not_lt.1 fun hlt => ?_
    have := Int.mul_pos d1 hlt
    omega
  have vc := between e0 k0 e1 k1 e k _ _ p0 p1 pe lo hi v0 v1
  have w : e * (Bc * D0 - B0 * Dc) + k * (Sc * D0 - S0 * Dc) = (e * Bc + k * Sc) * D0 - (e * B0 + k * S0) * Dc := by grind
  omega

/-- Near enough above a place, what is best is best at the place too. -/
theorem near_up (p : Lp) (b : List Int) (m n : Nat) (h1 : 1 ≤ m) (h4 : m ≤ 4) (h8 : n + m ≤ 8) (hm : m = p.rows.length) (hn : n = p.costs.length) (hb : b.length = n) (hbm : (withC p b).may = true) (e0 k0 e1 k1 : Int) (p0 : 0 < e0) (p1 : 0 < e1) (w1 : e1 ≤ 2147483648) (lt : k0 * e1 < k1 * e0)
    (a0 a1 : List Int) (t0 : TopAt p b m n e0 k0 a0) (t1 : TopAt p b m n e1 k1 a1) : ∃ c, TopAt p b m n e0 k0 c ∧ TopAt p b m n (e0 * 2147483648) (k0 * 2147483648 + 1) c := by
  obtain ⟨c, hc⟩ := topAt_between p b m n h1 h4 h8 hm hn hb e0 k0 e1 k1 (e0 * 2147483648) (k0 * 2147483648 + 1) p0 p1 (by omega) (by
    have : (k0 * 2147483648 + 1) * e0 = k0 * (e0 * 2147483648) + e0 := by grind
    omega) (by
    have s1 : (k0 * 2147483648 + 1) * e1 = 2147483648 * (k0 * e1) + e1 := by grind
    have s2 : k1 * (e0 * 2147483648) = 2147483648 * (k1 * e0) := by grind
    omega) a0 a1 t0 t1
  refine ⟨c, ⟨hc.good, fun j hj => ?_⟩, hc⟩
  have h := hc.gain j hj
  have g := gain_bd (withC p b) c m (n + m) hbm hm j
  have sb : -1073741824 ≤ -(sgD p c m * (gainL (withC p b) c m (n + m))[j]?.getD 0) ∧ -(sgD p c m * (gainL (withC p b) c m (n + m))[j]?.getD 0) ≤ 1073741824 := by unfold sgD; split <;> omega
  generalize -(sgD p c m * (gainL (withC p b) c m (n + m))[j]?.getD 0) = y at *
  generalize -(sgD p c m * (gainL p c m (n + m))[j]?.getD 0) = x at *
  have s : x * (e0 * 2147483648) + (k0 * 2147483648 + 1) * y = 2147483648 * (x * e0 + k0 * y) + y := by grind
  omega

theorem near_down (p : Lp) (b : List Int) (m n : Nat) (h1 : 1 ≤ m) (h4 : m ≤ 4) (h8 : n + m ≤ 8) (hm : m = p.rows.length) (hn : n = p.costs.length) (hb : b.length = n) (hbm : (withC p b).may = true) (e0 k0 e1 k1 : Int) (p0 : 0 < e0) (p1 : 0 < e1) (w1 : e1 ≤ 2147483648) (lt : k1 * e0 < k0 * e1)
    (a0 a1 : List Int) (t0 : TopAt p b m n e0 k0 a0) (t1 : TopAt p b m n e1 k1 a1) : ∃ c, TopAt p b m n e0 k0 c ∧ TopAt p b m n (e0 * 2147483648) (k0 * 2147483648 - 1) c := by
  obtain ⟨c, hc⟩ := topAt_between p b m n h1 h4 h8 hm hn hb e1 k1 e0 k0 (e0 * 2147483648) (k0 * 2147483648 - 1) p1 p0 (by omega) (by
    have s1 : (k0 * 2147483648 - 1) * e1 = 2147483648 * (k0 * e1) - e1 := by grind
    have s2 : k1 * (e0 * 2147483648) = 2147483648 * (k1 * e0) := by grind
    omega) (by
    have : (k0 * 2147483648 - 1) * e0 = k0 * (e0 * 2147483648) - e0 := by grind
    omega) a1 a0 t1 t0
  refine ⟨c, ⟨hc.good, fun j hj => ?_⟩, hc⟩
  have h := hc.gain j hj
  have g := gain_bd (withC p b) c m (n + m) hbm hm j
  have sb : -1073741824 ≤ -(sgD p c m * (gainL (withC p b) c m (n + m))[j]?.getD 0) ∧ -(sgD p c m * (gainL (withC p b) c m (n + m))[j]?.getD 0) ≤ 1073741824 := by unfold sgD; split <;> omega
  generalize -(sgD p c m * (gainL (withC p b) c m (n + m))[j]?.getD 0) = y at *
  generalize -(sgD p c m * (gainL p c m (n + m))[j]?.getD 0) = x at *
  have s : x * (e0 * 2147483648) + (k0 * 2147483648 - 1) * y = 2147483648 * (x * e0 + k0 * y) - y := by grind
  omega

/-- The span of a corner, as the document tells it. -/
def costsS (p : Lp) (b : List Int) (m n : Nat) (a : List Int) : Spn :=
  spanS (fun j => 0 - (look p a).g[j]?.getD 0 * (look (withC p b) a).gd) (fun j => 0 - (look (withC p b) a).g[j]?.getD 0 * (look p a).gd) (n + m)

/-- Within a span: at k / e. -/
def inS (s : Spn) (e k : Int) : Prop := (s.o = true ∨ s.n * e ≤ k * s.d) ∧ (s.o2 = true ∨ k * s.d2 ≤ s.n2 * e)

/-- The span of a corner is made of the corner's own numbers. -/
theorem costsS_own (p : Lp) (b : List Int) (m n : Nat) (a : List Int) (hm : m = p.rows.length) (hn : n = p.costs.length) (hb : b.length = n) (hmay : p.may = true) (hbm : (withC p b).may = true) (hr : rightB a m (n + m) = true) (hd : denL p a m ≠ 0) :
    SpanIs (fun j => 0 - (look p a).g[j]?.getD 0 * (look (withC p b) a).gd) (fun j => 0 - (look (withC p b) a).g[j]?.getD 0 * (look p a).gd) (n + m) (costsS p b m n a) :=
  (costs_span p p.costs b a m n hm hn rfl (by omega) hmay hbm hr hd).2

/-- A corner that goes is best just within its span. -/
theorem topAt_span (p : Lp) (b : List Int) (m n : Nat) (a : List Int) (hm : m = p.rows.length) (hn : n = p.costs.length) (hb : b.length = n) (hmay : p.may = true) (hbm : (withC p b).may = true) (hg : Good p a m n) (e k : Int) (he : 0 < e) :
    TopAt p b m n e k a ↔ emptyS (costsS p b m n a) = false ∧ inS (costsS p b m n a) e k := by
  have hal := costs_alike p p.costs b a m n hm hn rfl (by omega) hmay hbm hg.right hg.den
  rw [withC_self] at hal
  have hs := span_all _ _ (n + m) _ (costsS_own p b m n a hm hn hb hmay hbm hg.right hg.den) k e he
  unfold inS
  rw [← hs]
  have one : ∀ j : Nat, (0 ≤ -(sgD p a m * (gainL p a m (n + m))[j]?.getD 0) * e + k * -(sgD p a m * (gainL (withC p b) a m (n + m))[j]?.getD 0)) ↔ 0 ≤ (0 - (look p a).g[j]?.getD 0 * (look (withC p b) a).gd) * e + k * (0 - (look (withC p b) a).g[j]?.getD 0 * (look p a).gd) := by
    intro j
    obtain ⟨u, l, u0, l0, eq⟩ := alike_sum _ _ _ _ e k (hal j)
    have h2 := nonneg_mul_iff l ((0 - (look p a).g[j]?.getD 0 * (look (withC p b) a).gd) * e + k * (0 - (look (withC p b) a).g[j]?.getD 0 * (look p a).gd)) l0
    rw [eq, nonneg_mul_iff u _ u0] at h2
    exact h2
  exact ⟨fun h j hj => (one j).1 (h.gain j hj), fun h => ⟨hg, fun j hj => (one j).2 (h j hj)⟩⟩

end Num
end Go.Proofs.YtipcbhodlgoflabGreat

/- All columns that are right, in the document's order: in plain numbers. -/
namespace Go.Proofs.YtipcbhodlgoflabGreat
namespace Num

/-- The column at k goes up by one, and those behind it follow close. -/
def bumpL (at' : List Int) (k : Nat) : List Int := (List.range at'.length).map fun i => if i < k then at'[i]?.getD 0 else at'[k]?.getD 0 + 1 + ((i - k : Nat) : Int)

/-- The columns behind these: the places below k left to ask. -/
def nextGo (at' : List Int) (N : Nat) : Nat → List Int
  | 0 => []
  | k + 1 => if at'[k]?.getD 0 < (N : Int) - ((at'.length : Int) - k) then bumpL at' k else nextGo at' N k

def nextC (at' : List Int) (N : Nat) : List Int := nextGo at' N at'.length

def firstC (m : Nat) : List Int := (List.range m).map fun (i : Nat) => (i : Int)

def allGo (N : Nat) : Nat → List Int → List (List Int)
  | 0, _ => []
  | _ + 1, [] => []
  | f + 1, a :: l => (a :: l) :: allGo N f (nextC (a :: l) N)

def allC (m N : Nat) : List (List Int) := allGo N 71 (firstC m)

theorem all_facts : ∀ n m : Fin 4, (allC (m + 1) (n + 1 + (m + 1))).length ≤ 70 ∧ (allC (m + 1) (n + 1 + (m + 1))).all (fun l => rightB l (m + 1) (n + 1 + (m + 1))) = true := by decide +kernel

def memB (l : List Int) (ls : List (List Int)) : Bool := ls.any fun x => x == l

theorem all_1 : ∀ n : Fin 4, ∀ a : Fin 8, rightB [(a : Nat)] 1 (n + 1 + 1) = true → memB [(a : Nat)] (allC 1 (n + 1 + 1)) = true := by decide +kernel
theorem all_2 : ∀ n : Fin 4, ∀ a b : Fin 8, rightB [(a : Nat), (b : Nat)] 2 (n + 1 + 2) = true → memB [(a : Nat), (b : Nat)] (allC 2 (n + 1 + 2)) = true := by decide +kernel
theorem all_3 : ∀ n : Fin 4, ∀ a b c : Fin 8, rightB [(a : Nat), (b : Nat), (c : Nat)] 3 (n + 1 + 3) = true → memB [(a : Nat), (b : Nat), (c : Nat)] (allC 3 (n + 1 + 3)) = true := by decide +kernel
theorem all_4 : ∀ n : Fin 4, ∀ a b c d : Fin 8, rightB [(a : Nat), (b : Nat), (c : Nat), (d : Nat)] 4 (n + 1 + 4) = true → memB [(a : Nat), (b : Nat), (c : Nat), (d : Nat)] (allC 4 (n + 1 + 4)) = true := by decide +kernel

theorem all_len (m n : Nat) (h1 : 1 ≤ m) (h4 : m ≤ 4) (hn1 : 1 ≤ n) (hn4 : n ≤ 4) : (allC m (n + m)).length ≤ 70 ∧ ∀ l ∈ allC m (n + m), rightB l m (n + m) = true := by
  obtain ⟨m, rfl⟩ : ∃ k, m = k + 1 := ⟨m - 1, by omega⟩
  obtain ⟨n, rfl⟩ : ∃ k, n = k + 1 := ⟨n - 1, by omega⟩
  have := all_facts ⟨n, by omega⟩ ⟨m, by omega⟩
  exact ⟨this.1, fun l hl => List.all_eq_true.1 this.2 l hl⟩

theorem memB_mem (l : List Int) (ls : List (List Int)) (h : memB l ls = true) : l ∈ ls := by
  unfold memB at h
  rw [List.any_eq_true] at h
  obtain ⟨x, hx, he⟩ := h
  rw [beq_iff_eq] at he
  subst he
  exact hx

/-- All that are right come. -/
theorem all_come (at' : List Int) (m n : Nat) (h1 : 1 ≤ m) (h4 : m ≤ 4) (hn1 : 1 ≤ n) (hn4 : n ≤ 4) (hr : rightB at' m (n + m) = true) : at' ∈ allC m (n + m) := by
  obtain ⟨hl, hk⟩ := right_all at' m (n + m) hr
  have hv := at_val at' m (n + m) hr
  have h8 : ∀ i, atF at' i < 8 := atF_8 at' m (n + m) hr (by omega)
  obtain ⟨n, rfl⟩ : ∃ k, n = k + 1 := ⟨n - 1, by omega⟩
  have h8' := h8
  refine memB_mem _ _ ?_
  match at', m, h1, h4, hl with
  | [a], 1, _, _, _ =>
    have a0 := hv 0 (by omega)
    simp only [List.getElem?_cons_zero, Option.getD_some] at a0
    have := all_1 ⟨n, by omega⟩ ⟨atF [a] 0, h8 0⟩
    dsimp only at this
    rw [← a0] at this
    exact this hr
  | [a, b], 2, _, _, _ =>
    have a0 := hv 0 (by omega)
    have a1 := hv 1 (by omega)
    simp only [List.getElem?_cons_zero, List.getElem?_cons_succ, Option.getD_some] at a0 a1
    have := all_2 ⟨n, by omega⟩ ⟨atF [a, b] 0, h8 0⟩ ⟨atF [a, b] 1, h8 1⟩
    dsimp only at this
    rw [← a0, ← a1] at this
    exact this hr
  | [a, b, c], 3, _, _, _ =>
    have a0 := hv 0 (by omega)
    have a1 := hv 1 (by omega)
    have a2 := hv 2 (by omega)
    simp only [List.getElem?_cons_zero, List.getElem?_cons_succ, Option.getD_some] at a0 a1 a2
    have := all_3 ⟨n, by omega⟩ ⟨atF [a, b, c] 0, h8 0⟩ ⟨atF [a, b, c] 1, h8 1⟩ ⟨atF [a, b, c] 2, h8 2⟩
    dsimp only at this
    rw [← a0, ← a1, ← a2] at this
    exact this hr
  | [a, b, c, d], 4, _, _, _ =>
    have a0 := hv 0 (by omega)
    have a1 := hv 1 (by omega)
    have a2 := hv 2 (by omega)
    have a3 := hv 3 (by omega)
    simp only [List.getElem?_cons_zero, List.getElem?_cons_succ, Option.getD_some] at a0 a1 a2 a3
    have := all_4 ⟨n, by omega⟩ ⟨atF [a, b, c, d] 0, h8 0⟩ ⟨atF [a, b, c, d] 1, h8 1⟩ ⟨atF [a, b, c, d] 2, h8 2⟩ ⟨atF [a, b, c, d] 3, h8 3⟩
    dsimp only at this
    rw [← a0, ← a1, ← a2, ← a3] at this
    exact this hr

/-- Does the corner go, as Look tells it? -/
def goodB (p : Lp) (at' : List Int) : Bool := decide ((look p at').err = 0) && !anyNeg (look p at').x
theorem goodB_iff (p : Lp) (at' : List Int) (m n : Nat) (hmay : p.may = true) (hm : m = p.rows.length) (hn : n = p.costs.length) : goodB p at' = true ↔ Good p at' m n := by
  unfold goodB
  rw [← good_of p at' m n hmay hm hn]
  simp

end Num
end Go.Proofs.YtipcbhodlgoflabGreat

/- The columns behind these, step by step: in plain numbers. -/
namespace Go.Proofs.YtipcbhodlgoflabGreat
namespace Num

end Num
end Go.Proofs.YtipcbhodlgoflabGreat

/- The pieces along a line, as the document makes them, and that they tell the most: in plain numbers. -/
namespace Go.Proofs.YtipcbhodlgoflabGreat
namespace Num

structure En where
  o : Bool
  n : Int
  d : Int
  deriving DecidableEq

structure Pc where
  f : En
  t : En
  bn : Int
  bd : Int
  sn : Int
  sd : Int
  deriving DecidableEq

def loE (f : En) (e k : Int) : Prop := f.o = true ∨ f.n * e ≤ k * f.d
def hiE (t : En) (e k : Int) : Prop := t.o = true ∨ k * t.d ≤ t.n * e
def sFrom (s : Spn) : En := ⟨s.o, s.n, s.d⟩
def sTo (s : Spn) : En := ⟨s.o2, s.n2, s.d2⟩

/-- An end that may be. -/
def EnOk (a : En) : Prop := (a.o = true ∧ a.n = 0 ∧ a.d = 0) ∨ (a.o = false ∧ mayB a.d [a.n] = true)

theorem EnOk.pos {a : En} (h : EnOk a) (ho : a.o = false) : 0 < a.d ∧ a.d ≤ 1073741824 := by
  rcases h with ⟨h1, _⟩ | ⟨_, h2⟩
  · rw [ho] at h1; cases h1
  · exact ⟨may_pos _ _ h2, (mayB_bd _ _ h2).2.1⟩

theorem EnOk.open {a : En} (h : EnOk a) (ho : a.o = true) : a = ⟨true, 0, 0⟩ := by
  obtain ⟨o, n, d⟩ := a
  simp only at ho
  subst ho
  rcases h with ⟨_, h1, h2⟩ | ⟨h1, _⟩
  · simp only at h1 h2; rw [h1, h2]
  · cases h1

theorem from_ok (a b : Nat → Int) (N : Nat) (s : Spn) (h : SpanIs a b N s) : EnOk (sFrom s) := by
  rcases h.lo with ⟨h1, h2, h3, _⟩ | ⟨h1, h2, _⟩
  · exact Or.inl ⟨h1, h2, h3⟩
  · exact Or.inr ⟨h1, h2⟩

theorem to_ok (a b : Nat → Int) (N : Nat) (s : Spn) (h : SpanIs a b N s) : EnOk (sTo s) := by
  rcases h.hi with ⟨h1, h2, h3, _⟩ | ⟨h1, h2, _⟩
  · exact Or.inl ⟨h1, h2, h3⟩
  · exact Or.inr ⟨h1, h2⟩

def lowerN (a b : En) : En := if a.o = true ∨ b.o = true then ⟨true, 0, 0⟩ else if a.n * b.d ≤ b.n * a.d then a else b
def higherN (a b : En) : En := if a.o = true ∨ b.o = true then ⟨true, 0, 0⟩ else if b.n * a.d ≤ a.n * b.d then a else b

theorem lower_one (a b : En) (ha : EnOk a) (hb : EnOk b) : lowerN a b = a ∨ lowerN a b = b := by
  unfold lowerN
  by_cases h1 : a.o = true
  · rw [if_pos (Or.inl h1)]; exact Or.inl (ha.open h1).symm
  · by_cases h2 : b.o = true
    · rw [if_pos (Or.inr h2)]; exact Or.inr (hb.open h2).symm
    · rw [if_neg (fun h => h.elim h1 h2)]
      split
      · exact Or.inl rfl
      · exact Or.inr rfl

theorem higher_one (a b : En) (ha : EnOk a) (hb : EnOk b) : higherN a b = a ∨ higherN a b = b := by
  unfold higherN
  by_cases h1 : a.o = true
  · rw [if_pos (Or.inl h1)]; exact Or.inl (ha.open h1).symm
  · by_cases h2 : b.o = true
    · rw [if_pos (Or.inr h2)]; exact Or.inr (hb.open h2).symm
    · rw [if_neg (fun h => h.elim h1 h2)]
      split
      · exact Or.inl rfl
      · exact Or.inr rfl

theorem le_frac (n d n' d' k e : Int) (hd : 0 < d) (hd' : 0 < d') (he : 0 < e) (h : n * d' ≤ n' * d) (h2 : n' * e ≤ k * d') : n * e ≤ k * d := by
  have p1 := Int.mul_le_mul_of_nonneg_right h (Int.le_of_lt he)
  have p2 := Int.mul_le_mul_of_nonneg_right h2 (Int.le_of_lt hd)
  have s1 : n * d' * e = d' * (n * e) := by grind
  have s2 : n' * d * e = n' * e * d := by grind
  have s3 : k * d' * d = d' * (k * d) := by grind
  exact Int.le_of_mul_le_mul_left (by omega) hd'

theorem ge_frac (n d n' d' k e : Int) (hd : 0 < d) (hd' : 0 < d') (he : 0 < e) (h : n' * d ≤ n * d') (h2 : k * d' ≤ n' * e) : k * d ≤ n * e := by
  have := le_frac (-n) d (-n') d' (-k) e hd hd' he (by rw [Int.neg_mul, Int.neg_mul]; omega) (by rw [Int.neg_mul, Int.neg_mul]; omega)
  rw [Int.neg_mul, Int.neg_mul] at this
  omega

theorem lower_lo (a b : En) (ha : EnOk a) (hb : EnOk b) (e k : Int) (he : 0 < e) (h : loE a e k ∨ loE b e k) : loE (lowerN a b) e k := by
  unfold lowerN
  by_cases h1 : a.o = true ∨ b.o = true
  · rw [if_pos h1]; exact Or.inl rfl
  · rw [if_neg h1]
    have ao : a.o = false := by simpa using fun h => h1 (Or.inl h)
    have bo : b.o = false := by simpa using fun h => h1 (Or.inr h)
    have ap := (ha.pos ao).1
    have bp := (hb.pos bo).1
    have h' : a.n * e ≤ k * a.d ∨ b.n * e ≤ k * b.d := by
      rcases h with (h | h) | (h | h)
      · rw [ao] at h; cases h
      · exact Or.inl h
      · rw [bo] at h; cases h
      · exact Or.inr h
    by_cases hc : a.n * b.d ≤ b.n * a.d
    · rw [if_pos hc]
      exact Or.inr (h'.elim id fun h => le_frac _ _ _ _ _ _ ap bp he hc h)
    · rw [if_neg hc]
      exact Or.inr (h'.elim (fun h => le_frac _ _ _ _ _ _ bp ap he (by omega) h) id)

theorem higher_hi (a b : En) (ha : EnOk a) (hb : EnOk b) (e k : Int) (he : 0 < e) (h : hiE a e k ∨ hiE b e k) : hiE (higherN a b) e k := by
  unfold higherN
  by_cases h1 : a.o = true ∨ b.o = true
  · rw [if_pos h1]; exact Or.inl rfl
  · rw [if_neg h1]
    have ao : a.o = false := by simpa using fun h => h1 (Or.inl h)
    have bo : b.o = false := by simpa using fun h => h1 (Or.inr h)
    have ap := (ha.pos ao).1
    have bp := (hb.pos bo).1
    have h' : k * a.d ≤ a.n * e ∨ k * b.d ≤ b.n * e := by
      rcases h with (h | h) | (h | h)
      · rw [ao] at h; cases h
      · exact Or.inl h
      · rw [bo] at h; cases h
      · exact Or.inr h
    by_cases hc : b.n * a.d ≤ a.n * b.d
    · rw [if_pos hc]
      exact Or.inr (h'.elim id fun h => ge_frac _ _ _ _ _ _ ap bp he hc h)
    · rw [if_neg hc]
      exact Or.inr (h'.elim (fun h => ge_frac _ _ _ _ _ _ bp ap he (by omega) h) id)

/-- On one line. -/
def sameL (y x : Pc) : Prop := y.bn = x.bn ∧ y.bd = x.bd ∧ y.sn = x.sn ∧ y.sd = x.sd
instance (y x : Pc) : Decidable (sameL y x) := by unfold sameL; infer_instance

def mergeN (y x : Pc) : Pc := { y with f := lowerN y.f x.f, t := higherN y.t x.t }

def joinedN : List Pc → Pc → List Pc
  | [], x => [x]
  | y :: l, x => if sameL y x then mergeN y x :: l else y :: joinedN l x

theorem joined_mem (x y : Pc) : ∀ l, y ∈ joinedN l x → y ∈ l ∨ y = x ∨ ∃ z ∈ l, sameL z x ∧ y = mergeN z x := by
  intro l
  induction l with
  | nil =>
    intro h
    exact Or.inr (Or.inl (by simpa [joinedN] using h))
  | cons z l ih =>
    intro h
    unfold joinedN at h
    by_cases hs : sameL z x
    · rw [if_pos hs] at h
      rcases List.mem_cons.1 h with h | h
      · exact Or.inr (Or.inr ⟨z, by simp, hs, h⟩)
      · exact Or.inl (by simp [h])
    · rw [if_neg hs] at h
      rcases List.mem_cons.1 h with h | h
      · exact Or.inl (by simp [h])
      · rcases ih h with h | h | ⟨w, h1, h2, h3⟩
        · exact Or.inl (by simp [h])
        · exact Or.inr (Or.inl h)
        · exact Or.inr (Or.inr ⟨w, by simp [h1], h2, h3⟩)

theorem joined_keep (x z : Pc) : ∀ l, z ∈ l → z ∈ joinedN l x ∨ (sameL z x ∧ mergeN z x ∈ joinedN l x) := by
  intro l
  induction l with
  | nil => intro h; cases h
  | cons y l ih =>
    intro h
    unfold joinedN
    by_cases hs : sameL y x
    · rw [if_pos hs]
      rcases List.mem_cons.1 h with h | h
      · subst h; exact Or.inr ⟨hs, by simp⟩
      · exact Or.inl (by simp [h])
    · rw [if_neg hs]
      rcases List.mem_cons.1 h with h | h
      · exact Or.inl (by simp [h])
      · rcases ih h with h | ⟨h1, h2⟩
        · exact Or.inl (by simp [h])
        · exact Or.inr ⟨h1, by simp [h2]⟩

theorem joined_has (x : Pc) : ∀ l, x ∈ joinedN l x ∨ ∃ z ∈ l, sameL z x ∧ mergeN z x ∈ joinedN l x := by
  intro l
  induction l with
  | nil => exact Or.inl (by simp [joinedN])
  | cons y l ih =>
    unfold joinedN
    by_cases hs : sameL y x
    · rw [if_pos hs]
      exact Or.inr ⟨y, by simp, hs, by simp⟩
    · rw [if_neg hs]
      rcases ih with h | ⟨z, h1, h2, h3⟩
      · exact Or.inl (by simp [h])
      · exact Or.inr ⟨z, by simp [h1], h2, by simp [h3]⟩

def baseF (p : Lp) (n : Nat) (a : List Int) : Int × Int × Int := mk (dotN p.costs (look p a).x n) (look p a).xd
def slopeF (p : Lp) (b : List Int) (n : Nat) (a : List Int) : Int × Int × Int := mk (dotN b (look p a).x n) (look p a).xd

def pieceN (p : Lp) (b : List Int) (m n : Nat) (a : List Int) : Pc := ⟨sFrom (costsS p b m n a), sTo (costsS p b m n a), (baseF p n a).1, (baseF p n a).2.1, (slopeF p b n a).1, (slopeF p b n a).2.1⟩

def usedB (p : Lp) (b : List Int) (m n : Nat) (a : List Int) : Bool := goodB p a && !emptyS (costsS p b m n a)

def linesN (p : Lp) (b : List Int) (m n : Nat) (all : List (List Int)) : List Pc := all.foldl (fun l a => if usedB p b m n a = true then joinedN l (pieceN p b m n a) else l) []

def spotB (x : Pc) : Bool := !x.f.o && !x.t.o && decide (x.f.n = x.t.n ∧ x.f.d = x.t.d)
def beforeB (a b : Pc) : Bool := if a.f.o = true ∨ b.f.o = true then a.f.o else decide (a.f.n * b.f.d < b.f.n * a.f.d)

def insN (x : Pc) : List Pc → List Pc
  | [] => [x]
  | y :: l => if beforeB y x = true then y :: insN x l else x :: y :: l

def outP (l : List Pc) : List Pc := l.foldl (fun out x => if spotB x = true then out else insN x out) []

def leastP (l : List Pc) (x : Pc) : Pc := l.foldl (fun best y => if y.sn * best.sd < best.sn * y.sd then y else best) x

def sweepN (l : List Pc) : List Pc :=
  match outP l, l with
  | [], x :: r => [leastP r x]
  | out, _ => out

theorem mem_ins (x z : Pc) : ∀ l, z ∈ insN x l ↔ z = x ∨ z ∈ l := by
  intro l
  induction l with
  | nil => simp [insN]
  | cons y l ih =>
    unfold insN
    split
    · rw [List.mem_cons, ih, List.mem_cons]
      constructor
      · rintro (h | h | h)
        · exact Or.inr (Or.inl h)
        · exact Or.inl h
        · exact Or.inr (Or.inr h)
      · rintro (h | h | h)
        · exact Or.inr (Or.inl h)
        · exact Or.inl h
        · exact Or.inr (Or.inr h)
    · rw [List.mem_cons]

theorem mem_outG (z : Pc) : ∀ l out : List Pc, z ∈ l.foldl (fun out x => if spotB x = true then out else insN x out) out ↔ z ∈ out ∨ (z ∈ l ∧ spotB z = false) := by
  intro l
  induction l with
  | nil => intro out; simp
  | cons y l ih =>
    intro out
    rw [List.foldl_cons, ih]
    by_cases hp : spotB y = true
    · rw [if_pos hp, List.mem_cons]
      constructor
      · rintro (h | ⟨h1, h2⟩)
        · exact Or.inl h
        · exact Or.inr ⟨Or.inr h1, h2⟩
      · rintro (h | ⟨h1 | h1, h2⟩)
        · exact Or.inl h
        · rw [h1, hp] at h2; cases h2
        · exact Or.inr ⟨h1, h2⟩
    · rw [if_neg hp, mem_ins, List.mem_cons]
      constructor
      · rintro ((h | h) | ⟨h1, h2⟩)
        · exact Or.inr ⟨Or.inl h, by rw [h]; simpa using hp⟩
        · exact Or.inl h
        · exact Or.inr ⟨Or.inr h1, h2⟩
      · rintro (h | ⟨h1 | h1, h2⟩)
        · exact Or.inl (Or.inr h)
        · exact Or.inl (Or.inl h1)
        · exact Or.inr ⟨h1, h2⟩

theorem mem_outP (z : Pc) (l : List Pc) : z ∈ outP l ↔ z ∈ l ∧ spotB z = false := by
  unfold outP
  rw [mem_outG]
  simp

theorem least_mem : ∀ (l : List Pc) (x : Pc), leastP l x ∈ x :: l := by
  intro l
  induction l with
  | nil => intro x; simp [leastP]
  | cons y l ih =>
    intro x
    have e : leastP (y :: l) x = leastP l (if y.sn * x.sd < x.sn * y.sd then y else x) := rfl
    rw [e]
    have := ih (if y.sn * x.sd < x.sn * y.sd then y else x)
    rcases List.mem_cons.1 this with h | h
    · rw [h]
      split
      · simp
      · simp
    · simp [h]

/-- What is among the pieces: all but points; or one, if all are points. -/
theorem sweep_cases (l : List Pc) : ((∃ z ∈ l, spotB z = false) ∧ ∀ y, y ∈ sweepN l ↔ y ∈ l ∧ spotB y = false) ∨ ((∀ z ∈ l, spotB z = true) ∧ ((l = [] ∧ sweepN l = []) ∨ ∃ y ∈ l, sweepN l = [y])) := by
  cases ho : outP l with
  | cons x r =>
    refine Or.inl ⟨⟨x, ?_⟩, fun y => ?_⟩
    · have := (mem_outP x l).1 (by rw [ho]; simp)
      exact this
    · have e : sweepN l = outP l := by unfold sweepN; rw [ho]
      rw [e, mem_outP]
  | nil =>
    refine Or.inr ⟨fun z hz => ?_, ?_⟩
    · cases hp : spotB z with
      | true => rfl
      | false =>
        have := (mem_outP z l).2 ⟨hz, hp⟩
        rw [ho] at this
        cases this
    · cases l with
      | nil => exact Or.inl ⟨rfl, rfl⟩
      | cons x r =>
        refine Or.inr ⟨leastP r x, least_mem r x, ?_⟩
        unfold sweepN
        rw [ho]

end Num
end Go.Proofs.YtipcbhodlgoflabGreat

/- The pieces along a line tell the most, and where there is one: in plain numbers. -/
namespace Go.Proofs.YtipcbhodlgoflabGreat
namespace Num

/-- A program that may be, and a growth of costs that may be. -/
structure Ctx (p : Lp) (b : List Int) (m n : Nat) : Prop where
  hm : m = p.rows.length
  hn : n = p.costs.length
  hb : b.length = n
  may : p.may = true
  bmay : (withC p b).may = true

section
variable {p : Lp} {b : List Int} {m n : Nat}

theorem Ctx.h1 (h : Ctx p b m n) : 1 ≤ m := by have := (p.may_of h.may).2.2.1.1; have := h.hm; omega
theorem Ctx.h4 (h : Ctx p b m n) : m ≤ 4 := by have := (p.may_of h.may).2.2.1.2; have := h.hm; omega
theorem Ctx.n1 (h : Ctx p b m n) : 1 ≤ n := by have := (p.may_of h.may).1.1; have := h.hn; omega
theorem Ctx.n4 (h : Ctx p b m n) : n ≤ 4 := by have := (p.may_of h.may).1.2; have := h.hn; omega
theorem Ctx.h8 (h : Ctx p b m n) : n + m ≤ 8 := by have := h.h4; have := h.n4; omega

theorem Ctx.used (h : Ctx p b m n) (a : List Int) : usedB p b m n a = true ↔ Good p a m n ∧ emptyS (costsS p b m n a) = false := by
  unfold usedB
  rw [Bool.and_eq_true, goodB_iff p a m n h.may h.hm h.hn, Bool.not_eq_true']

theorem Ctx.isS (h : Ctx p b m n) (a : List Int) (hg : Good p a m n) : SpanIs (fun j => 0 - (look p a).g[j]?.getD 0 * (look (withC p b) a).gd) (fun j => 0 - (look (withC p b) a).g[j]?.getD 0 * (look p a).gd) (n + m) (costsS p b m n a) :=
  costsS_own p b m n a h.hm h.hn h.hb h.may h.bmay hg.right hg.den

theorem Ctx.top (h : Ctx p b m n) (a : List Int) (e k : Int) (he : 0 < e) : TopAt p b m n e k a ↔ usedB p b m n a = true ∧ inS (costsS p b m n a) e k := by
  rw [h.used]
  constructor
  · intro ht
    have := (topAt_span p b m n a h.hm h.hn h.hb h.may h.bmay ht.good e k he).1 ht
    exact ⟨⟨ht.good, this.1⟩, this.2⟩
  · rintro ⟨⟨h1, h2⟩, h3⟩
    exact (topAt_span p b m n a h.hm h.hn h.hb h.may h.bmay h1 e k he).2 ⟨h2, h3⟩

/-- What a corner is worth, over one number, as a fraction. -/
theorem worth_is (h : Ctx p b m n) (a : List Int) (hg : Good p a m n) (c : List Int) (hc : c.length = n) (hw : withinB 400 c = true) :
    ∃ x y, mk (dotN c (look p a).x n) (look p a).xd = (x, y, 0) ∧ mayB y [x] = true ∧ sgD p a m * sumN (fun j => c[j]?.getD 0 * (xL p a m (n + m))[j]?.getD 0) (n + m) * y = x * overN p m a := by
  obtain ⟨_, _, _, hxd, hxb, gx, _, gx0, _, hx, hd, _⟩ := look_parts p a m n h.may h.hm h.hn hg.right hg.den
  have n4 := h.n4
  have bd := dotN_bd c (look p a).x 400 497664 (withinB_iff _ _ hw (by omega)) hxb n
  have bd' : -1073741824 ≤ dotN c (look p a).x n ∧ dotN c (look p a).x n ≤ 1073741824 := by omega
  obtain ⟨x, y, e1, e2, e3, _, _, _, e7⟩ := mk_ok (look p a).xd (dotN c (look p a).x n) (by omega) (by omega) (by omega) (fits_small _ _ (by omega) bd' (by omega))
  refine ⟨x, y, e1, e7, ?_⟩
  have s1 : sgD p a m * sumN (fun j => c[j]?.getD 0 * (xL p a m (n + m))[j]?.getD 0) (n + m) = gx * dotN c (look p a).x n := by
    rw [← sumN_mul, dotN_sum, sumN_split, ← sumN_mul]
    have z : sumN (fun i => sgD p a m * (c[n + i]?.getD 0 * (xL p a m (n + m))[n + i]?.getD 0)) m = 0 := (sumN_congr _ (fun _ => 0) _ fun i _ => by
      rw [List.getElem?_eq_none (l := c) (by omega)]; simp).trans (sumN_zero m)
    rw [z, Int.add_zero]
    refine sumN_congr _ _ _ fun j _ => ?_
    have := hx j
    have e : sgD p a m * (c[j]?.getD 0 * (xL p a m (n + m))[j]?.getD 0) = c[j]?.getD 0 * (sgD p a m * (xL p a m (n + m))[j]?.getD 0) := by grind
    rw [e, this]; grind
  rw [s1]
  unfold overN
  rw [hd]
  have : x * (gx * (look p a).xd) = gx * (x * (look p a).xd) := by grind
  rw [this, e2]; grind

theorem Ctx.base (h : Ctx p b m n) (a : List Int) (hg : Good p a m n) : 0 < (baseF p n a).2.1 ∧ baseN p m n a * (baseF p n a).2.1 = (baseF p n a).1 * overN p m a := by
  obtain ⟨x, y, e1, e2, e3⟩ := worth_is h a hg p.costs h.hn.symm (p.may_of h.may).2.1
  unfold baseF
  rw [e1]
  exact ⟨may_pos y x e2, e3⟩

theorem Ctx.slope (h : Ctx p b m n) (a : List Int) (hg : Good p a m n) : 0 < (slopeF p b n a).2.1 ∧ slopeN p b m n a * (slopeF p b n a).2.1 = (slopeF p b n a).1 * overN p m a := by
  obtain ⟨x, y, e1, e2, e3⟩ := worth_is h a hg b h.hb ((withC p b).may_of h.bmay).2.1
  unfold slopeF
  rw [e1]
  exact ⟨may_pos y x e2, e3⟩

/-- What is so of the lines, some corners gone through. -/
structure Inv (p : Lp) (b : List Int) (m n : Nat) (Q : List Int → Prop) (l : List Pc) : Prop where
  own : ∀ y ∈ l, ∃ a0 a1, usedB p b m n a0 = true ∧ usedB p b m n a1 = true ∧ y.f = sFrom (costsS p b m n a0) ∧ y.t = sTo (costsS p b m n a1) ∧ sameL y (pieceN p b m n a0) ∧ sameL y (pieceN p b m n a1) ∧
    (∀ e k, 0 < e → inS (costsS p b m n a0) e k → hiE y.t e k) ∧ (∀ e k, 0 < e → inS (costsS p b m n a1) e k → loE y.f e k)
  all : ∀ a, Q a → usedB p b m n a = true → ∃ y ∈ l, ∀ e k, 0 < e → inS (costsS p b m n a) e k → loE y.f e k ∧ hiE y.t e k

theorem Ctx.fromOk (h : Ctx p b m n) (a : List Int) (hu : usedB p b m n a = true) : EnOk (sFrom (costsS p b m n a)) := from_ok _ _ _ _ (h.isS a ((h.used a).1 hu).1)
theorem Ctx.toOk (h : Ctx p b m n) (a : List Int) (hu : usedB p b m n a = true) : EnOk (sTo (costsS p b m n a)) := to_ok _ _ _ _ (h.isS a ((h.used a).1 hu).1)

theorem inv_nil : Inv p b m n (fun _ => False) [] := ⟨fun y hy => (by cases hy), fun a (ha : False) => ha.elim⟩

theorem inv_skip (Q : List Int → Prop) (l : List Pc) (h : Inv p b m n Q l) (a : List Int) (hu : ¬ usedB p b m n a = true) : Inv p b m n (fun z => Q z ∨ z = a) l := by
  refine ⟨h.own, fun z hz hzu => ?_⟩
  rcases hz with hz | hz
  · exact h.all z hz hzu
  · rw [hz] at hzu; exact absurd hzu hu

theorem inv_step (cx : Ctx p b m n) (Q : List Int → Prop) (l : List Pc) (h : Inv p b m n Q l) (a : List Int) (hu : usedB p b m n a = true) : Inv p b m n (fun z => Q z ∨ z = a) (joinedN l (pieceN p b m n a)) := by
  have fa := cx.fromOk a hu
  have ta := cx.toOk a hu
  have okf : ∀ z ∈ l, EnOk z.f := fun z hz => by
    obtain ⟨a0, a1, u0, u1, q1, q2, _⟩ := h.own z hz
    rw [q1]; exact cx.fromOk a0 u0
  have okt : ∀ z ∈ l, EnOk z.t := fun z hz => by
    obtain ⟨a0, a1, u0, u1, q1, q2, _⟩ := h.own z hz
    rw [q2]; exact cx.toOk a1 u1
  refine ⟨fun y hy => ?_, fun z hz hzu => ?_⟩
  · rcases joined_mem _ y l hy with hy | hy | ⟨z, hz, hs, hy⟩
    · exact h.own y hy
    · subst hy
      exact ⟨a, a, hu, hu, rfl, rfl, ⟨rfl, rfl, rfl, rfl⟩, ⟨rfl, rfl, rfl, rfl⟩, fun e k _ hin => hin.2, fun e k _ hin => hin.1⟩
    · subst hy
      obtain ⟨a0, a1, u0, u1, q1, q2, s0, s1, i0, i1⟩ := h.own z hz
      have hx0 : ∃ a0', usedB p b m n a0' = true ∧ (mergeN z (pieceN p b m n a)).f = sFrom (costsS p b m n a0') ∧ sameL (mergeN z (pieceN p b m n a)) (pieceN p b m n a0') ∧ ∀ e k, 0 < e → inS (costsS p b m n a0') e k → hiE (mergeN z (pieceN p b m n a)).t e k := by
        rcases lower_one z.f (pieceN p b m n a).f (okf z hz) fa with e1 | e1
        · exact ⟨a0, u0, e1.trans q1, s0, fun e k he hin => higher_hi z.t _ (okt z hz) ta e k he (Or.inl (i0 e k he hin))⟩
        · exact ⟨a, hu, e1, hs, fun e k he hin => higher_hi z.t _ (okt z hz) ta e k he (Or.inr hin.2)⟩
      have hx1 : ∃ a1', usedB p b m n a1' = true ∧ (mergeN z (pieceN p b m n a)).t = sTo (costsS p b m n a1') ∧ sameL (mergeN z (pieceN p b m n a)) (pieceN p b m n a1') ∧ ∀ e k, 0 < e → inS (costsS p b m n a1') e k → loE (mergeN z (pieceN p b m n a)).f e k := by
        rcases higher_one z.t (pieceN p b m n a).t (okt z hz) ta with e1 | e1
        · exact ⟨a1, u1, e1.trans q2, s1, fun e k he hin => lower_lo z.f _ (okf z hz) fa e k he (Or.inl (i1 e k he hin))⟩
        · exact ⟨a, hu, e1, hs, fun e k he hin => lower_lo z.f _ (okf z hz) fa e k he (Or.inr hin.1)⟩
      obtain ⟨c0, d1, d2, d3, d4⟩ := hx0
      obtain ⟨c1, f1, f2, f3, f4⟩ := hx1
      exact ⟨c0, c1, d1, f1, d2, f2, d3, f3, d4, f4⟩
  · rcases hz with hz | hz
    · obtain ⟨y, hy, hin⟩ := h.all z hz hzu
      rcases joined_keep (pieceN p b m n a) y l hy with hk | ⟨_, hk⟩
      · exact ⟨y, hk, hin⟩
      · exact ⟨_, hk, fun e k he hi => ⟨lower_lo y.f _ (okf y hy) fa e k he (Or.inl (hin e k he hi).1), higher_hi y.t _ (okt y hy) ta e k he (Or.inl (hin e k he hi).2)⟩⟩
    · subst hz
      rcases joined_has (pieceN p b m n z) l with hk | ⟨y, hy, _, hk⟩
      · exact ⟨_, hk, fun e k _ hi => hi⟩
      · exact ⟨_, hk, fun e k he hi => ⟨lower_lo y.f _ (okf y hy) fa e k he (Or.inr hi.1), higher_hi y.t _ (okt y hy) ta e k he (Or.inr hi.2)⟩⟩

theorem inv_foldl (cx : Ctx p b m n) : ∀ (all : List (List Int)) (Q : List Int → Prop) (l : List Pc), Inv p b m n Q l → Inv p b m n (fun z => Q z ∨ z ∈ all) (all.foldl (fun l a => if usedB p b m n a = true then joinedN l (pieceN p b m n a) else l) l) := by
  intro all
  induction all with
  | nil =>
    intro Q l h
    exact ⟨h.own, fun a ha hu => h.all a (by simpa using ha) hu⟩
  | cons a all ih =>
    intro Q l h
    rw [List.foldl_cons]
    have h2 : Inv p b m n (fun z => Q z ∨ z = a) (if usedB p b m n a = true then joinedN l (pieceN p b m n a) else l) := by
      by_cases hu : usedB p b m n a = true
      · rw [if_pos hu]; exact inv_step cx Q l h a hu
      · rw [if_neg hu]; exact inv_skip Q l h a hu
    have h3 := ih _ _ h2
    refine ⟨h3.own, fun z hz hu => h3.all z ?_ hu⟩
    rcases hz with hz | hz
    · exact Or.inl (Or.inl hz)
    · rcases List.mem_cons.1 hz with hz | hz
      · exact Or.inl (Or.inr hz)
      · exact Or.inr hz

theorem inv_lines (cx : Ctx p b m n) (all : List (List Int)) : Inv p b m n (· ∈ all) (linesN p b m n all) := by
  have h := inv_foldl cx all (fun _ => False) [] inv_nil
  exact ⟨h.own, fun a ha hu => h.all a (Or.inr ha) hu⟩

/-- The ends of a span that is not empty are in it. -/
theorem from_in (s : Spn) (hs : emptyS s = false) (ho : s.o = false) : inS s s.d s.n := by
  unfold emptyS at hs
  rw [Bool.or_eq_false_iff] at hs
  refine ⟨Or.inr (Int.le_refl _), ?_⟩
  by_cases ho2 : s.o2 = true
  · exact Or.inl ho2
  · refine Or.inr ?_
    have h2 := hs.2
    rw [ho, show s.o2 = false by simpa using ho2] at h2
    simp only [Bool.not_false, Bool.true_and, decide_eq_false_iff_not] at h2
    omega

theorem to_in (s : Spn) (hs : emptyS s = false) (ho : s.o2 = false) : inS s s.d2 s.n2 := by
  unfold emptyS at hs
  rw [Bool.or_eq_false_iff] at hs
  refine ⟨?_, Or.inr (Int.le_refl _)⟩
  by_cases ho2 : s.o = true
  · exact Or.inl ho2
  · refine Or.inr ?_
    have h2 := hs.2
    rw [ho, show s.o = false by simpa using ho2] at h2
    simp only [Bool.not_false, Bool.true_and, decide_eq_false_iff_not] at h2
    omega

/-- A place above where a span begins: one in the span is not above it. -/
theorem span_left (cx : Ctx p b m n) (a : List Int) (hu : usedB p b m n a = true) (e k : Int) (he : 0 < e) (h : loE (sFrom (costsS p b m n a)) e k) : ∃ e0 k0, 0 < e0 ∧ k0 * e ≤ k * e0 ∧ inS (costsS p b m n a) e0 k0 := by
  by_cases hh : hiE (sTo (costsS p b m n a)) e k
  · exact ⟨e, k, he, Int.le_refl _, h, hh⟩
  · have ho : (costsS p b m n a).o2 = false := Bool.eq_false_iff.2 fun ho => hh (Or.inl ho)
    have hp := ((cx.toOk a hu).pos ho).1
    refine ⟨(costsS p b m n a).d2, (costsS p b m n a).n2, hp, ?_, to_in _ ((cx.used a).1 hu).2 ho⟩
    have := fun h => hh (Or.inr h)
    have := Int.not_le.1 this
    exact Int.le_of_lt this

theorem span_right (cx : Ctx p b m n) (a : List Int) (hu : usedB p b m n a = true) (e k : Int) (he : 0 < e) (h : hiE (sTo (costsS p b m n a)) e k) : ∃ e1 k1, 0 < e1 ∧ k * e1 ≤ k1 * e ∧ inS (costsS p b m n a) e1 k1 := by
  by_cases hh : loE (sFrom (costsS p b m n a)) e k
  · exact ⟨e, k, he, Int.le_refl _, hh, h⟩
  · have ho : (costsS p b m n a).o = false := Bool.eq_false_iff.2 fun ho => hh (Or.inl ho)
    have hp := ((cx.fromOk a hu).pos ho).1
    refine ⟨(costsS p b m n a).d, (costsS p b m n a).n, hp, ?_, from_in _ ((cx.used a).1 hu).2 ho⟩
    have := fun h => hh (Or.inr h)
    have := Int.not_le.1 this
    exact Int.le_of_lt this

/-- Within a line's places, there is a most, and it is on the line. -/
theorem piece_top (cx : Ctx p b m n) (Q : List Int → Prop) (l : List Pc) (h : Inv p b m n Q l) (y : Pc) (hy : y ∈ l) (e k : Int) (he : 0 < e) (hlo : loE y.f e k) (hhi : hiE y.t e k) :
    (∃ c, TopAt p b m n e k c) ∧ (0 < y.bd ∧ 0 < y.sd) ∧ ∀ c, TopAt p b m n e k c → (e * baseN p m n c + k * slopeN p b m n c) * (y.bd * y.sd) = (e * (y.bn * y.sd) + k * (y.sn * y.bd)) * overN p m c := by
  obtain ⟨a0, a1, u0, u1, q1, q2, s0, s1, _, _⟩ := h.own y hy
  rw [q1] at hlo
  rw [q2] at hhi
  obtain ⟨e0, k0, p0, l0, in0⟩ := span_left cx a0 u0 e k he hlo
  obtain ⟨e1, k1, p1, l1, in1⟩ := span_right cx a1 u1 e k he hhi
  have t0 := (cx.top a0 e0 k0 p0).2 ⟨u0, in0⟩
  have t1 := (cx.top a1 e1 k1 p1).2 ⟨u1, in1⟩
  obtain ⟨b0p, b0⟩ := cx.base a0 t0.good
  obtain ⟨b1p, b1⟩ := cx.base a1 t1.good
  obtain ⟨g0p, g0⟩ := cx.slope a0 t0.good
  obtain ⟨g1p, g1⟩ := cx.slope a1 t1.good
  obtain ⟨z1, z2, z3, z4⟩ := s0
  obtain ⟨w1, w2, w3, w4⟩ := s1
  simp only [pieceN] at z1 z2 z3 z4 w1 w2 w3 w4
  rw [← z1, ← z2] at b0
  rw [← z2] at b0p
  rw [← w1, ← w2] at b1
  rw [← z3, ← z4] at g0
  rw [← z4] at g0p
  rw [← w3, ← w4] at g1
  refine ⟨topAt_between p b m n cx.h1 cx.h4 cx.h8 cx.hm cx.hn cx.hb e0 k0 e1 k1 e k p0 p1 he l0 l1 a0 a1 t0 t1, ⟨b0p, g0p⟩, fun c tc => ?_⟩
  have o0 := over_pos p m n a0 t0.good
  have hB : baseN p m n a0 * overN p m a1 = baseN p m n a1 * overN p m a0 := by
    refine Int.eq_of_mul_eq_mul_left (show y.bd ≠ 0 by omega) ?_
    have r1 : y.bd * (baseN p m n a0 * overN p m a1) = baseN p m n a0 * y.bd * overN p m a1 := by grind
    have r2 : y.bd * (baseN p m n a1 * overN p m a0) = baseN p m n a1 * y.bd * overN p m a0 := by grind
    rw [r1, r2, b0, b1]; grind
  have hS : slopeN p b m n a0 * overN p m a1 = slopeN p b m n a1 * overN p m a0 := by
    refine Int.eq_of_mul_eq_mul_left (show y.sd ≠ 0 by omega) ?_
    have r1 : y.sd * (slopeN p b m n a0 * overN p m a1) = slopeN p b m n a0 * y.sd * overN p m a1 := by grind
    have r2 : y.sd * (slopeN p b m n a1 * overN p m a0) = slopeN p b m n a1 * y.sd * overN p m a0 := by grind
    rw [r1, r2, g0, g1]; grind
  have key := line_between p b m n cx.h1 cx.h4 cx.hm cx.hn cx.hb e0 k0 e1 k1 e k p0 p1 he l0 l1 a0 a1 c t0 t1 tc hB hS
  refine Int.eq_of_mul_eq_mul_left (show overN p m a0 ≠ 0 by omega) ?_
  have r1 : overN p m a0 * ((e * baseN p m n c + k * slopeN p b m n c) * (y.bd * y.sd)) = (e * baseN p m n c + k * slopeN p b m n c) * overN p m a0 * (y.bd * y.sd) := by grind
  have r2 : (e * baseN p m n a0 + k * slopeN p b m n a0) * overN p m c * (y.bd * y.sd) = (e * (baseN p m n a0 * y.bd) * y.sd + k * (slopeN p b m n a0 * y.sd) * y.bd) * overN p m c := by grind
  rw [r1, key, r2, b0, g0]
  grind

/-- A line whose places are not one: one of them is another one than a given one. -/
theorem piece_wide (cx : Ctx p b m n) (Q : List Int → Prop) (l : List Pc) (h : Inv p b m n Q l) (y : Pc) (hy : y ∈ l) (hs : spotB y = false) (e k : Int) (he : 0 < e) (hE : e ≤ 1073741824) : ∃ e1 k1, 0 < e1 ∧ e1 ≤ 2147483648 ∧ loE y.f e1 k1 ∧ hiE y.t e1 k1 ∧ k1 * e ≠ k * e1 := by
  obtain ⟨a0, a1, u0, u1, q1, q2, s0, s1, i0, i1⟩ := h.own y hy
  have okf : EnOk y.f := by rw [q1]; exact cx.fromOk a0 u0
  have okt : EnOk y.t := by rw [q2]; exact cx.toOk a1 u1
  have hee : 0 < e * e := Int.mul_pos he he
  have up : (y.f.o = true ∨ y.f.n * e ≤ k * y.f.d) → (y.f.o = false → 0 < y.f.d) → y.t.o = true → loE y.f e (k + e) ∧ hiE y.t e (k + e) ∧ (k + e) * e ≠ k * e := by
    intro h1 h2 h3
    refine ⟨?_, Or.inl h3, by rw [Int.add_mul]; omega⟩
    rcases h1 with h1 | h1
    · exact Or.inl h1
    · cases ho : y.f.o with
      | true => exact Or.inl ho
      | false =>
        refine Or.inr ?_
        have := Int.mul_pos he (h2 ho)
        rw [Int.add_mul]; omega
  by_cases ho : y.f.o = true
  · by_cases ho2 : y.t.o = true
    · obtain ⟨r1, r2, r3⟩ := up (Or.inl ho) (fun h => by rw [ho] at h; cases h) ho2
      exact ⟨e, k + e, he, by omega, r1, r2, r3⟩
    · have ho2' : y.t.o = false := by simpa using ho2
      obtain ⟨dp, dm⟩ := okt.pos ho2'
      by_cases hne : y.t.n * e = k * y.t.d
      · refine ⟨e, k - e, he, by omega, Or.inl ho, Or.inr ?_, by rw [Int.sub_mul]; omega⟩
        have := Int.mul_pos he dp
        rw [Int.sub_mul]; omega
      · exact ⟨y.t.d, y.t.n, dp, by omega, Or.inl ho, Or.inr (Int.le_refl _), hne⟩
  · have ho' : y.f.o = false := by simpa using ho
    obtain ⟨dp, dm⟩ := okf.pos ho'
    by_cases hne : y.f.n * e = k * y.f.d
    · by_cases ho2 : y.t.o = true
      · obtain ⟨r1, r2, r3⟩ := up (Or.inr (by omega)) (fun _ => dp) ho2
        exact ⟨e, k + e, he, by omega, r1, r2, r3⟩
      · have ho2' : y.t.o = false := by simpa using ho2
        obtain ⟨dp2, dm2⟩ := okt.pos ho2'
        by_cases hne2 : y.t.n * e = k * y.t.d
        · exfalso
          have m1 : mayB y.f.d [y.f.n] = true := by
            rcases okf with ⟨h1, _⟩ | ⟨_, h2⟩
            · rw [ho'] at h1; cases h1
            · exact h2
          have m2 : mayB y.t.d [y.t.n] = true := by
            rcases okt with ⟨h1, _⟩ | ⟨_, h2⟩
            · rw [ho2'] at h1; cases h1
            · exact h2
          have eq : y.f.n * y.t.d = y.t.n * y.f.d := by
            refine Int.eq_of_mul_eq_mul_left (show e ≠ 0 by omega) ?_
            have r1 : e * (y.f.n * y.t.d) = y.f.n * e * y.t.d := by grind
            have r2 : e * (y.t.n * y.f.d) = y.t.n * e * y.f.d := by grind
            rw [r1, r2, hne, hne2]; grind
          have := frac_one _ _ _ _ m1 m2 eq
          unfold spotB at hs
          rw [ho', ho2', decide_eq_true this] at hs
          cases hs
        · refine ⟨y.t.d, y.t.n, dp2, by omega, ?_, Or.inr (Int.le_refl _), hne2⟩
          have o2 : (costsS p b m n a1).o2 = false := by have := congrArg En.o q2; simp only [sTo] at this; rw [← this]; exact ho2'
          have := i1 _ _ (by have := congrArg En.d q2; simp only [sTo] at this; rw [← this]; exact dp2) (to_in _ ((cx.used a1).1 u1).2 o2)
          rw [show (costsS p b m n a1).d2 = y.t.d by rw [q2]; rfl, show (costsS p b m n a1).n2 = y.t.n by rw [q2]; rfl] at this
          exact this
    · refine ⟨y.f.d, y.f.n, dp, by omega, Or.inr (Int.le_refl _), ?_, hne⟩
      have o1 : (costsS p b m n a0).o = false := by have := congrArg En.o q1; simp only [sFrom] at this; rw [← this]; exact ho'
      have := i0 _ _ (by have := congrArg En.d q1; simp only [sFrom] at this; rw [← this]; exact dp) (from_in _ ((cx.used a0).1 u0).2 o1)
      rw [show (costsS p b m n a0).d = y.f.d by rw [q1]; rfl, show (costsS p b m n a0).n = y.f.n by rw [q1]; rfl] at this
      exact this

/-- Two places, and a line that holds the one and more than that. -/
theorem wide_at (cx : Ctx p b m n) (Q : List Int → Prop) (l : List Pc) (h : Inv p b m n Q l) (hQ : ∀ a, rightB a m (n + m) = true → Q a) (e k e1 k1 : Int) (he : 0 < e) (he1 : 0 < e1) (hE : e1 ≤ 2147483648) (hne : k1 * e ≠ k * e1) (a a1 : List Int) (ht : TopAt p b m n e k a) (ht1 : TopAt p b m n e1 k1 a1) :
    ∃ y ∈ l, spotB y = false ∧ loE y.f e k ∧ hiE y.t e k := by
  have two : ∃ c s, (s = 1 ∨ s = -1) ∧ TopAt p b m n e k c ∧ TopAt p b m n (e * 2147483648) (k * 2147483648 + s) c := by
    by_cases hlt : k * e1 < k1 * e
    · obtain ⟨c, c1, c2⟩ := near_up p b m n cx.h1 cx.h4 cx.h8 cx.hm cx.hn cx.hb cx.bmay e k e1 k1 he he1 hE hlt a a1 ht ht1
      exact ⟨c, 1, Or.inl rfl, c1, c2⟩
    · obtain ⟨c, c1, c2⟩ := near_down p b m n cx.h1 cx.h4 cx.h8 cx.hm cx.hn cx.hb cx.bmay e k e1 k1 he he1 hE (by omega) a a1 ht ht1
      exact ⟨c, -1, Or.inr rfl, c1, c2⟩
  obtain ⟨c, s, hs, c1, c2⟩ := two
  obtain ⟨uc, in1⟩ := (cx.top c e k he).1 c1
  obtain ⟨_, in2⟩ := (cx.top c (e * 2147483648) (k * 2147483648 + s) (by omega)).1 c2
  obtain ⟨y, hy, hin⟩ := h.all c (hQ c c1.good.right) uc
  have r1 := hin e k he in1
  have r2 := hin _ _ (by omega) in2
  refine ⟨y, hy, ?_, r1.1, r1.2⟩
  cases hsp : spotB y with
  | false => rfl
  | true =>
    exfalso
    unfold spotB at hsp
    simp only [Bool.and_eq_true, Bool.not_eq_true', decide_eq_true_eq] at hsp
    obtain ⟨⟨o1, o2⟩, q1, q2⟩ := hsp
    obtain ⟨a0, a1, u0, u1, f1, f2, _⟩ := h.own y hy
    have dp : 0 < y.f.d := ((show EnOk y.f by rw [f1]; exact cx.fromOk a0 u0).pos o1).1
    have L : ∀ e k, loE y.f e k ∧ hiE y.t e k → y.f.n * e = k * y.f.d := by
      rintro e k ⟨h1 | h1, h2 | h2⟩
      · rw [o1] at h1; cases h1
      · rw [o1] at h1; cases h1
      · rw [o2] at h2; cases h2
      · rw [← q1, ← q2] at h2; omega
    have z1 := L _ _ r1
    have z2 := L _ _ r2
    have z3 : y.f.n * (e * 2147483648) = 2147483648 * (y.f.n * e) := by grind
    have z4 : (k * 2147483648 + s) * y.f.d = 2147483648 * (k * y.f.d) + s * y.f.d := by grind
    rcases hs with hs | hs <;> subst hs <;> omega

/-- Where there is a most, a piece is. -/
theorem sweep_has (cx : Ctx p b m n) (e k : Int) (he : 0 < e) (hE : e ≤ 1073741824) (a : List Int) (ht : TopAt p b m n e k a) : ∃ y ∈ sweepN (linesN p b m n (allC m (n + m))), loE y.f e k ∧ hiE y.t e k := by
  have h := inv_lines cx (allC m (n + m))
  have hQ : ∀ a, rightB a m (n + m) = true → a ∈ allC m (n + m) := fun a hr => all_come a m n cx.h1 cx.h4 cx.n1 cx.n4 hr
  generalize linesN p b m n (allC m (n + m)) = l at *
  obtain ⟨ua, ina⟩ := (cx.top a e k he).1 ht
  obtain ⟨y, hy, hin⟩ := h.all a (hQ a ht.good.right) ua
  have hyin := hin e k he ina
  rcases sweep_cases l with ⟨⟨z, hz, hzs⟩, hmem⟩ | ⟨hall, hcase⟩
  · obtain ⟨e1, k1, p1, w1, lo1, hi1, ne1⟩ := piece_wide cx _ l h z hz hzs e k he hE
    obtain ⟨⟨c1, t1⟩, _⟩ := piece_top cx _ l h z hz e1 k1 p1 lo1 hi1
    obtain ⟨y', hy', hs', r1, r2⟩ := wide_at cx _ l h hQ e k e1 k1 he p1 w1 ne1 a c1 ht t1
    exact ⟨y', (hmem y').2 ⟨hy', hs'⟩, r1, r2⟩
  · rcases hcase with ⟨h0, _⟩ | ⟨y0, hy0, hsw⟩
    · rw [h0] at hy; cases hy
    · rw [hsw]
      refine ⟨y0, by simp, ?_⟩
      have hsp := hall y0 hy0
      unfold spotB at hsp
      simp only [Bool.and_eq_true, Bool.not_eq_true', decide_eq_true_eq] at hsp
      obtain ⟨⟨o1, o2⟩, q1, q2⟩ := hsp
      obtain ⟨a0, a1, u0, u1, f1, f2, _⟩ := h.own y0 hy0
      obtain ⟨dp, dm⟩ := (show EnOk y0.f by rw [f1]; exact cx.fromOk a0 u0).pos o1
      by_cases hne : y0.f.n * e = k * y0.f.d
      · exact ⟨Or.inr (by omega), Or.inr (by rw [← q1, ← q2]; omega)⟩
      · exfalso
        obtain ⟨⟨c1, t1⟩, _⟩ := piece_top cx _ l h y0 hy0 y0.f.d y0.f.n dp (Or.inr (Int.le_refl _)) (Or.inr (by rw [← q1, ← q2]; exact Int.le_refl _))
        obtain ⟨y', hy', hs', _⟩ := wide_at cx _ l h hQ e k y0.f.d y0.f.n he dp (by omega) hne a c1 ht t1
        rw [hall y' hy'] at hs'
        cases hs'

/-- Within a piece there is a most, and the piece tells it. -/
theorem sweep_top (cx : Ctx p b m n) (e k : Int) (he : 0 < e) (y : Pc) (hy : y ∈ sweepN (linesN p b m n (allC m (n + m)))) (hlo : loE y.f e k) (hhi : hiE y.t e k) :
    (∃ c, TopAt p b m n e k c) ∧ (0 < y.bd ∧ 0 < y.sd) ∧ ∀ c, TopAt p b m n e k c → (e * baseN p m n c + k * slopeN p b m n c) * (y.bd * y.sd) = (e * (y.bn * y.sd) + k * (y.sn * y.bd)) * overN p m c := by
  have h := inv_lines cx (allC m (n + m))
  generalize linesN p b m n (allC m (n + m)) = l at *
  have hyl : y ∈ l := by
    rcases sweep_cases l with ⟨_, hmem⟩ | ⟨_, ⟨_, h0⟩ | ⟨y0, hy0, hsw⟩⟩
    · exact ((hmem y).1 hy).1
    · rw [h0] at hy; cases hy
    · rw [hsw] at hy
      rw [List.mem_singleton.1 hy]; exact hy0
  exact piece_top cx _ l h y hyl e k he hlo hhi

end
end Num
end Go.Proofs.YtipcbhodlgoflabGreat

/- An answer that holds at a place of a line, and the pieces: in plain numbers. -/
namespace Go.Proofs.YtipcbhodlgoflabGreat
namespace Num

/-- What is proved the most is what any corner without gains is worth. -/
theorem best_worth (p : Lp) (a : Ans) (m n : Nat) (hm : m = p.rows.length) (hn : n = p.costs.length) (hmay : p.may = true) (h : bestB p a = true) (c : List Int) (ht : Top p c m n) : (1 ≤ a.wd ∧ a.wd ≤ 1073741824) ∧ (-1073741824 ≤ a.wn ∧ a.wn ≤ 1073741824) ∧ baseN p m n c * a.wd = a.wn * overN p m c := by
  have h1 : 1 ≤ m := by have := (p.may_of hmay).2.2.1.1; omega
  have h4 : m ≤ 4 := by have := (p.may_of hmay).2.2.1.2; omega
  unfold bestB at h
  simp only [Bool.and_eq_true, decide_eq_true_eq] at h
  obtain ⟨⟨⟨b1, b2⟩, b3⟩, b4⟩ := h
  obtain ⟨_, _, hd, _, hx, _⟩ := goes_len p a.x a.xd b1
  rw [← hm] at b2 b4
  rw [← hn] at b3
  obtain ⟨c1, _⟩ := covers_of _ _ _ _ _ b2
  obtain ⟨_, hyd, _⟩ := point_of _ _ _ c1
  have cov := cov_of p m n hn _ _ _ hn.symm b2
  obtain ⟨s1, s2, s3, s4, s5, _⟩ := mk_some _ _ _ _ b3
  obtain ⟨t1, _⟩ := mk_some _ _ _ _ b4
  have o0 := over_pos p m n c ht.toGood
  have lo : a.wn * overN p m c ≤ baseN p m n c * a.wd := by
    have k := top_over p c m n h1 h4 hm ht (overF n a.x fun i => mostF p i * a.xd - dotN (p.rows[i]?.getD ([], 0)).1 a.x n) a.xd (fun j hj => by
      by_cases hjn : j < n
      · rw [over_in _ _ _ _ hjn]; exact not_neg a.x hx j
      · obtain ⟨i, rfl⟩ : ∃ i, j = n + i := ⟨j - n, by omega⟩
        rw [over_out]
        have := goes_rows p a.x a.xd b1 i (by omega)
        rw [← hn] at this
        unfold mostF
        omega) (fun i hi => by rw [over_row p m n i hn hi]; grind)
    have e1 : sumN (fun j => p.costs[j]?.getD 0 * overF n a.x (fun i => mostF p i * a.xd - dotN (p.rows[i]?.getD ([], 0)).1 a.x n) j) (n + m) = dotN p.costs a.x n := by
      rw [sumN_split, dotN_sum]
      have z : sumN (fun i => p.costs[n + i]?.getD 0 * overF n a.x (fun i => mostF p i * a.xd - dotN (p.rows[i]?.getD ([], 0)).1 a.x n) (n + i)) m = 0 := (sumN_congr _ (fun _ => 0) _ fun i _ => by
        rw [List.getElem?_eq_none (l := p.costs) (by omega)]; simp).trans (sumN_zero m)
      rw [z, Int.add_zero]
      exact sumN_congr _ _ _ fun j hj => by rw [over_in _ _ _ _ hj]
    rw [e1] at k
    unfold baseN
    change dotN p.costs a.x n * overN p m c ≤ _ at k
    generalize sgD p c m * sumN (fun j => p.costs[j]?.getD 0 * (xL p c m (n + m))[j]?.getD 0) (n + m) = B at *
    generalize overN p m c = O at *
    generalize dotN p.costs a.x n = D at *
    refine Int.le_of_mul_le_mul_left ?_ (show 0 < a.xd by omega)
    have r1 : a.xd * (a.wn * O) = a.wn * a.xd * O := by grind
    have r2 := Int.mul_le_mul_of_nonneg_right k (show 0 ≤ a.wd by omega)
    rw [r1, s1]
    have r3 : D * a.wd * O = D * O * a.wd := by grind
    have r4 : a.xd * (B * a.wd) = a.xd * B * a.wd := by grind
    omega
  have hi : baseN p m n c * a.wd ≤ a.wn * overN p m c := by
    have e1 := pairs (hasF p) (fun i => a.y[i]?.getD 0) (fun j => sgD p c m * (xL p c m (n + m))[j]?.getD 0) m (n + m)
    have e2 : sumN (fun i => a.y[i]?.getD 0 * sumN (fun j => hasF p j i * (sgD p c m * (xL p c m (n + m))[j]?.getD 0)) (n + m)) m = overN p m c * pricedN p m a.y := by
      unfold pricedN overN
      rw [dotN_sum, ← sumN_mul]
      refine sumN_congr _ _ _ fun i hi => ?_
      have e : sumN (fun j => hasF p j i * (sgD p c m * (xL p c m (n + m))[j]?.getD 0)) (n + m) = sgD p c m * sumN (fun j => hasF p j i * (xL p c m (n + m))[j]?.getD 0) (n + m) := by
        rw [← sumN_mul]; exact sumN_congr _ _ _ fun j _ => by grind
      rw [e, x_level p c m (n + m) ht.right h1 h4 i hi]
      unfold mostsL
      rw [range_getD, if_pos hi]
      grind
    have e3 : a.yd * baseN p m n c ≤ sumN (fun j => sumN (fun i => hasF p j i * a.y[i]?.getD 0) m * (sgD p c m * (xL p c m (n + m))[j]?.getD 0)) (n + m) := by
      have e4 : a.yd * baseN p m n c = sumN (fun j => p.costs[j]?.getD 0 * a.yd * (sgD p c m * (xL p c m (n + m))[j]?.getD 0)) (n + m) := by
        unfold baseN
        rw [← sumN_mul, ← sumN_mul]
        exact sumN_congr _ _ _ fun j _ => by grind
      rw [e4]
      exact sumN_le _ _ _ fun j hj => Int.mul_le_mul_of_nonneg_right (cov j hj) (ht.x j)
    rw [e1, e2] at e3
    generalize baseN p m n c = B at *
    generalize overN p m c = O at *
    generalize pricedN p m a.y = P at *
    refine Int.le_of_mul_le_mul_left ?_ (show 0 < a.yd by omega)
    have r1 : a.yd * (a.wn * O) = a.wn * a.yd * O := by grind
    have r2 := Int.mul_le_mul_of_nonneg_right e3 (show 0 ≤ a.wd by omega)
    rw [r1, t1]
    have r3 : P * a.wd * O = O * P * a.wd := by grind
    have r4 : a.yd * (B * a.wd) = a.yd * B * a.wd := by grind
    omega
  exact ⟨⟨s2, s3⟩, ⟨s4, s5⟩, by omega⟩

section
variable {p : Lp} {b : List Int} {m n : Nat}

theorem line_base (cx : Ctx p b m n) (e k : Int) (c : List Int) : baseN (withC p (lineC p.costs b e k n)) m n c = e * baseN p m n c + k * slopeN p b m n c := by
  have l3 : (lineC p.costs b e k n).length = p.costs.length := by rw [line_len, cx.hn]
  rw [← line_worth p b m n e k c cx.hn cx.hb]
  unfold baseN
  rw [withC_sg p _ l3, withC_x p _ l3]
  rfl

theorem line_over (cx : Ctx p b m n) (e k : Int) (c : List Int) : overN (withC p (lineC p.costs b e k n)) m c = overN p m c := by
  have l3 : (lineC p.costs b e k n).length = p.costs.length := by rw [line_len, cx.hn]
  unfold overN
  rw [withC_sg p _ l3, withC_den p _ l3]

/-- THE PIECES TELL WHAT THE PROGRAM ANSWERS, at each place. -/
theorem sweep_holds (cx : Ctx p b m n) (e k : Int) (he : 0 < e) (hE : e ≤ 1073741824) (a : Ans) (h : holds (withC p (lineC p.costs b e k n)) a = true) :
    ((∃ y ∈ sweepN (linesN p b m n (allC m (n + m))), loE y.f e k ∧ hiE y.t e k) ↔ a.kind = 1) ∧
    (∀ y ∈ sweepN (linesN p b m n (allC m (n + m))), loE y.f e k → hiE y.t e k → a.wn * (y.bd * y.sd) = (e * (y.bn * y.sd) + k * (y.sn * y.bd)) * a.wd) ∧
    (∀ g, Good p g m n → a.kind = 1 ∨ a.kind = 2) := by
  have l3 : (lineC p.costs b e k n).length = p.costs.length := by rw [line_len, cx.hn]
  have hk := holds_kind (withC p (lineC p.costs b e k n)) a m n cx.hm (cx.hn.trans l3.symm) h
  have ti := fun c => topAt_iff p b m n e k c cx.h1 cx.h4 cx.hm cx.hn cx.hb
  have iff1 : (∃ y ∈ sweepN (linesN p b m n (allC m (n + m))), loE y.f e k ∧ hiE y.t e k) ↔ a.kind = 1 := by
    constructor
    · rintro ⟨y, hy, r1, r2⟩
      obtain ⟨⟨c, tc⟩, _⟩ := sweep_top cx e k he y hy r1 r2
      have tc' := (ti c).1 tc
      rcases hk with ⟨h1, _⟩ | ⟨_, h2, _⟩ | ⟨_, h2⟩
      · exact h1
      · exact absurd ⟨c, tc'⟩ h2
      · exact absurd ⟨c, tc'.toGood⟩ h2
    · intro h1
      rcases hk with ⟨_, t, ht⟩ | ⟨h2, _⟩ | ⟨h2, _⟩
      · exact sweep_has cx e k he hE t ((ti t).2 ht)
      · omega
      · omega
  refine ⟨iff1, fun y hy r1 r2 => ?_, fun g hg => ?_⟩
  · have k1 := iff1.1 ⟨y, hy, r1, r2⟩
    obtain ⟨⟨c, tc⟩, ⟨bp, sp⟩, hv⟩ := sweep_top cx e k he y hy r1 r2
    have hv := hv c tc
    cases hmay : (withC p (lineC p.costs b e k n)).may with
    | false => rw [holds_no _ a hmay] at h; cases h
    | true =>
      rw [holds_best _ a hmay k1, Bool.and_eq_true] at h
      obtain ⟨⟨d1, _⟩, _, hw⟩ := best_worth (withC p (lineC p.costs b e k n)) a m n cx.hm (cx.hn.trans l3.symm) hmay h.2 c ((ti c).1 tc)
      rw [line_base cx, line_over cx] at hw
      have o0 := over_pos p m n c tc.good
      refine Int.eq_of_mul_eq_mul_left (show overN p m c ≠ 0 by omega) ?_
      generalize e * baseN p m n c + k * slopeN p b m n c = V at *
      generalize e * (y.bn * y.sd) + k * (y.sn * y.bd) = W at *
      have q1 : overN p m c * (a.wn * (y.bd * y.sd)) = a.wn * overN p m c * (y.bd * y.sd) := by grind
      have q2 : overN p m c * (W * a.wd) = W * overN p m c * a.wd := by grind
      rw [q1, q2, ← hw, ← hv]; grind
  · rcases hk with ⟨h1, _⟩ | ⟨h2, _⟩ | ⟨_, h2⟩
    · exact Or.inl h1
    · exact Or.inr h2
    · exact absurd ⟨g, (withC_good p _ l3 g m n).2 hg⟩ h2

end
end Num
end Go.Proofs.YtipcbhodlgoflabGreat

/- The pieces along a line, put in order by slope, are those that the document makes: in plain numbers. -/
namespace Go.Proofs.YtipcbhodlgoflabGreat
namespace Num

section
variable {p : Lp} {b : List Int} {m n : Nat}

/-- One end lies at another one, or below it. -/
def loLe (x y : En) : Prop := ∀ e k, 0 < e → loE y e k → loE x e k
def hiLe (x y : En) : Prop := ∀ e k, 0 < e → hiE x e k → hiE y e k

theorem loLe_refl (x : En) : loLe x x := fun _ _ _ h => h
theorem hiLe_refl (x : En) : hiLe x x := fun _ _ _ h => h
theorem EnOk.may {a : En} (h : EnOk a) (ho : a.o = false) : mayB a.d [a.n] = true := by
  rcases h with ⟨h1, _⟩ | ⟨_, h2⟩
  · rw [ho] at h1; cases h1
  · exact h2

theorem lo_open {x y : En} (hx : EnOk x) (h : loLe x y) (ho : y.o = true) : x.o = true := by
  cases hc : x.o with
  | true => rfl
  | false =>
    have hp := (hx.pos hc).1
    rcases h x.d (x.n - 1) hp (Or.inl ho) with h1 | h1
    · rw [hc] at h1; cases h1
    · rw [Int.sub_mul] at h1; omega

theorem hi_open {x y : En} (hy : EnOk y) (h : hiLe x y) (ho : x.o = true) : y.o = true := by
  cases hc : y.o with
  | true => rfl
  | false =>
    have hp := (hy.pos hc).1
    rcases h y.d (y.n + 1) hp (Or.inl ho) with h1 | h1
    · rw [hc] at h1; cases h1
    · rw [Int.add_mul] at h1; omega

theorem En.ext' {x y : En} (h1 : x.o = y.o) (h2 : x.n = y.n) (h3 : x.d = y.d) : x = y := by
  cases x; cases y; simp only at h1 h2 h3; rw [h1, h2, h3]

theorem lo_anti {x y : En} (hx : EnOk x) (hy : EnOk y) (h1 : loLe x y) (h2 : loLe y x) : x = y := by
  cases ho : x.o with
  | true => rw [hx.open ho, hy.open (lo_open hy h2 ho)]
  | false =>
    cases ho2 : y.o with
    | true => rw [lo_open hx h1 ho2] at ho; cases ho
    | false =>
      have xp := (hx.pos ho).1
      have yp := (hy.pos ho2).1
      have e1 : x.n * y.d ≤ y.n * x.d := by
        rcases h1 y.d y.n yp (Or.inr (Int.le_refl _)) with h | h
        · rw [ho] at h; cases h
        · exact h
      have e2 : y.n * x.d ≤ x.n * y.d := by
        rcases h2 x.d x.n xp (Or.inr (Int.le_refl _)) with h | h
        · rw [ho2] at h; cases h
        · exact h
      obtain ⟨q1, q2⟩ := frac_one _ _ _ _ (hx.may ho) (hy.may ho2) (by omega)
      exact En.ext' (by rw [ho, ho2]) q1 q2

theorem hi_anti {x y : En} (hx : EnOk x) (hy : EnOk y) (h1 : hiLe x y) (h2 : hiLe y x) : x = y := by
  cases ho : x.o with
  | true => rw [hx.open ho, hy.open (hi_open hy h1 ho)]
  | false =>
    cases ho2 : y.o with
    | true => rw [hi_open hx h2 ho2] at ho; cases ho
    | false =>
      have xp := (hx.pos ho).1
      have yp := (hy.pos ho2).1
      have e1 : y.n * x.d ≤ x.n * y.d := by
        rcases h2 y.d y.n yp (Or.inr (Int.le_refl _)) with h | h
        · rw [ho] at h; cases h
        · exact h
      have e2 : x.n * y.d ≤ y.n * x.d := by
        rcases h1 x.d x.n xp (Or.inr (Int.le_refl _)) with h | h
        · rw [ho2] at h; cases h
        · exact h
      obtain ⟨q1, q2⟩ := frac_one _ _ _ _ (hx.may ho) (hy.may ho2) (by omega)
      exact En.ext' (by rw [ho, ho2]) q1 q2

theorem sameL_symm {x y : Pc} (h : sameL x y) : sameL y x := ⟨h.1.symm, h.2.1.symm, h.2.2.1.symm, h.2.2.2.symm⟩
theorem sameL_trans {x y z : Pc} (h : sameL x y) (g : sameL y z) : sameL x z := ⟨h.1.trans g.1, h.2.1.trans g.2.1, h.2.2.1.trans g.2.2.1, h.2.2.2.trans g.2.2.2⟩

/-- What the lines are, some corners gone through: for each line one, from its least end to its greatest. -/
structure Canon (p : Lp) (b : List Int) (m n : Nat) (Q : List Int → Prop) (l : List Pc) : Prop where
  frm : ∀ y ∈ l, ∃ a, Q a ∧ usedB p b m n a = true ∧ sameL y (pieceN p b m n a) ∧ y.f = sFrom (costsS p b m n a)
  til : ∀ y ∈ l, ∃ a, Q a ∧ usedB p b m n a = true ∧ sameL y (pieceN p b m n a) ∧ y.t = sTo (costsS p b m n a)
  all : ∀ a, Q a → usedB p b m n a = true → ∃ y ∈ l, sameL y (pieceN p b m n a) ∧ loLe y.f (sFrom (costsS p b m n a)) ∧ hiLe (sTo (costsS p b m n a)) y.t
  one : l.Pairwise fun y z => ¬ sameL y z

theorem Canon.okf (cx : Ctx p b m n) {Q : List Int → Prop} {l : List Pc} (h : Canon p b m n Q l) (y : Pc) (hy : y ∈ l) : EnOk y.f := by
  obtain ⟨a, _, u, _, e⟩ := h.frm y hy
  rw [e]; exact cx.fromOk a u
theorem Canon.okt (cx : Ctx p b m n) {Q : List Int → Prop} {l : List Pc} (h : Canon p b m n Q l) (y : Pc) (hy : y ∈ l) : EnOk y.t := by
  obtain ⟨a, _, u, _, e⟩ := h.til y hy
  rw [e]; exact cx.toOk a u

theorem canon_nil : Canon p b m n (fun _ => False) [] := ⟨fun y hy => (by cases hy), fun y hy => (by cases hy), fun a (ha : False) => ha.elim, List.Pairwise.nil⟩

theorem canon_skip (Q : List Int → Prop) (l : List Pc) (h : Canon p b m n Q l) (a : List Int) (hu : ¬ usedB p b m n a = true) : Canon p b m n (fun z => Q z ∨ z = a) l := by
  refine ⟨fun y hy => ?_, fun y hy => ?_, fun z hz hzu => ?_, h.one⟩
  · obtain ⟨c, q, r⟩ := h.frm y hy; exact ⟨c, Or.inl q, r⟩
  · obtain ⟨c, q, r⟩ := h.til y hy; exact ⟨c, Or.inl q, r⟩
  · rcases hz with hz | hz
    · exact h.all z hz hzu
    · rw [hz] at hzu; exact absurd hzu hu

theorem joined_one (x : Pc) : ∀ l : List Pc, (l.Pairwise fun y z => ¬ sameL y z) → (joinedN l x).Pairwise fun y z => ¬ sameL y z := by
  intro l
  induction l with
  | nil => intro _; exact List.pairwise_singleton _ _
  | cons y l ih =>
    intro h
    obtain ⟨h1, h2⟩ := List.pairwise_cons.1 h
    unfold joinedN
    by_cases hs : sameL y x
    · rw [if_pos hs]
      exact List.pairwise_cons.2 ⟨fun z hz hc => h1 z hz hc, h2⟩
    · rw [if_neg hs]
      refine List.pairwise_cons.2 ⟨fun z hz hc => ?_, ih h2⟩
      rcases joined_mem x z l hz with hz | hz | ⟨w, hw, _, hz⟩
      · exact h1 z hz hc
      · subst hz; exact hs hc
      · subst hz; exact h1 w hw hc

theorem canon_step (cx : Ctx p b m n) (Q : List Int → Prop) (l : List Pc) (h : Canon p b m n Q l) (a : List Int) (hu : usedB p b m n a = true) : Canon p b m n (fun z => Q z ∨ z = a) (joinedN l (pieceN p b m n a)) := by
  have fa := cx.fromOk a hu
  have ta := cx.toOk a hu
  have okf := h.okf cx
  have okt := h.okt cx
  refine ⟨fun y hy => ?_, fun y hy => ?_, fun z hz hzu => ?_, joined_one _ l h.one⟩
  · rcases joined_mem _ y l hy with hy | hy | ⟨z, hz, hs, hy⟩
    · obtain ⟨c, q, r⟩ := h.frm y hy; exact ⟨c, Or.inl q, r⟩
    · subst hy; exact ⟨a, Or.inr rfl, hu, ⟨rfl, rfl, rfl, rfl⟩, rfl⟩
    · subst hy
      obtain ⟨c, q, u, s, e⟩ := h.frm z hz
      rcases lower_one z.f (pieceN p b m n a).f (okf z hz) fa with e1 | e1
      · exact ⟨c, Or.inl q, u, s, e1.trans e⟩
      · exact ⟨a, Or.inr rfl, hu, hs, e1⟩
  · rcases joined_mem _ y l hy with hy | hy | ⟨z, hz, hs, hy⟩
    · obtain ⟨c, q, r⟩ := h.til y hy; exact ⟨c, Or.inl q, r⟩
    · subst hy; exact ⟨a, Or.inr rfl, hu, ⟨rfl, rfl, rfl, rfl⟩, rfl⟩
    · subst hy
      obtain ⟨c, q, u, s, e⟩ := h.til z hz
      rcases higher_one z.t (pieceN p b m n a).t (okt z hz) ta with e1 | e1
      · exact ⟨c, Or.inl q, u, s, e1.trans e⟩
      · exact ⟨a, Or.inr rfl, hu, hs, e1⟩
  · rcases hz with hz | hz
    · obtain ⟨y, hy, s, r1, r2⟩ := h.all z hz hzu
      rcases joined_keep (pieceN p b m n a) y l hy with hk | ⟨_, hk⟩
      · exact ⟨y, hk, s, r1, r2⟩
      · exact ⟨_, hk, s, fun e k he hi => lower_lo y.f _ (okf y hy) fa e k he (Or.inl (r1 e k he hi)), fun e k he hi => higher_hi y.t _ (okt y hy) ta e k he (Or.inl (r2 e k he hi))⟩
    · subst hz
      rcases joined_has (pieceN p b m n z) l with hk | ⟨y, hy, s, hk⟩
      · exact ⟨_, hk, ⟨rfl, rfl, rfl, rfl⟩, loLe_refl _, hiLe_refl _⟩
      · exact ⟨_, hk, s, fun e k he hi => lower_lo y.f _ (okf y hy) fa e k he (Or.inr hi), fun e k he hi => higher_hi y.t _ (okt y hy) ta e k he (Or.inr hi)⟩

theorem canon_iff (Q Q' : List Int → Prop) (hq : ∀ a, Q a ↔ Q' a) (l : List Pc) (h : Canon p b m n Q l) : Canon p b m n Q' l := by
  have : Q = Q' := funext fun a => propext (hq a)
  rw [← this]; exact h

theorem canon_foldl (cx : Ctx p b m n) : ∀ (all : List (List Int)) (Q : List Int → Prop) (l : List Pc), Canon p b m n Q l → Canon p b m n (fun z => Q z ∨ z ∈ all) (all.foldl (fun l a => if usedB p b m n a = true then joinedN l (pieceN p b m n a) else l) l) := by
  intro all
  induction all with
  | nil =>
    intro Q l h
    exact canon_iff Q _ (fun a => by simp) l h
  | cons a all ih =>
    intro Q l h
    rw [List.foldl_cons]
    have h2 : Canon p b m n (fun z => Q z ∨ z = a) (if usedB p b m n a = true then joinedN l (pieceN p b m n a) else l) := by
      by_cases hu : usedB p b m n a = true
      · rw [if_pos hu]; exact canon_step cx Q l h a hu
      · rw [if_neg hu]; exact canon_skip Q l h a hu
    refine canon_iff _ _ (fun z => ?_) _ (ih _ _ h2)
    rw [List.mem_cons, or_assoc]

theorem canon_lines (cx : Ctx p b m n) (all : List (List Int)) : Canon p b m n (· ∈ all) (linesN p b m n all) :=
  canon_iff _ _ (fun a => by simp) _ (canon_foldl cx all (fun _ => False) [] canon_nil)

theorem pair_one {R : Pc → Pc → Prop} : ∀ {l : List Pc}, l.Pairwise R → ∀ {x y : Pc}, x ∈ l → y ∈ l → x = y ∨ R x y ∨ R y x := by
  intro l
  induction l with
  | nil => intro _ x y hx; cases hx
  | cons z l ih =>
    intro h x y hx hy
    obtain ⟨h1, h2⟩ := List.pairwise_cons.1 h
    rcases List.mem_cons.1 hx with ex | hx' <;> rcases List.mem_cons.1 hy with ey | hy'
    · exact Or.inl (ex.trans ey.symm)
    · rw [ex]; exact Or.inr (Or.inl (h1 y hy'))
    · rw [ey]; exact Or.inr (Or.inr (h1 x hx'))
    · exact ih h2 hx' hy'

theorem Canon.same {Q : List Int → Prop} {l : List Pc} (h : Canon p b m n Q l) {x y : Pc} (hx : x ∈ l) (hy : y ∈ l) (hs : sameL x y) : x = y := by
  rcases pair_one h.one hx hy with h1 | h1 | h1
  · exact h1
  · exact absurd hs h1
  · exact absurd (sameL_symm hs) h1

theorem canon_sub (cx : Ctx p b m n) (Q Q' : List Int → Prop) (hq : ∀ a, usedB p b m n a = true → (Q a ↔ Q' a)) (l l' : List Pc) (h : Canon p b m n Q l) (h' : Canon p b m n Q' l') (y : Pc) (hy : y ∈ l) : y ∈ l' := by
  obtain ⟨a0, q0, u0, s0, e0⟩ := h.frm y hy
  obtain ⟨a1, q1, u1, s1, e1⟩ := h.til y hy
  obtain ⟨z, hz, sz, z1, z2⟩ := h'.all a0 ((hq a0 u0).1 q0) u0
  obtain ⟨z', hz', sz', z1', z2'⟩ := h'.all a1 ((hq a1 u1).1 q1) u1
  have hzy : sameL z y := sameL_trans sz (sameL_symm s0)
  have : z = z' := h'.same hz hz' (sameL_trans hzy (sameL_trans s1 (sameL_symm sz')))
  subst this
  obtain ⟨c0, r0, v0, t0, f0⟩ := h'.frm z hz
  obtain ⟨c1, r1, v1, t1, f1⟩ := h'.til z hz
  obtain ⟨x, hx, sx, x1, _⟩ := h.all c0 ((hq c0 v0).2 r0) v0
  obtain ⟨x', hx', sx', _, x2⟩ := h.all c1 ((hq c1 v1).2 r1) v1
  have exy : x = y := h.same hx hy (sameL_trans sx (sameL_trans (sameL_symm t0) hzy))
  have exy' : x' = y := h.same hx' hy (sameL_trans sx' (sameL_trans (sameL_symm t1) hzy))
  subst exy
  subst exy'
  have ef : z.f = x'.f := lo_anti (h'.okf cx z hz) (h.okf cx x' hy) (by rw [e0]; exact z1) (by rw [f0]; exact x1)
  have et : z.t = x'.t := hi_anti (h'.okt cx z hz) (h.okt cx x' hy) (by rw [f1]; exact x2) (by rw [e1]; exact z2')
  obtain ⟨b1, b2, b3, b4⟩ := hzy
  have : z = x' := by
    cases z; cases x'
    simp only at ef et b1 b2 b3 b4
    rw [ef, et, b1, b2, b3, b4]
  rw [← this]; exact hz

theorem nodup_of_one {l : List Pc} (h : l.Pairwise fun y z => ¬ sameL y z) : l.Nodup := h.imp fun {a b} hn he => hn (by rw [he]; exact ⟨rfl, rfl, rfl, rfl⟩)

theorem perm_of_mem : ∀ {l l' : List Pc}, l.Nodup → l'.Nodup → (∀ y, y ∈ l ↔ y ∈ l') → l.Perm l' := by
  intro l l' h h' hm
  exact (List.perm_ext_iff_of_nodup h h').2 hm

theorem lines_perm (cx : Ctx p b m n) (all1 all2 : List (List Int)) (hq : ∀ a, usedB p b m n a = true → (a ∈ all1 ↔ a ∈ all2)) : (linesN p b m n all1).Perm (linesN p b m n all2) := by
  have c1 := canon_lines cx all1
  have c2 := canon_lines cx all2
  exact perm_of_mem (nodup_of_one c1.one) (nodup_of_one c2.one) fun y => ⟨canon_sub cx _ _ hq _ _ c1 c2 y, canon_sub cx _ _ (fun a u => (hq a u).symm) _ _ c2 c1 y⟩

/-- Which slope is less. -/
def slLt (y z : Pc) : Prop := y.sn * z.sd < z.sn * y.sd
instance (y z : Pc) : Decidable (slLt y z) := by unfold slLt; infer_instance

/-- A line's numbers. -/
theorem Canon.nums (cx : Ctx p b m n) {Q : List Int → Prop} {l : List Pc} (h : Canon p b m n Q l) (y : Pc) (hy : y ∈ l) : mayB y.bd [y.bn] = true ∧ mayB y.sd [y.sn] = true ∧ ∃ a, Good p a m n ∧ (baseN p m n a * y.bd = y.bn * overN p m a) ∧ slopeN p b m n a * y.sd = y.sn * overN p m a := by
  obtain ⟨a, _, u, ⟨s1, s2, s3, s4⟩, _⟩ := h.frm y hy
  have hg := ((cx.used a).1 u).1
  simp only [pieceN] at s1 s2 s3 s4
  have hb := cx.base a hg
  have hs := cx.slope a hg
  obtain ⟨x1, y1, e1, e2, _⟩ := worth_is cx a hg p.costs cx.hn.symm (p.may_of cx.may).2.1
  obtain ⟨x2, y2, e3, e4, _⟩ := worth_is cx a hg b cx.hb ((withC p b).may_of cx.bmay).2.1
  have b1 : mayB (baseF p n a).2.1 [(baseF p n a).1] = true := by unfold baseF; rw [e1]; exact e2
  have b2 : mayB (slopeF p b n a).2.1 [(slopeF p b n a).1] = true := by unfold slopeF; rw [e3]; exact e4
  refine ⟨by rw [s1, s2]; exact b1, by rw [s3, s4]; exact b2, a, hg, by rw [s1, s2]; exact hb.2, by rw [s3, s4]; exact hs.2⟩

/-- On its places a line is not below another one. -/
theorem line_ge (cx : Ctx p b m n) {Q : List Int → Prop} {l : List Pc} (hi : Inv p b m n Q l) (h : Canon p b m n Q l) (y z : Pc) (hy : y ∈ l) (hz : z ∈ l) (e k : Int) (he : 0 < e) (hlo : loE y.f e k) (hhi : hiE y.t e k) :
    (e * (z.bn * z.sd) + k * (z.sn * z.bd)) * (y.bd * y.sd) ≤ (e * (y.bn * y.sd) + k * (y.sn * y.bd)) * (z.bd * z.sd) := by
  obtain ⟨⟨c, tc⟩, ⟨p1, p2⟩, hc⟩ := piece_top cx Q l hi y hy e k he hlo hhi
  have hc := hc c tc
  obtain ⟨m1, m2, a, hg, hB, hS⟩ := h.nums cx z hz
  have zb := may_pos _ _ m1
  have zs := may_pos _ _ m2
  have ov := topAt_over p b m n e k c a cx.h1 cx.h4 cx.hm cx.hn cx.hb tc hg
  have oc := over_pos p m n c tc.good
  have oa := over_pos p m n a hg
  generalize baseN p m n a = Ba at *
  generalize slopeN p b m n a = Sa at *
  generalize overN p m a = Oa at *
  generalize e * baseN p m n c + k * slopeN p b m n c = V at *
  generalize overN p m c = Oc at *
  have hOO : 0 < Oa * Oc := Int.mul_pos oa oc
  refine Int.le_of_mul_le_mul_left ?_ hOO
  have r1 : Oa * Oc * ((e * (z.bn * z.sd) + k * (z.sn * z.bd)) * (y.bd * y.sd)) = (e * (z.bn * Oa) * z.sd + k * (z.sn * Oa) * z.bd) * Oc * (y.bd * y.sd) := by grind
  have r2 : Oa * Oc * ((e * (y.bn * y.sd) + k * (y.sn * y.bd)) * (z.bd * z.sd)) = (e * (y.bn * y.sd) + k * (y.sn * y.bd)) * Oc * (Oa * (z.bd * z.sd)) := by grind
  rw [r1, r2, ← hB, ← hS, ← hc]
  have r3 : (e * (Ba * z.bd) * z.sd + k * (Sa * z.sd) * z.bd) * Oc * (y.bd * y.sd) = (e * Ba + k * Sa) * Oc * (z.bd * z.sd * (y.bd * y.sd)) := by grind
  have r4 : V * (y.bd * y.sd) * (Oa * (z.bd * z.sd)) = V * Oa * (z.bd * z.sd * (y.bd * y.sd)) := by grind
  rw [r3, r4]
  exact Int.mul_le_mul_of_nonneg_right ov (Int.le_of_lt (Int.mul_pos (Int.mul_pos zb zs) (Int.mul_pos p1 p2)))


/-- Each line has a place. -/
theorem Canon.some (cx : Ctx p b m n) {Q : List Int → Prop} {l : List Pc} (hi : Inv p b m n Q l) (y : Pc) (hy : y ∈ l) : ∃ e k, 0 < e ∧ loE y.f e k ∧ hiE y.t e k := by
  obtain ⟨a0, a1, u0, u1, q1, q2, _, _, i0, i1⟩ := hi.own y hy
  have n0 := ((cx.used a0).1 u0).2
  by_cases ho : (costsS p b m n a0).o = true
  · by_cases ho2 : (costsS p b m n a0).o2 = true
    · have hin : inS (costsS p b m n a0) 1 0 := ⟨Or.inl ho, Or.inl ho2⟩
      exact ⟨1, 0, by omega, by rw [q1]; exact hin.1, i0 1 0 (by omega) hin⟩
    · have ho2' : (costsS p b m n a0).o2 = false := by simpa using ho2
      have hp := ((cx.toOk a0 u0).pos ho2').1
      have hin := to_in _ n0 ho2'
      exact ⟨_, _, hp, by rw [q1]; exact hin.1, i0 _ _ hp hin⟩
  · have ho' : (costsS p b m n a0).o = false := by simpa using ho
    have hp := ((cx.fromOk a0 u0).pos ho').1
    have hin := from_in _ n0 ho'
    exact ⟨_, _, hp, by rw [q1]; exact hin.1, i0 _ _ hp hin⟩

/-- Where a line begins is one of its places. -/
theorem Canon.start (cx : Ctx p b m n) {Q : List Int → Prop} {l : List Pc} (hi : Inv p b m n Q l) (y : Pc) (hy : y ∈ l) (ho : y.f.o = false) : 0 < y.f.d ∧ y.f.d ≤ 1073741824 ∧ loE y.f y.f.d y.f.n ∧ hiE y.t y.f.d y.f.n := by
  obtain ⟨a0, a1, u0, u1, q1, q2, _, _, i0, i1⟩ := hi.own y hy
  have n0 := ((cx.used a0).1 u0).2
  have ho' : (costsS p b m n a0).o = false := by rw [q1] at ho; exact ho
  have hp := (cx.fromOk a0 u0).pos ho'
  have hin := i0 _ _ hp.1 (from_in _ n0 ho')
  refine ⟨by rw [q1]; exact hp.1, by rw [q1]; exact hp.2, Or.inr (Int.le_refl _), ?_⟩
  have e1 : y.f.d = (costsS p b m n a0).d := by rw [q1]; rfl
  have e2 : y.f.n = (costsS p b m n a0).n := by rw [q1]; rfl
  rw [e1, e2]; exact hin

/-- All places of the line with the lesser slope are ahead of those of the other one. -/
theorem ahead_all (cx : Ctx p b m n) {Q : List Int → Prop} {l : List Pc} (hi : Inv p b m n Q l) (h : Canon p b m n Q l) (y z : Pc) (hy : y ∈ l) (hz : z ∈ l) (hs : slLt y z) (e k e' k' : Int) (he : 0 < e) (he' : 0 < e') (y1 : loE y.f e k) (y2 : hiE y.t e k) (z1 : loE z.f e' k') (z2 : hiE z.t e' k') : k * e' ≤ k' * e := by
  have u := line_ge cx hi h y z hy hz e k he y1 y2
  have v := line_ge cx hi h z y hz hy e' k' he' z1 z2
  obtain ⟨m1, m2, _⟩ := h.nums cx y hy
  obtain ⟨m3, m4, _⟩ := h.nums cx z hz
  have yb := may_pos _ _ m1
  have ys := may_pos _ _ m2
  have zb := may_pos _ _ m3
  have zs := may_pos _ _ m4
  unfold slLt at hs
  have hR : 0 < (z.sn * y.sd - y.sn * z.sd) * (z.bd * y.bd) := Int.mul_pos (by omega) (Int.mul_pos zb yb)
  obtain ⟨R, eR⟩ : ∃ R, (z.sn * y.sd - y.sn * z.sd) * (z.bd * y.bd) = R := ⟨_, rfl⟩
  obtain ⟨P, eP⟩ : ∃ P, z.bn * z.sd * (y.bd * y.sd) - y.bn * y.sd * (z.bd * z.sd) = P := ⟨_, rfl⟩
  have c1 : (e * (z.bn * z.sd) + k * (z.sn * z.bd)) * (y.bd * y.sd) - (e * (y.bn * y.sd) + k * (y.sn * y.bd)) * (z.bd * z.sd) = e * P + k * R := by rw [← eR, ← eP]; grind
  have c2 : (e' * (z.bn * z.sd) + k' * (z.sn * z.bd)) * (y.bd * y.sd) - (e' * (y.bn * y.sd) + k' * (y.sn * y.bd)) * (z.bd * z.sd) = e' * P + k' * R := by rw [← eR, ← eP]; grind
  rw [eR] at hR
  have d1 : e * P + k * R ≤ 0 := by omega
  have d2 : 0 ≤ e' * P + k' * R := by omega
  have f1 := Int.mul_le_mul_of_nonneg_right d1 (Int.le_of_lt he')
  have f2 := Int.mul_nonneg d2 (Int.le_of_lt he)
  refine Int.le_of_mul_le_mul_right ?_ hR
  have g1 : (e * P + k * R) * e' = e * e' * P + k * e' * R := by grind
  have g2 : (e' * P + k' * R) * e = e * e' * P + k' * e * R := by grind
  omega

/-- Two lines of one slope are one. -/
theorem slope_one (cx : Ctx p b m n) {Q : List Int → Prop} {l : List Pc} (hi : Inv p b m n Q l) (h : Canon p b m n Q l) (y z : Pc) (hy : y ∈ l) (hz : z ∈ l) (h1 : ¬ slLt y z) (h2 : ¬ slLt z y) : y = z := by
  obtain ⟨m1, m2, _⟩ := h.nums cx y hy
  obtain ⟨m3, m4, _⟩ := h.nums cx z hz
  have yb := may_pos _ _ m1
  have ys := may_pos _ _ m2
  have zb := may_pos _ _ m3
  have zs := may_pos _ _ m4
  unfold slLt at h1 h2
  obtain ⟨s1, s2⟩ := frac_one _ _ _ _ m2 m4 (by omega)
  obtain ⟨e, k, he, y1, y2⟩ := Canon.some cx hi y hy
  obtain ⟨e', k', he', z1, z2⟩ := Canon.some cx hi z hz
  have u := line_ge cx hi h y z hy hz e k he y1 y2
  have v := line_ge cx hi h z y hz hy e' k' he' z1 z2
  rw [← s1, ← s2] at u v
  have k1 : y.sd * y.sd * e * (z.bn * y.bd) ≤ y.sd * y.sd * e * (y.bn * z.bd) := by
    have r1 : (e * (z.bn * y.sd) + k * (y.sn * z.bd)) * (y.bd * y.sd) = y.sd * y.sd * e * (z.bn * y.bd) + k * y.sn * z.bd * y.bd * y.sd := by grind
    have r2 : (e * (y.bn * y.sd) + k * (y.sn * y.bd)) * (z.bd * y.sd) = y.sd * y.sd * e * (y.bn * z.bd) + k * y.sn * z.bd * y.bd * y.sd := by grind
    omega
  have k2 : y.sd * y.sd * e' * (y.bn * z.bd) ≤ y.sd * y.sd * e' * (z.bn * y.bd) := by
    have r1 : (e' * (y.bn * y.sd) + k' * (y.sn * y.bd)) * (z.bd * y.sd) = y.sd * y.sd * e' * (y.bn * z.bd) + k' * y.sn * z.bd * y.bd * y.sd := by grind
    have r2 : (e' * (z.bn * y.sd) + k' * (y.sn * z.bd)) * (y.bd * y.sd) = y.sd * y.sd * e' * (z.bn * y.bd) + k' * y.sn * z.bd * y.bd * y.sd := by grind
    omega
  have pss := Int.mul_pos ys ys
  have q1 := Int.le_of_mul_le_mul_left k1 (Int.mul_pos pss he)
  have q2 := Int.le_of_mul_le_mul_left k2 (Int.mul_pos pss he')
  obtain ⟨b1, b2⟩ := frac_one _ _ _ _ m1 m3 (by omega)
  exact h.same hy hz ⟨b1, b2, s1, s2⟩

/-- Of two longer lines the one with the lesser slope begins ahead. -/
theorem before_of (cx : Ctx p b m n) {Q : List Int → Prop} {l : List Pc} (hi : Inv p b m n Q l) (h : Canon p b m n Q l) (y z : Pc) (hy : y ∈ l) (hz : z ∈ l) (hw : spotB y = false) (hs : slLt y z) : beforeB y z = true ∧ beforeB z y = false := by
  have key := ahead_all cx hi h y z hy hz hs
  obtain ⟨e, k, he, y1, y2⟩ := Canon.some cx hi y hy
  obtain ⟨e', k', he', z1, z2⟩ := Canon.some cx hi z hz
  have zo : z.f.o = false := by
    cases ho : z.f.o with
    | false => rfl
    | true =>
      exfalso
      have okt := h.okt cx z hz
      have hee : 0 < e * e' := Int.mul_pos he he'
      have far : ∀ N : Int, 0 ≤ N → k * e' ≤ (k' - N * e') * e := by
        intro N hN
        refine key e k e' (k' - N * e') he he' y1 y2 (Or.inl ho) ?_
        rcases z2 with z2 | z2
        · exact Or.inl z2
        · cases hto : z.t.o with
          | true => exact Or.inl hto
          | false =>
            refine Or.inr ?_
            have tp := (okt.pos hto).1
            have := Int.mul_nonneg (Int.mul_nonneg hN (Int.le_of_lt he')) (Int.le_of_lt tp)
            rw [Int.sub_mul]; omega
      have hN : 0 ≤ (k' * e - k * e') := by have := key e k e' k' he he' y1 y2 z1 z2; omega
      have := far (k' * e - k * e' + 1) (by omega)
      have r : (k' - (k' * e - k * e' + 1) * e') * e = k' * e - (k' * e - k * e' + 1) * (e * e') := by grind
      rw [r] at this
      have := Int.mul_le_mul_of_nonneg_left (show 1 ≤ e * e' by omega) (show 0 ≤ k' * e - k * e' + 1 by omega)
      omega
  obtain ⟨zd, zd', zl, zh⟩ := Canon.start cx hi z hz zo
  cases yo : y.f.o with
  | true =>
    unfold beforeB
    rw [if_pos (Or.inl yo), if_pos (Or.inr yo)]
    exact ⟨yo, zo⟩
  | false =>
    obtain ⟨yd, yd', yl, yh⟩ := Canon.start cx hi y hy yo
    have le := key _ _ _ _ yd zd yl yh zl zh
    have lt : y.f.n * z.f.d < z.f.n * y.f.d := by
      rcases Int.lt_or_eq_of_le le with hlt | heq
      · exact hlt
      · exfalso
        obtain ⟨e1, k1, p1, _, w1, w2, ne⟩ := piece_wide cx Q l hi y hy hw y.f.d y.f.n yd yd'
        have c1 := key _ _ _ _ p1 zd w1 w2 zl zh
        have c2 : y.f.n * e1 ≤ k1 * y.f.d := by
          rcases w1 with w1 | w1
          · rw [yo] at w1; cases w1
          · exact w1
        have f1 := Int.mul_le_mul_of_nonneg_right c1 (Int.le_of_lt yd)
        have g1 : k1 * z.f.d * y.f.d = z.f.d * (k1 * y.f.d) := by grind
        have g2 : z.f.n * e1 * y.f.d = e1 * (z.f.n * y.f.d) := by grind
        have g3 : e1 * (z.f.n * y.f.d) = z.f.d * (y.f.n * e1) := by rw [← heq]; grind
        rw [g1, g2, g3] at f1
        have := Int.le_of_mul_le_mul_left f1 zd
        omega
    unfold beforeB
    rw [if_neg (by rw [yo, zo]; simp), if_neg (by rw [yo, zo]; simp)]
    exact ⟨decide_eq_true lt, decide_eq_false (by omega)⟩

theorem ins_sorted (x : Pc) (S : Pc → Prop) (hb : ∀ y, S y → y ≠ x → (beforeB y x = true ↔ slLt y x)) (ht : ∀ y, S y → y ≠ x → ¬ slLt y x → slLt x y) (htr : ∀ y z, S y → S z → slLt x y → slLt y z → slLt x z) : ∀ l : List Pc, (∀ y ∈ l, S y) → x ∉ l → l.Pairwise slLt → (insN x l).Pairwise slLt := by
  intro l
  induction l with
  | nil => intro _ _ _; exact List.pairwise_singleton _ _
  | cons y l ih =>
    intro hS hx hp
    obtain ⟨h1, h2⟩ := List.pairwise_cons.1 hp
    have hne : y ≠ x := fun e => hx (by simp [e])
    unfold insN
    by_cases hbe : beforeB y x = true
    · rw [if_pos hbe]
      have hlt := (hb y (hS y (by simp)) hne).1 hbe
      refine List.pairwise_cons.2 ⟨fun z hz => ?_, ih (fun z hz => hS z (by simp [hz])) (fun hc => hx (by simp [hc])) h2⟩
      rcases (mem_ins x z l).1 hz with hz | hz
      · subst hz; exact hlt
      · exact h1 z hz
    · rw [if_neg hbe]
      have hlt := ht y (hS y (by simp)) hne (fun hc => hbe ((hb y (hS y (by simp)) hne).2 hc))
      refine List.pairwise_cons.2 ⟨fun z hz => ?_, hp⟩
      rcases List.mem_cons.1 hz with hz | hz
      · subst hz; exact hlt
      · exact htr y z (hS y (by simp)) (hS z (by simp [hz])) hlt (h1 z hz)

theorem slLt_trans (x y z : Pc) (hx : 0 < x.sd) (hy : 0 < y.sd) (hz : 0 < z.sd) (h1 : slLt x y) (h2 : slLt y z) : slLt x z := by
  unfold slLt at *
  have p1 := Int.mul_lt_mul_of_pos_right h1 hz
  have p2 := Int.mul_lt_mul_of_pos_right h2 hx
  refine Int.lt_of_mul_lt_mul_left (a := y.sd) ?_ (Int.le_of_lt hy)
  have r1 : x.sn * y.sd * z.sd = y.sd * (x.sn * z.sd) := by grind
  have r2 : z.sn * y.sd * x.sd = y.sd * (z.sn * x.sd) := by grind
  have r3 : y.sn * x.sd * z.sd = y.sn * z.sd * x.sd := by grind
  omega

theorem slLt_irrefl (x : Pc) : ¬ slLt x x := by unfold slLt; omega

theorem ins_perm (x : Pc) : ∀ l : List Pc, (insN x l).Perm (x :: l) := by
  intro l
  induction l with
  | nil => exact List.Perm.refl _
  | cons y l ih =>
    unfold insN
    split
    · exact (List.Perm.cons y ih).trans (List.Perm.swap x y l)
    · exact List.Perm.refl _

theorem out_goes (cx : Ctx p b m n) {Q : List Int → Prop} {l : List Pc} (hi : Inv p b m n Q l) (h : Canon p b m n Q l) : ∀ (r out : List Pc), (∀ y ∈ r, y ∈ l) → (∀ y ∈ out, y ∈ l ∧ spotB y = false) → (out ++ r).Nodup → out.Pairwise slLt →
    (r.foldl (fun out x => if spotB x = true then out else insN x out) out).Pairwise slLt ∧ (r.foldl (fun out x => if spotB x = true then out else insN x out) out).Perm (out ++ r.filter fun x => !spotB x) := by
  intro r
  induction r with
  | nil => intro out _ _ _ hp; exact ⟨hp, by simp⟩
  | cons x r ih =>
    intro out hr ho hn hp
    rw [List.foldl_cons]
    by_cases hs : spotB x = true
    · rw [if_pos hs, List.filter_cons_of_neg (by simp [hs])]
      exact ih out (fun y hy => hr y (by simp [hy])) ho (hn.sublist (List.Sublist.append (List.Sublist.refl _) (List.sublist_cons_self _ _))) hp
    · have hs' : spotB x = false := by simpa using hs
      rw [if_neg hs, List.filter_cons_of_pos (by simp [hs'])]
      have hxl := hr x (by simp)
      have hxo : x ∉ out := fun hc => by
        have := (List.nodup_append.1 hn).2.2 x hc x (by simp)
        exact this rfl
      have sd : ∀ y ∈ l, 0 < y.sd := fun y hy => may_pos _ _ (h.nums cx y hy).2.1
      have hins : (insN x out).Pairwise slLt := by
        refine ins_sorted x (fun y => y ∈ l ∧ spotB y = false) (fun y hy hne => ?_) (fun y hy hne hlt => ?_) (fun y z hy hz h1 h2 => slLt_trans x y z (sd x hxl) (sd y hy.1) (sd z hz.1) h1 h2) out ho hxo hp
        · constructor
          · intro hbe
            by_cases hlt : slLt y x
            · exact hlt
            · by_cases hgt : slLt x y
              · have := (before_of cx hi h x y hxl hy.1 hs' hgt).2
                rw [hbe] at this; cases this
              · exact absurd (slope_one cx hi h y x hy.1 hxl hlt hgt) hne
          · intro hlt
            exact (before_of cx hi h y x hy.1 hxl hy.2 hlt).1
        · by_cases hgt : slLt x y
          · exact hgt
          · exact absurd (slope_one cx hi h y x hy.1 hxl hlt hgt) hne
      have hpm := ins_perm x out
      obtain ⟨k1, k2⟩ := ih (insN x out) (fun y hy => hr y (by simp [hy])) (fun y hy => by
        rcases (mem_ins x y out).1 hy with hy | hy
        · subst hy; exact ⟨hxl, hs'⟩
        · exact ho y hy) ((List.Perm.nodup_iff ((hpm.append_right r).trans List.perm_middle.symm)).2 hn) hins
      refine ⟨k1, k2.trans ?_⟩
      exact (hpm.append_right _).trans List.perm_middle.symm

theorem sorted_one : ∀ (l l' : List Pc), l.Perm l' → l.Pairwise slLt → l'.Pairwise slLt → l = l' := by
  intro l
  induction l with
  | nil => intro l' hp _ _; exact hp.nil_eq
  | cons x l ih =>
    intro l' hp h h'
    cases l' with
    | nil => exact absurd hp.length_eq (by simp)
    | cons y l' =>
      obtain ⟨h1, h2⟩ := List.pairwise_cons.1 h
      obtain ⟨g1, g2⟩ := List.pairwise_cons.1 h'
      have hxy : x = y := by
        have hx : x ∈ y :: l' := hp.subset (by simp)
        have hy : y ∈ x :: l := hp.symm.subset (by simp)
        rcases List.mem_cons.1 hx with hx | hx
        · exact hx
        · rcases List.mem_cons.1 hy with hy | hy
          · exact hy.symm
          · have a1 := g1 x hx
            have a2 := h1 y hy
            unfold slLt at a1 a2
            omega
      subst hxy
      rw [ih l' (List.Perm.cons_inv hp) h2 g2]

theorem least_least : ∀ (l : List Pc) (x : Pc), 0 < x.sd → (∀ y ∈ l, 0 < y.sd) → ∀ z ∈ x :: l, ¬ slLt z (leastP l x) := by
  intro l
  induction l with
  | nil => intro x _ _ z hz; rw [List.mem_singleton.1 hz]; exact slLt_irrefl x
  | cons y l ih =>
    intro x hx hl z hz
    have e : leastP (y :: l) x = leastP l (if y.sn * x.sd < x.sn * y.sd then y else x) := rfl
    rw [e]
    have yp := hl y (by simp)
    by_cases hlt : y.sn * x.sd < x.sn * y.sd
    · rw [if_pos hlt]
      have k := ih y yp (fun w hw => hl w (by simp [hw]))
      rcases List.mem_cons.1 hz with hz | hz
      · subst hz
        intro hc
        have mem := least_mem l y
        have lp : 0 < (leastP l y).sd := by
          rcases List.mem_cons.1 mem with h | h
          · rw [h]; exact yp
          · exact hl _ (by simp [h])
        exact k y (by simp) (slLt_trans y z _ yp hx lp hlt hc)
      · exact k z hz
    · rw [if_neg hlt]
      have k := ih x hx (fun w hw => hl w (by simp [hw]))
      rcases List.mem_cons.1 hz with hz | hz
      · subst hz; exact k z (by simp)
      · rcases List.mem_cons.1 hz with hz | hz
        · subst hz
          intro hc
          have mem := least_mem l x
          have lp : 0 < (leastP l x).sd := by
            rcases List.mem_cons.1 mem with h | h
            · rw [h]; exact hx
            · exact hl _ (by simp [h])
          refine k x (by simp) ?_
          unfold slLt at hc ⊢
          have p1 := Int.mul_lt_mul_of_pos_right hc hx
          have p2 := Int.mul_le_mul_of_nonneg_right (Int.not_lt.1 hlt) (Int.le_of_lt lp)
          refine Int.lt_of_mul_lt_mul_left (a := z.sd) ?_ (Int.le_of_lt yp)
          have r1 : z.sn * (leastP l x).sd * x.sd = z.sn * x.sd * (leastP l x).sd := by grind
          have r2 : (leastP l x).sn * z.sd * x.sd = z.sd * ((leastP l x).sn * x.sd) := by grind
          have r3 : z.sd * (x.sn * (leastP l x).sd) = x.sn * z.sd * (leastP l x).sd := by grind
          omega
        · exact k z (by simp [hz])

/-- Those of more than one place; if there are none, the first one. -/
def longN (l : List Pc) : List Pc := if (l.filter fun x => !spotB x) = [] then l.take 1 else l.filter fun x => !spotB x

/-- THE LINES BY SLOPE, the longer ones of them, are what the document says. -/
theorem sweep_code (cx : Ctx p b m n) (all1 all2 : List (List Int)) (hq : ∀ a, usedB p b m n a = true → (a ∈ all1 ↔ a ∈ all2)) (srt : List Pc) (hp : srt.Perm (linesN p b m n all1)) (hs : srt.Pairwise fun y z => ¬ slLt z y) : longN srt = sweepN (linesN p b m n all2) := by
  have hp2 := hp.trans (lines_perm cx all1 all2 hq)
  have hi := inv_lines cx all2
  have hc := canon_lines cx all2
  generalize linesN p b m n all2 = l at *
  have hn := nodup_of_one hc.one
  have hsn : srt.Nodup := hp2.nodup_iff.2 hn
  have hst : srt.Pairwise slLt := by
    have h2 : srt.Pairwise fun y z => y ≠ z := hsn
    refine ((hs.and h2).imp_of_mem ?_)
    intro y z hy hz hyz
    by_cases hlt : slLt y z
    · exact hlt
    · exact absurd (slope_one cx hi hc y z (hp2.subset hy) (hp2.subset hz) hlt hyz.1) hyz.2
  obtain ⟨o1, o2⟩ := out_goes cx hi hc l [] (fun _ h => h) (fun _ h => by cases h) (by simpa using hn) List.Pairwise.nil
  have o2' : (outP l).Perm (l.filter fun x => !spotB x) := by simpa [outP] using o2
  have o1' : (outP l).Pairwise slLt := o1
  have eq : (srt.filter fun x => !spotB x) = outP l := sorted_one _ _ ((hp2.filter _).trans o2'.symm) (hst.filter _) o1'
  unfold longN
  rw [eq]
  cases ho : outP l with
  | cons x r =>
    rw [if_neg (by simp)]
    unfold sweepN
    rw [ho]
  | nil =>
    rw [if_pos rfl]
    cases hl : l with
    | nil =>
      rw [hl] at hp2
      rw [hp2.eq_nil]
      unfold sweepN
      rw [hl] at ho
      rw [ho]; rfl
    | cons x r =>
      have e : sweepN (x :: r) = [leastP r x] := by
        unfold sweepN
        rw [hl] at ho
        rw [ho]
      rw [e]
      cases hr : srt with
      | nil => rw [hr, hl] at hp2; exact absurd hp2.length_eq (by simp)
      | cons s t =>
        have sl : s ∈ l := hp2.subset (by rw [hr]; simp)
        have ll : leastP r x ∈ l := by rw [hl]; exact least_mem r x
        have sd : ∀ y ∈ l, 0 < y.sd := fun y hy => may_pos _ _ (hc.nums cx y hy).2.1
        have n1 : ¬ slLt s (leastP r x) := least_least r x (sd x (by rw [hl]; simp)) (fun y hy => sd y (by rw [hl]; simp [hy])) s (by rw [← hl]; exact sl)
        have n2 : ¬ slLt (leastP r x) s := by
          have hm : leastP r x ∈ s :: t := by rw [← hr]; exact hp2.symm.subset ll
          rcases List.mem_cons.1 hm with h | h
          · rw [h]; exact slLt_irrefl s
          · rw [hr] at hs
            exact (List.pairwise_cons.1 hs).1 _ h
        rw [slope_one cx hi hc s _ sl ll n1 n2]
        rfl

end
end Num
end Go.Proofs.YtipcbhodlgoflabGreat
