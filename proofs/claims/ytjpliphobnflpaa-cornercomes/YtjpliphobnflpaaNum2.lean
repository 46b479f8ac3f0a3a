/- Plain facts on lowest terms: what is divided out of multiples, and that what is left has no factor in common. -/
import Derived.Test.YtjpliphobnflpaaNum
namespace Go.Proofs.Ytjpliphobnflpaa.Num

theorem gl_mul (c d : Int) (l : List Int) : gl (c * d) (l.map fun n => c * n) = c.natAbs * gl d l := by
  unfold gl
  rw [Int.natAbs_mul]
  generalize d.natAbs = g
  induction l generalizing g with
  | nil => rfl
  | cons x t ih =>
    simp only [List.map_cons, List.foldl_cons]
    rw [Int.natAbs_mul, Nat.gcd_mul_left, ih]

theorem byOf_mul (c d : Int) (l : List Int) (hc : c ≠ 0) (hd : d ≠ 0) : byOf (c * d) (l.map fun n => c * n) = c * byOf d l := by
  unfold byOf
  rw [gl_mul]
  rcases Int.lt_or_gt_of_ne hc with h | h <;> rcases Int.lt_or_gt_of_ne hd with k | k
  · have : 0 < c * d := Int.mul_pos_of_neg_of_neg h k
    rw [if_neg (by omega), if_pos k]
    rw [Int.natCast_mul, Int.ofNat_natAbs_of_nonpos (by omega)]
    simp [Int.neg_mul, Int.mul_neg]
  · have : c * d < 0 := Int.mul_neg_of_neg_of_pos h k
    rw [if_pos this, if_neg (by omega)]
    rw [Int.natCast_mul, Int.ofNat_natAbs_of_nonpos (by omega)]
    simp [Int.neg_mul]
  · have : c * d < 0 := Int.mul_neg_of_pos_of_neg h k
    rw [if_pos this, if_pos k]
    rw [Int.natCast_mul, Int.natAbs_of_nonneg (by omega)]
    simp [Int.mul_neg]
  · have : 0 < c * d := Int.mul_pos h k
    rw [if_neg (by omega), if_neg (by omega)]
    rw [Int.natCast_mul, Int.natAbs_of_nonneg (by omega)]

theorem natAbs_byOf (d : Int) (l : List Int) : (byOf d l).natAbs = gl d l := by
  unfold byOf; split <;> omega

theorem byOf_dvd_d (d : Int) (l : List Int) : byOf d l ∣ d := by
  rw [← Int.natAbs_dvd_natAbs, natAbs_byOf]; exact gl_dvd_d d l

theorem byOf_dvd_l (d : Int) (l : List Int) (n : Int) (h : n ∈ l) : byOf d l ∣ n := by
  rw [← Int.natAbs_dvd_natAbs, natAbs_byOf]; exact gl_dvd_l d l n h

theorem byOf_ne (d : Int) (l : List Int) (h : d ≠ 0) : byOf d l ≠ 0 := by
  have := gl_pos d l h
  rw [← natAbs_byOf] at this
  omega

theorem tdiv_mul_tdiv (c x y : Int) (hc : c ≠ 0) : (c * x).tdiv (c * y) = x.tdiv y := by
  rcases Int.lt_or_gt_of_ne hc with h | h
  · have e1 : c * x = -((-c) * x) := by simp [Int.neg_mul]
    have e2 : c * y = -((-c) * y) := by simp [Int.neg_mul]
    rw [e1, e2, Int.neg_tdiv_neg, Int.mul_tdiv_mul_of_pos _ _ (by omega)]
  · exact Int.mul_tdiv_mul_of_pos _ _ h

/-- What is left, once divided, has no factor in common. -/
theorem gl_low (d : Int) (l : List Int) (h : d ≠ 0) : gl (d.tdiv (byOf d l)) (l.map fun n => n.tdiv (byOf d l)) = 1 := by
  have hb := byOf_ne d l h
  have e := gl_mul (byOf d l) (d.tdiv (byOf d l)) (l.map fun n => n.tdiv (byOf d l))
  rw [Int.mul_tdiv_cancel' (byOf_dvd_d d l)] at e
  have e2 : ((l.map fun n => n.tdiv (byOf d l)).map fun n => byOf d l * n) = l := by
    rw [List.map_map]
    refine Eq.trans (List.map_congr_left (g := fun n => n) ?_) (by simp)
    intro n hn
    exact Int.mul_tdiv_cancel' (byOf_dvd_l d l n hn)
  rw [e2, natAbs_byOf] at e
  have hp := gl_pos d l h
  exact Nat.eq_of_mul_eq_mul_left hp (by omega)

/-- The divided den is above 0. -/
theorem low_den_pos (d : Int) (l : List Int) (h : d ≠ 0) : 1 ≤ d.tdiv (byOf d l) := by
  have hm := Int.mul_tdiv_cancel' (byOf_dvd_d d l)
  have hp := gl_pos d l h
  generalize d.tdiv (byOf d l) = k at hm
  unfold byOf at hm
  have : 0 < k := ?_
  · omega
  refine Int.lt_of_not_ge fun hle => ?_
  split at hm
  · have : 0 ≤ -(gl d l : Int) * k := Int.mul_nonneg_of_nonpos_of_nonpos (by omega) hle
    omega
  · have : (gl d l : Int) * k ≤ 0 := Int.mul_nonpos_of_nonneg_of_nonpos (by omega) hle
    omega

theorem mayB_low (d : Int) (l : List Int) (h : d ≠ 0) (hf : fitsB 1073741824 d l = true) : mayB (d.tdiv (byOf d l)) (l.map fun n => n.tdiv (byOf d l)) = true := by
  have h1 := low_den_pos d l h
  have h2 := gl_low d l h
  unfold fitsB at hf
  simp only [Bool.and_eq_true, decide_eq_true_eq] at hf
  rw [mayB_g _ _ h1 (by rw [withinB_one]; simp; omega) hf.2, h2]
  rfl

theorem fitsB_mul (m c d : Int) (l : List Int) (hc : c ≠ 0) (hd : d ≠ 0) : fitsB m (c * d) (l.map fun n => c * n) = fitsB m d l := by
  unfold fitsB
  rw [byOf_mul c d l hc hd, tdiv_mul_tdiv c _ _ hc, List.map_map]
  have e : ((fun n => n.tdiv (c * byOf d l)) ∘ fun n => c * n) = fun n => n.tdiv (byOf d l) := by
    funext n
    simp only [Function.comp_apply]
    exact tdiv_mul_tdiv c _ _ hc
  rw [e]

/-- A fraction's lowest terms: what is wrong, and the parts. -/
def mk (n d : Int) : Int × Int × Int := if (low d [n]).2 = 0 then (n.tdiv (byOf d [n]), d.tdiv (byOf d [n]), 0) else (0, 0, (low d [n]).2)

theorem low_in (d n : Int) (hd : d ≠ 0) (h1 : -4611686018427387904 ≤ d ∧ d ≤ 4611686018427387904) (h2 : -4611686018427387904 ≤ n ∧ n ≤ 4611686018427387904) :
    low d [n] = if fitsB 1073741824 d [n] then (byOf d [n], 0) else (0, 1) := by
  unfold low
  rw [if_neg, if_neg (by simp)]
  rw [withinB_one, withinB_one]
  simp
  omega

theorem mk_in (d n : Int) (hd : d ≠ 0) (h1 : -4611686018427387904 ≤ d ∧ d ≤ 4611686018427387904) (h2 : -4611686018427387904 ≤ n ∧ n ≤ 4611686018427387904) :
    mk n d = if fitsB 1073741824 d [n] then (n.tdiv (byOf d [n]), d.tdiv (byOf d [n]), 0) else (0, 0, 1) := by
  unfold mk
  rw [low_in d n hd h1 h2]
  cases fitsB 1073741824 d [n] <;> simp

theorem mk_mul (c d n : Int) (hc : c ≠ 0) (hd : d ≠ 0) (h1 : -4611686018427387904 ≤ d ∧ d ≤ 4611686018427387904) (h2 : -4611686018427387904 ≤ n ∧ n ≤ 4611686018427387904)
    (h3 : -4611686018427387904 ≤ c * d ∧ c * d ≤ 4611686018427387904) (h4 : -4611686018427387904 ≤ c * n ∧ c * n ≤ 4611686018427387904) : mk (c * n) (c * d) = mk n d := by
  have hcd : c * d ≠ 0 := Int.mul_ne_zero hc hd
  rw [mk_in d n hd h1 h2, mk_in (c * d) (c * n) hcd h3 h4]
  have e1 := fitsB_mul 1073741824 c d [n] hc hd
  have e2 := byOf_mul c d [n] hc hd
  simp only [List.map_cons, List.map_nil] at e1 e2
  rw [e1, e2, tdiv_mul_tdiv c _ _ hc, tdiv_mul_tdiv c _ _ hc]

/-- Of numbers that have a fraction: it is theirs, and may be. -/
theorem mk_ok (d n : Int) (hd : d ≠ 0) (h1 : -4611686018427387904 ≤ d ∧ d ≤ 4611686018427387904) (h2 : -4611686018427387904 ≤ n ∧ n ≤ 4611686018427387904) (hf : fitsB 1073741824 d [n] = true) :
    ∃ x y, mk n d = (x, y, 0) ∧ x * d = n * y ∧ 1 ≤ y ∧ y ≤ 1073741824 ∧ -1073741824 ≤ x ∧ x ≤ 1073741824 ∧ mayB y [x] = true := by
  refine ⟨n.tdiv (byOf d [n]), d.tdiv (byOf d [n]), by rw [mk_in d n hd h1 h2, hf]; rfl, ?_, low_den_pos d [n] hd, ?_, ?_⟩
  · have a := Int.mul_tdiv_cancel' (byOf_dvd_d d [n])
    have b := Int.mul_tdiv_cancel' (byOf_dvd_l d [n] n (by simp))
    generalize d.tdiv (byOf d [n]) = y at *
    generalize n.tdiv (byOf d [n]) = x at *
    generalize byOf d [n] = g at *
    rw [← a, ← b, ← Int.mul_assoc, Int.mul_comm x g]
  · unfold fitsB at hf
    simp only [Bool.and_eq_true, decide_eq_true_eq] at hf
    exact hf.1
  · have := mayB_low d [n] hd hf
    unfold fitsB at hf
    simp only [Bool.and_eq_true, decide_eq_true_eq, List.map_cons, List.map_nil, withinB_one] at hf
    exact ⟨hf.2.1, hf.2.2, this⟩

theorem mk_bad (d n : Int) (hd : d ≠ 0) (h1 : -4611686018427387904 ≤ d ∧ d ≤ 4611686018427387904) (h2 : -4611686018427387904 ≤ n ∧ n ≤ 4611686018427387904) (hf : fitsB 1073741824 d [n] = false) : mk n d = (0, 0, 1) := by
  rw [mk_in d n hd h1 h2, hf]; rfl

theorem mk_zero (n : Int) : mk n 0 = (0, 0, 3) := by
  have : low 0 [n] = (0, 3) := by unfold low; rw [if_pos (Or.inl rfl)]
  unfold mk; rw [this]; rfl

theorem mayB_bd (d : Int) (l : List Int) (h : mayB d l = true) : 1 ≤ d ∧ d ≤ 1073741824 ∧ withinB 1073741824 l = true ∧ gl d l = 1 := by
  unfold mayB at h
  rw [withinB_one] at h
  simp only [Bool.and_eq_true, decide_eq_true_eq, beq_iff_eq] at h
  exact ⟨h.1, h.2.1.2, h.2.2.1, by omega⟩

theorem mul_bd (a b : Int) (m : Int) (ha : -m ≤ a ∧ a ≤ m) (hb : -m ≤ b ∧ b ≤ m) (hm : 0 ≤ m) : -(m * m) ≤ a * b ∧ a * b ≤ m * m := by
  have h : (a * b).natAbs ≤ (m * m).natAbs := by
    rw [Int.natAbs_mul, Int.natAbs_mul]
    exact Nat.mul_le_mul (by omega) (by omega)
  have : 0 ≤ m * m := Int.mul_nonneg hm hm
  omega

theorem gl_natAbs (d : Int) (l : List Int) : gl (d.natAbs : Int) l = gl d l := by simp [gl]

theorem tdiv_byOf (d : Int) (l : List Int) : d.tdiv (byOf d l) = (d.natAbs : Int) / (gl d l : Int) := by
  unfold byOf
  split
  · rw [Int.tdiv_neg, ← Int.neg_tdiv, Int.tdiv_eq_ediv_of_nonneg (by omega)]
    congr 1; omega
  · rw [Int.tdiv_eq_ediv_of_nonneg (by omega)]
    congr 1; omega

/-- Is it a point that may be? -/
def mayPB (d : Int) (l : List Int) : Bool := mayB d l && decide (l.length ≤ 8)

theorem mayPB_low (d : Int) (l : List Int) (h : d ≠ 0) : mayPB (d.tdiv (byOf d l)) (l.map fun n => n.tdiv (byOf d l)) = (decide (l.length ≤ 8) && fitsB 1073741824 d l) := by
  unfold mayPB
  rw [List.length_map, Bool.and_comm]
  congr 1
  cases hf : fitsB 1073741824 d l with
  | true => exact mayB_low d l h hf
  | false =>
    unfold mayB
    unfold fitsB at hf
    have h1 := low_den_pos d l h
    rw [withinB_one]
    rcases Bool.and_eq_false_iff.1 hf with k | k
    · simp only [decide_eq_false_iff_not] at k
      simp [k]
    · simp [k]

/-- The lowest terms of a point: its numbers, what they are divided by, and what is wrong. -/
def pt (l : List Int) (d : Int) : List Int × Int × Int := if (low d l).2 = 0 then (l.map fun n => n.tdiv (byOf d l), d.tdiv (byOf d l), 0) else ([], 0, (low d l).2)

theorem pt_bad (l : List Int) (d : Int) (h : d = 0 ∨ withinB 4611686018427387904 l = false ∨ withinB 4611686018427387904 [d] = false) : pt l d = ([], 0, 3) := by
  have : low d l = (0, 3) := by
    unfold low
    rw [if_pos]
    rcases h with h | h | h
    · exact Or.inl h
    · exact Or.inr (Or.inr h)
    · exact Or.inr (Or.inl h)
  unfold pt; rw [this]; rfl

theorem pt_in (l : List Int) (d : Int) (h0 : d ≠ 0) (h1 : withinB 4611686018427387904 l = true) (h2 : withinB 4611686018427387904 [d] = true) :
    pt l d = if mayPB (d.tdiv (byOf d l)) (l.map fun n => n.tdiv (byOf d l)) then (l.map fun n => n.tdiv (byOf d l), d.tdiv (byOf d l), 0) else ([], 0, 1) := by
  have e : low d l = if 8 < l.length then (0, 1) else if fitsB 1073741824 d l then (byOf d l, 0) else (0, 1) := by
    unfold low
    rw [if_neg (by simp [h0, h1, h2])]
  rw [mayPB_low d l h0]
  unfold pt
  rw [e]
  by_cases hl : 8 < l.length
  · have : ¬ l.length ≤ 8 := by omega
    simp [hl, this]
  · have : l.length ≤ 8 := by omega
    rw [if_neg hl]
    cases fitsB 1073741824 d l <;> simp [this]

theorem pt_one_ok (n d x y : Int) (h : mk n d = (x, y, 0)) : pt [n] d = ([x], y, 0) := by
  unfold mk at h
  unfold pt
  by_cases h0 : (low d [n]).2 = 0
  · rw [if_pos h0] at h ⊢
    simp only [Prod.mk.injEq] at h
    rw [← h.1, ← h.2.1]; rfl
  · rw [if_neg h0] at h
    simp only [Prod.mk.injEq] at h
    exact absurd h.2.2 h0

theorem pt_one_bad (n d x y z : Int) (h : mk n d = (x, y, z)) (hz : z ≠ 0) : pt [n] d = ([], 0, z) ∧ x = 0 ∧ y = 0 := by
  unfold mk at h
  unfold pt
  by_cases h0 : (low d [n]).2 = 0
  · rw [if_pos h0] at h
    simp only [Prod.mk.injEq] at h
    exact absurd h.2.2.symm hz
  · rw [if_neg h0] at h ⊢
    simp only [Prod.mk.injEq] at h
    rw [h.2.2]
    exact ⟨rfl, h.1.symm, h.2.1.symm⟩

end Go.Proofs.Ytjpliphobnflpaa.Num
