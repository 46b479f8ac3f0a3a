/- Plain facts on whole numbers and lists: limits, the greatest common divisor of several numbers, lowest terms. Nothing of the program is spoken of here. -/
namespace Go.Proofs.YtipcbhodlgoflabGreat.Num

/-- All numbers of a list are from -m to m. -/
def withinB (m : Int) (l : List Int) : Bool := l.all fun n => decide (-m ≤ n) && decide (n ≤ m)

/-- The greatest number that divides d and all of l. -/
def gl (d : Int) (l : List Int) : Nat := l.foldl (fun g n => Nat.gcd g n.natAbs) d.natAbs

theorem withinB_take_succ (m : Int) (l : List Int) (k : Nat) (h : k < l.length) :
    withinB m (l.take (k + 1)) = (withinB m (l.take k) && (decide (-m ≤ l[k]?.getD 0) && decide (l[k]?.getD 0 ≤ m))) := by
  have e : l.take (k + 1) = l.take k ++ [l[k]?.getD 0] := by
    rw [List.take_succ_eq_append_getElem h]; simp [h]
  unfold withinB
  rw [e, List.all_append]; simp

theorem withinB_false_of (m : Int) (l : List Int) (k : Nat) (h : k < l.length) (hb : l[k]?.getD 0 < -m ∨ m < l[k]?.getD 0) : withinB m l = false := by
  unfold withinB
  rw [List.all_eq_false]
  refine ⟨l[k]?.getD 0, ?_, ?_⟩
  · simp [h]
  · simp; omega

theorem withinB_iff (m : Int) (l : List Int) (h : withinB m l = true) (h0 : 0 ≤ m) (k : Nat) : -m ≤ l[k]?.getD 0 ∧ l[k]?.getD 0 ≤ m := by
  by_cases hk : k < l.length
  · unfold withinB at h
    rw [List.all_eq_true] at h
    have := h (l[k]?.getD 0) (by simp [hk])
    simpa using this
  · simp [hk]; omega

theorem gl_take_succ (d : Int) (l : List Int) (k : Nat) (h : k < l.length) :
    gl d (l.take (k + 1)) = Nat.gcd (gl d (l.take k)) (l[k]?.getD 0).natAbs := by
  have e : l.take (k + 1) = l.take k ++ [l[k]?.getD 0] := by
    rw [List.take_succ_eq_append_getElem h]; simp [h]
  unfold gl
  rw [e, List.foldl_append]; rfl

theorem euclid (c n : Int) : Nat.gcd n.natAbs (c.tmod n).natAbs = Nat.gcd c.natAbs n.natAbs := by
  have e : (c.tmod n).natAbs = c.natAbs % n.natAbs := Int.natAbs_tmod _ _
  rw [e, Nat.gcd_comm n.natAbs, ← Nat.gcd_rec]
  exact Nat.gcd_comm _ _

theorem tmod_bd (c n : Int) (h : n ≠ 0) : (c.tmod n).natAbs < n.natAbs := by
  rw [Int.natAbs_tmod]; exact Nat.mod_lt _ (by omega)

/-- What is divided out of den and of all of l, so that den comes out above 0. -/
def byOf (d : Int) (l : List Int) : Int := if d < 0 then -(gl d l : Int) else (gl d l : Int)

/-- Does d, once divided, and each of l, once divided, keep within m? -/
def fitsB (m : Int) (d : Int) (l : List Int) : Bool := decide (d.tdiv (byOf d l) ≤ m) && withinB m (l.map fun n => n.tdiv (byOf d l))

/-- What is divided out, and what is wrong. -/
def low (d : Int) (l : List Int) : Int × Int :=
  if d = 0 ∨ withinB 4611686018427387904 [d] = false ∨ withinB 4611686018427387904 l = false then (0, 3)
  else if 8 < l.length then (0, 1)
  else if fitsB 1073741824 d l then (byOf d l, 0) else (0, 1)

theorem withinB_one (m d : Int) : withinB m [d] = (decide (-m ≤ d) && decide (d ≤ m)) := by simp [withinB]

theorem gl_dvd_d (d : Int) (l : List Int) : gl d l ∣ d.natAbs := by
  unfold gl
  suffices h : ∀ (l : List Int) (g : Nat), l.foldl (fun g n => Nat.gcd g n.natAbs) g ∣ g from h l _
  intro l
  induction l with
  | nil => intro g; exact Nat.dvd_refl _
  | cons x t ih => intro g; exact Nat.dvd_trans (ih _) (Nat.gcd_dvd_left _ _)

theorem gl_dvd_l (d : Int) (l : List Int) (n : Int) (h : n ∈ l) : gl d l ∣ n.natAbs := by
  unfold gl
  suffices k : ∀ (l : List Int) (g : Nat), n ∈ l → l.foldl (fun g n => Nat.gcd g n.natAbs) g ∣ n.natAbs from k l _ h
  intro l
  induction l with
  | nil => intro g hn; simp at hn
  | cons x t ih =>
    intro g hn
    rcases List.mem_cons.1 hn with rfl | hn
    · refine Nat.dvd_trans ?_ (Nat.gcd_dvd_right g n.natAbs)
      have := gl_dvd_d (Nat.gcd g n.natAbs : Nat) t
      simpa [gl] using this
    · exact ih _ hn

theorem gl_pos (d : Int) (l : List Int) (h : d ≠ 0) : 0 < gl d l := Nat.pos_of_dvd_of_pos (gl_dvd_d d l) (by omega)
theorem gl_le (d : Int) (l : List Int) (h : d ≠ 0) : gl d l ≤ d.natAbs := Nat.le_of_dvd (by omega) (gl_dvd_d d l)

theorem low_of (d : Int) (l : List Int) (y : Int) (hy : byOf d l = y) (hd0 : ¬ d = 0) (hd1 : withinB 4611686018427387904 [d] = true) (hl1 : withinB 4611686018427387904 l = true) (hn : ¬ 8 < l.length) :
    (1073741824 < d.tdiv y → low d l = (0, 1)) ∧ (d.tdiv y ≤ 1073741824 → withinB 1073741824 (l.map fun n => n.tdiv y) = false → low d l = (0, 1)) ∧
    (d.tdiv y ≤ 1073741824 → withinB 1073741824 (l.map fun n => n.tdiv y) = true → low d l = (y, 0)) := by
  unfold low fitsB
  rw [hy]
  refine ⟨fun h => ?_, fun h1 h2 => ?_, fun h1 h2 => ?_⟩
  · have : ¬ d.tdiv y ≤ 1073741824 := by omega
    simp [hd0, hd1, hl1, hn, this]
  · simp [hd0, hd1, hl1, hn, h2]
  · simp [hd0, hd1, hl1, hn, h1, h2]

theorem map_getD (f : Int → Int) (h0 : f 0 = 0) (l : List Int) (k : Nat) : (l.map f)[k]?.getD 0 = f (l[k]?.getD 0) := by
  rw [List.getElem?_map]
  cases l[k]? <;> simp [h0]

theorem tdiv_abs (x y : Int) : (x.tdiv y).natAbs ≤ x.natAbs := by
  rw [Int.natAbs_tdiv]; exact Nat.div_le_self _ _

/-- What is divided out where nothing is wrong: not 0, and within limits. -/
theorem low_ok (d : Int) (l : List Int) (h : (low d l).2 = 0) : (low d l).1 = byOf d l ∧ d ≠ 0 ∧ (-4611686018427387904 ≤ d ∧ d ≤ 4611686018427387904) ∧ withinB 4611686018427387904 l = true ∧ l.length ≤ 8 ∧ fitsB 1073741824 d l = true := by
  unfold low at *
  split at h
  · simp at h
  · rename_i hb
    simp only [not_or, Bool.not_eq_false] at hb
    split at h
    · simp at h
    · rename_i hl
      split at h
      · rename_i hf
        rw [if_pos hf]
        have := withinB_one 4611686018427387904 d
        rw [hb.2.1] at this
        simp at this
        rw [if_neg (by simp [hb]), if_neg hl]
        exact ⟨rfl, hb.1, by omega, hb.2.2, by omega, hf⟩
      · simp at h

theorem byOf_bd (d : Int) (l : List Int) (h0 : d ≠ 0) (h1 : -4611686018427387904 ≤ d) (h2 : d ≤ 4611686018427387904) : byOf d l ≠ 0 ∧ -4611686018427387904 ≤ byOf d l ∧ byOf d l ≤ 4611686018427387904 := by
  have a := gl_pos d l h0
  have b := gl_le d l h0
  unfold byOf
  split <;> omega

/-- May d, and all of l, be the parts of one fraction or point (however many l has)? -/
def mayB (d : Int) (l : List Int) : Bool := decide (1 ≤ d) && (withinB 1073741824 [d] && (withinB 1073741824 l && ((gl d l : Int) == 1)))

theorem mayB_lo (d : Int) (l : List Int) (h : ¬ 1 ≤ d) : mayB d l = false := by simp [mayB, h]
theorem mayB_d (d : Int) (l : List Int) (h : withinB 1073741824 [d] = false) : mayB d l = false := by simp [mayB, h]
theorem mayB_l (d : Int) (l : List Int) (h : withinB 1073741824 l = false) : mayB d l = false := by simp [mayB, h]
theorem mayB_g (d : Int) (l : List Int) (h0 : 1 ≤ d) (h1 : withinB 1073741824 [d] = true) (h2 : withinB 1073741824 l = true) : mayB d l = ((gl d l : Int) == 1) := by simp [mayB, h0, h1, h2]

end Go.Proofs.YtipcbhodlgoflabGreat.Num

/- Plain facts on lowest terms: what is divided out of multiples, and that what is left has no factor in common. -/
namespace Go.Proofs.YtipcbhodlgoflabGreat.Num

theorem gl_mul (c d : Int) (l : List Int) : gl (c * d) (l.map fun n => c * n) = c.natAbs * gl d l := by
  unfold gl
  rw [Int.natAbs_mul]
  generalize d.natAbs = g
  induction l generalizing g with
  | nil => rfl
  | cons x t ih =>
    simp only [List.map_cons, List.foldl_cons]
    rw [Int.natAbs_mul, Nat.gcd_mul_left, ih]

theorem byOf_mul (c d : Int) (l : List Int) (hc : c ≠ 0) (hd : d ≠ 0) : byOf (c * d) (l.map fun n => c * n) = c * byOf d l := by
  unfold byOf
  rw [gl_mul]
  rcases Int.lt_or_gt_of_ne hc with h | h <;> rcases Int.lt_or_gt_of_ne hd with k | k
  · have : 0 < c * d := Int.mul_pos_of_neg_of_neg h k
    rw [if_neg (by omega), if_pos k]
    rw [Int.natCast_mul, Int.ofNat_natAbs_of_nonpos (by omega)]
    simp [Int.neg_mul, Int.mul_neg]
  · have : c * d < 0 := Int.mul_neg_of_neg_of_pos h k
    rw [if_pos this, if_neg (by omega)]
    rw [Int.natCast_mul, Int.ofNat_natAbs_of_nonpos (by omega)]
    simp [Int.neg_mul]
  · have : c * d < 0 := Int.mul_neg_of_pos_of_neg h k
    rw [if_pos this, if_pos k]
    rw [Int.natCast_mul, Int.natAbs_of_nonneg (by omega)]
    simp [Int.mul_neg]
  · have : 0 < c * d := Int.mul_pos h k
    rw [if_neg (by omega), if_neg (by omega)]
    rw [Int.natCast_mul, Int.natAbs_of_nonneg (by omega)]

theorem natAbs_byOf (d : Int) (l : List Int) : (byOf d l).natAbs = gl d l := by
  unfold byOf; split <;> omega

theorem byOf_dvd_d (d : Int) (l : List Int) : byOf d l ∣ d := by
  rw [← Int.natAbs_dvd_natAbs, natAbs_byOf]; exact gl_dvd_d d l

theorem byOf_dvd_l (d : Int) (l : List Int) (n : Int) (h : n ∈ l) : byOf d l ∣ n := by
  rw [← Int.natAbs_dvd_natAbs, natAbs_byOf]; exact gl_dvd_l d l n h

theorem byOf_ne (d : Int) (l : List Int) (h : d ≠ 0) : byOf d l ≠ 0 := by
  have := gl_pos d l h
  rw [← natAbs_byOf] at this
  omega

theorem tdiv_mul_tdiv (c x y : Int) (hc : c ≠ 0) : (c * x).tdiv (c * y) = x.tdiv y := by
  rcases Int.lt_or_gt_of_ne hc with h | h
  · have e1 : c * x = -((-c) * x) := by simp [Int.neg_mul]
    have e2 : c * y = -((-c) * y) := by simp [Int.neg_mul]
    rw [e1, e2, Int.neg_tdiv_neg, Int.mul_tdiv_mul_of_pos _ _ (by omega)]
  · exact Int.mul_tdiv_mul_of_pos _ _ h

/-- What is left, once divided, has no factor in common. -/
theorem gl_low (d : Int) (l : List Int) (h : d ≠ 0) : gl (d.tdiv (byOf d l)) (l.map fun n => n.tdiv (byOf d l)) = 1 := by
  have hb := byOf_ne d l h
  have e := gl_mul (byOf d l) (d.tdiv (byOf d l)) (l.map fun n => n.tdiv (byOf d l))
  rw [Int.mul_tdiv_cancel' (byOf_dvd_d d l)] at e
  have e2 : ((l.map fun n => n.tdiv (byOf d l)).map fun n => byOf d l * n) = l := by
    rw [List.map_map]
    refine Eq.trans (List.map_congr_left (g := fun n => n) ?_) (by simp)
    intro n hn
    exact Int.mul_tdiv_cancel' (byOf_dvd_l d l n hn)
  rw [e2, natAbs_byOf] at e
  have hp := gl_pos d l h
  exact Nat.eq_of_mul_eq_mul_left hp (by omega)

/-- The divided den is above 0. -/
theorem low_den_pos (d : Int) (l : List Int) (h : d ≠ 0) : 1 ≤ d.tdiv (byOf d l) := by
  have hm := Int.mul_tdiv_cancel' (byOf_dvd_d d l)
  have hp := gl_pos d l h
  generalize d.tdiv (byOf d l) = k at hm
  unfold byOf at hm
  have : 0 < k := ?_
  · omega
  refine Int.lt_of_not_ge fun hle => ?_
  split at hm
  · have : 0 ≤ -(gl d l : Int) * k := Int.mul_nonneg_of_nonpos_of_nonpos (by omega) hle
    omega
  · have : (gl d l : Int) * k ≤ 0 := Int.mul_nonpos_of_nonneg_of_nonpos (by omega) hle
    omega

theorem mayB_low (d : Int) (l : List Int) (h : d ≠ 0) (hf : fitsB 1073741824 d l = true) : mayB (d.tdiv (byOf d l)) (l.map fun n => n.tdiv (byOf d l)) = true := by
  have h1 := low_den_pos d l h
  have h2 := gl_low d l h
  unfold fitsB at hf
  simp only [Bool.and_eq_true, decide_eq_true_eq] at hf
  rw [mayB_g _ _ h1 (by rw [withinB_one]; simp; omega) hf.2, h2]
  rfl

theorem fitsB_mul (m c d : Int) (l : List Int) (hc : c ≠ 0) (hd : d ≠ 0) : fitsB m (c * d) (l.map fun n => c * n) = fitsB m d l := by
  unfold fitsB
  rw [byOf_mul c d l hc hd, tdiv_mul_tdiv c _ _ hc, List.map_map]
  have e : ((fun n => n.tdiv (c * byOf d l)) ∘ fun n => c * n) = fun n => n.tdiv (byOf d l) := by
    funext n
    simp only [Function.comp_apply]
    exact tdiv_mul_tdiv c _ _ hc
  rw [e]

/-- A fraction's lowest terms: what is wrong, and the parts. -/
def mk (n d : Int) : Int × Int × Int := if (low d [n]).2 = 0 then (n.tdiv (byOf d [n]), d.tdiv (byOf d [n]), 0) else (0, 0, (low d [n]).2)

theorem low_in (d n : Int) (hd : d ≠ 0) (h1 : -4611686018427387904 ≤ d ∧ d ≤ 4611686018427387904) (h2 : -4611686018427387904 ≤ n ∧ n ≤ 4611686018427387904) :
    low d [n] = if fitsB 1073741824 d [n] then (byOf d [n], 0) else (0, 1) := by
  unfold low
  rw [if_neg, if_neg (by simp)]
  rw [withinB_one, withinB_one]
  simp
  omega

theorem mk_in (d n : Int) (hd : d ≠ 0) (h1 : -4611686018427387904 ≤ d ∧ d ≤ 4611686018427387904) (h2 : -4611686018427387904 ≤ n ∧ n ≤ 4611686018427387904) :
    mk n d = if fitsB 1073741824 d [n] then (n.tdiv (byOf d [n]), d.tdiv (byOf d [n]), 0) else (0, 0, 1) := by
  unfold mk
  rw [low_in d n hd h1 h2]
  cases fitsB 1073741824 d [n] <;> simp

/-- Of numbers that have a fraction: it is theirs, and may be. -/
theorem mk_ok (d n : Int) (hd : d ≠ 0) (h1 : -4611686018427387904 ≤ d ∧ d ≤ 4611686018427387904) (h2 : -4611686018427387904 ≤ n ∧ n ≤ 4611686018427387904) (hf : fitsB 1073741824 d [n] = true) :
    ∃ x y, mk n d = (x, y, 0) ∧ x * d = n * y ∧ 1 ≤ y ∧ y ≤ 1073741824 ∧ -1073741824 ≤ x ∧ x ≤ 1073741824 ∧ mayB y [x] = true := by
  refine ⟨n.tdiv (byOf d [n]), d.tdiv (byOf d [n]), by rw [mk_in d n hd h1 h2, hf]; rfl, ?_, low_den_pos d [n] hd, ?_, ?_⟩
  · have a := Int.mul_tdiv_cancel' (byOf_dvd_d d [n])
    have b := Int.mul_tdiv_cancel' (byOf_dvd_l d [n] n (by simp))
    generalize d.tdiv (byOf d [n]) = y at *
    generalize n.tdiv (byOf d [n]) = x at *
    generalize byOf d [n] = g at *
    rw [← a, ← b, ← Int.mul_assoc, Int.mul_comm x g]
  · unfold fitsB at hf
    simp only [Bool.and_eq_true, decide_eq_true_eq] at hf
    exact hf.1
  · have := mayB_low d [n] hd hf
    unfold fitsB at hf
    simp only [Bool.and_eq_true, decide_eq_true_eq, List.map_cons, List.map_nil, withinB_one] at hf
    exact ⟨hf.2.1, hf.2.2, this⟩

theorem mayB_bd (d : Int) (l : List Int) (h : mayB d l = true) : 1 ≤ d ∧ d ≤ 1073741824 ∧ withinB 1073741824 l = true ∧ gl d l = 1 := by
  unfold mayB at h
  rw [withinB_one] at h
  simp only [Bool.and_eq_true, decide_eq_true_eq, beq_iff_eq] at h
  exact ⟨h.1, h.2.1.2, h.2.2.1, by omega⟩

theorem mul_bd (a b : Int) (m : Int) (ha : -m ≤ a ∧ a ≤ m) (hb : -m ≤ b ∧ b ≤ m) (hm : 0 ≤ m) : -(m * m) ≤ a * b ∧ a * b ≤ m * m := by
  have h : (a * b).natAbs ≤ (m * m).natAbs := by
    rw [Int.natAbs_mul, Int.natAbs_mul]
    exact Nat.mul_le_mul (by omega) (by omega)
  have : 0 ≤ m * m := Int.mul_nonneg hm hm
  omega

theorem gl_natAbs (d : Int) (l : List Int) : gl (d.natAbs : Int) l = gl d l := by simp [gl]

theorem tdiv_byOf (d : Int) (l : List Int) : d.tdiv (byOf d l) = (d.natAbs : Int) / (gl d l : Int) := by
  unfold byOf
  split
  · rw [Int.tdiv_neg, ← Int.neg_tdiv, Int.tdiv_eq_ediv_of_nonneg (by omega)]
    congr 1; omega
  · rw [Int.tdiv_eq_ediv_of_nonneg (by omega)]
    congr 1; omega

/-- Is it a point that may be? -/
def mayPB (d : Int) (l : List Int) : Bool := mayB d l && decide (l.length ≤ 8)

theorem mayPB_low (d : Int) (l : List Int) (h : d ≠ 0) : mayPB (d.tdiv (byOf d l)) (l.map fun n => n.tdiv (byOf d l)) = (decide (l.length ≤ 8) && fitsB 1073741824 d l) := by
  unfold mayPB
  rw [List.length_map, Bool.and_comm]
  congr 1
  cases hf : fitsB 1073741824 d l with
  | true => exact mayB_low d l h hf
  | false =>
    unfold mayB
    unfold fitsB at hf
    have h1 := low_den_pos d l h
    rw [withinB_one]
    rcases Bool.and_eq_false_iff.1 hf with k | k
    · simp only [decide_eq_false_iff_not] at k
      simp [k]
    · simp [k]

/-- The lowest terms of a point: its numbers, what they are divided by, and what is wrong. -/
def pt (l : List Int) (d : Int) : List Int × Int × Int := if (low d l).2 = 0 then (l.map fun n => n.tdiv (byOf d l), d.tdiv (byOf d l), 0) else ([], 0, (low d l).2)

theorem pt_bad (l : List Int) (d : Int) (h : d = 0 ∨ withinB 4611686018427387904 l = false ∨ withinB 4611686018427387904 [d] = false) : pt l d = ([], 0, 3) := by
  have : low d l = (0, 3) := by
    unfold low
    rw [if_pos]
    rcases h with h | h | h
    · exact Or.inl h
    · exact Or.inr (Or.inr h)
    · exact Or.inr (Or.inl h)
  unfold pt; rw [this]; rfl

theorem pt_in (l : List Int) (d : Int) (h0 : d ≠ 0) (h1 : withinB 4611686018427387904 l = true) (h2 : withinB 4611686018427387904 [d] = true) :
    pt l d = if mayPB (d.tdiv (byOf d l)) (l.map fun n => n.tdiv (byOf d l)) then (l.map fun n => n.tdiv (byOf d l), d.tdiv (byOf d l), 0) else ([], 0, 1) := by
  have e : low d l = if 8 < l.length then (0, 1) else if fitsB 1073741824 d l then (byOf d l, 0) else (0, 1) := by
    unfold low
    rw [if_neg (by simp [h0, h1, h2])]
  rw [mayPB_low d l h0]
  unfold pt
  rw [e]
  by_cases hl : 8 < l.length
  · have : ¬ l.length ≤ 8 := by omega
    simp [hl, this]
  · have : l.length ≤ 8 := by omega
    rw [if_neg hl]
    cases fitsB 1073741824 d l <;> simp [this]

theorem pt_one_ok (n d x y : Int) (h : mk n d = (x, y, 0)) : pt [n] d = ([x], y, 0) := by
  unfold mk at h
  unfold pt
  by_cases h0 : (low d [n]).2 = 0
  · rw [if_pos h0] at h ⊢
    simp only [Prod.mk.injEq] at h
    rw [← h.1, ← h.2.1]; rfl
  · rw [if_neg h0] at h
    simp only [Prod.mk.injEq] at h
    exact absurd h.2.2 h0

theorem pt_one_bad (n d x y z : Int) (h : mk n d = (x, y, z)) (hz : z ≠ 0) : pt [n] d = ([], 0, z) ∧ x = 0 ∧ y = 0 := by
  unfold mk at h
  unfold pt
  by_cases h0 : (low d [n]).2 = 0
  · rw [if_pos h0] at h
    simp only [Prod.mk.injEq] at h
    exact absurd h.2.2.symm hz
  · rw [if_neg h0] at h ⊢
    simp only [Prod.mk.injEq] at h
    rw [h.2.2]
    exact ⟨rfl, h.1.symm, h.2.1.symm⟩

end Go.Proofs.YtipcbhodlgoflabGreat.Num

/- Numbers of linear programs: sums of products, which programs may be, which points go. -/
namespace Go.Proofs.YtipcbhodlgoflabGreat
namespace Num

/-- The first k products, together. -/
def dotN (l m : List Int) : Nat → Int
  | 0 => 0
  | k + 1 => dotN l m k + l[k]?.getD 0 * m[k]?.getD 0

theorem mul_bd2 (x y A B : Int) (hx : -A ≤ x ∧ x ≤ A) (hy : -B ≤ y ∧ y ≤ B) : -(A * B) ≤ x * y ∧ x * y ≤ A * B := by
  obtain ⟨hx1, hx2⟩ := hx
  obtain ⟨hy1, hy2⟩ := hy
  have h1 : 0 ≤ (A - x) * (B - y) := Int.mul_nonneg (by omega) (by omega)
  have h2 : 0 ≤ (A + x) * (B + y) := Int.mul_nonneg (by omega) (by omega)
  have h3 : 0 ≤ (A - x) * (B + y) := Int.mul_nonneg (by omega) (by omega)
  have h4 : 0 ≤ (A + x) * (B - y) := Int.mul_nonneg (by omega) (by omega)
  simp only [Int.sub_mul, Int.mul_sub, Int.add_mul, Int.mul_add] at h1 h2 h3 h4
  omega

theorem dotN_bd (l m : List Int) (A B : Int) (hl : ∀ j : Nat, -A ≤ l[j]?.getD 0 ∧ l[j]?.getD 0 ≤ A) (hm : ∀ j : Nat, -B ≤ m[j]?.getD 0 ∧ m[j]?.getD 0 ≤ B) (k : Nat) :
    -(A * B * k) ≤ dotN l m k ∧ dotN l m k ≤ A * B * k := by
  induction k with
  | zero => simp [dotN]
  | succ k ih =>
    have := mul_bd2 _ _ _ _ (hl k) (hm k)
    simp only [dotN, Int.natCast_add, Int.mul_add, Int.natCast_one, Int.mul_one]
    omega

/-- A program: the costs, and the rows, each with what it is at most. -/
structure Lp where
  costs : List Int
  rows : List (List Int × Int)

def rowB (n : Nat) (r : List Int × Int) : Bool := (r.1.length == n) && withinB 12 r.1 && withinB 12 [r.2]

def Lp.may (p : Lp) : Bool := decide (1 ≤ p.costs.length) && decide (p.costs.length ≤ 4) && withinB 400 p.costs && decide (1 ≤ p.rows.length) && decide (p.rows.length ≤ 4) && p.rows.all (rowB p.costs.length)

theorem all_take_succ {α : Type} (f : α → Bool) (l : List α) (k : Nat) (h : k < l.length) (d : α) : (l.take (k + 1)).all f = ((l.take k).all f && f (l[k]?.getD d)) := by
  rw [List.take_add_one, List.all_append, List.getElem?_eq_getElem h]
  simp

theorem all_false_of {α : Type} (f : α → Bool) (l : List α) (k : Nat) (h : k < l.length) (d : α) (hf : f (l[k]?.getD d) = false) : l.all f = false := by
  rw [List.getElem?_eq_getElem h] at hf
  simp only [Option.getD_some] at hf
  rw [List.all_eq_false]
  exact ⟨_, List.getElem_mem h, by simpa using hf⟩

theorem all_full {α : Type} (f : α → Bool) (l : List α) (k : Nat) (h : k = l.length) (hf : (l.take k).all f = true) : l.all f = true := by
  rw [h, List.take_length] at hf; exact hf

/-- Does one of the numbers lie below 0? -/
def anyNeg (l : List Int) : Bool := l.any (fun n => decide (n < 0))

theorem anyNeg_take_succ (l : List Int) (k : Nat) (h : k < l.length) : anyNeg (l.take (k + 1)) = (anyNeg (l.take k) || decide (l[k]?.getD 0 < 0)) := by
  unfold anyNeg
  rw [List.take_add_one, List.any_append, List.getElem?_eq_getElem h]
  simp

theorem anyNeg_of (l : List Int) (k : Nat) (h : k < l.length) (hn : l[k]?.getD 0 < 0) : anyNeg l = true := by
  rw [List.getElem?_eq_getElem h] at hn
  simp only [Option.getD_some] at hn
  unfold anyNeg
  rw [List.any_eq_true]
  exact ⟨_, List.getElem_mem h, by simpa using hn⟩

/-- A row, held against a point. -/
def rowGoes (x : List Int) (d : Int) (r : List Int × Int) : Bool := decide (dotN r.1 x x.length ≤ r.2 * d)

def Lp.fits (p : Lp) (x : List Int) (d : Int) : Bool := p.may && (x.length == p.costs.length) && mayPB d x
def Lp.goes (p : Lp) (x : List Int) (d : Int) : Bool := p.fits x d && !anyNeg x && p.rows.all (rowGoes x d)

theorem Lp.may_of (p : Lp) (h : p.may = true) : (1 ≤ p.costs.length ∧ p.costs.length ≤ 4) ∧ withinB 400 p.costs = true ∧ (1 ≤ p.rows.length ∧ p.rows.length ≤ 4) ∧ p.rows.all (rowB p.costs.length) = true := by
  unfold Lp.may at h
  simp only [Bool.and_eq_true, decide_eq_true_eq] at h
  obtain ⟨⟨⟨⟨⟨h1, h2⟩, h3⟩, h4⟩, h5⟩, h6⟩ := h
  exact ⟨⟨h1, h2⟩, h3, ⟨h4, h5⟩, h6⟩

theorem Lp.may_c1 (p : Lp) (n : Nat) (e : n = p.costs.length) (h : (n : Int) < 1) : p.may = false := by
  unfold Lp.may; have : ¬ 1 ≤ p.costs.length := by omega
  simp [this]
theorem Lp.may_c4 (p : Lp) (n : Nat) (e : n = p.costs.length) (h : 4 < (n : Int)) : p.may = false := by
  unfold Lp.may; have : ¬ p.costs.length ≤ 4 := by omega
  simp [this]
theorem Lp.may_r1 (p : Lp) (n : Nat) (e : n = p.rows.length) (h : (n : Int) < 1) : p.may = false := by
  unfold Lp.may; have : ¬ 1 ≤ p.rows.length := by omega
  simp [this]
theorem Lp.may_r4 (p : Lp) (n : Nat) (e : n = p.rows.length) (h : 4 < (n : Int)) : p.may = false := by
  unfold Lp.may; have : ¬ p.rows.length ≤ 4 := by omega
  simp [this]
theorem Lp.may_w (p : Lp) (h : withinB 400 p.costs = false) : p.may = false := by
  unfold Lp.may; rw [h]; simp
theorem Lp.may_rows (p : Lp) (n m : Nat) (e : n = p.costs.length) (e' : m = p.rows.length) (h1 : 1 ≤ (n : Int)) (h2 : (n : Int) ≤ 4) (h3 : withinB 400 p.costs = true) (h4 : 1 ≤ (m : Int)) (h5 : (m : Int) ≤ 4) : p.may = p.rows.all (rowB n) := by
  unfold Lp.may
  have a1 : 1 ≤ p.costs.length := by omega
  have a2 : p.costs.length ≤ 4 := by omega
  have a3 : 1 ≤ p.rows.length := by omega
  have a4 : p.rows.length ≤ 4 := by omega
  rw [h3, e]
  simp [a1, a2, a3, a4]

theorem rowB_len (n : Nat) (r : List Int) (m : Int) (k : Nat) (e : k = r.length) (h : k ≠ n) : rowB n (r, m) = false := by
  unfold rowB; have : r.length ≠ n := by omega
  simp [this]
theorem rowB_w (n : Nat) (r : List Int) (m : Int) (h : withinB 12 r = false) : rowB n (r, m) = false := by
  unfold rowB; simp [h]
theorem rowB_m (n : Nat) (r : List Int) (m : Int) (h : withinB 12 [m] = false) : rowB n (r, m) = false := by
  unfold rowB; simp [h]
theorem rowB_ok (n : Nat) (r : List Int) (m : Int) (k : Nat) (e : k = r.length) (h : k = n) (h1 : withinB 12 r = true) (h2 : withinB 12 [m] = true) : rowB n (r, m) = true := by
  unfold rowB; have : r.length = n := by omega
  simp [this, h1, h2]

theorem Lp.row_of (p : Lp) (h : p.may = true) (k : Nat) (hk : k < p.rows.length) : (p.rows[k]?.getD ([], 0)).1.length = p.costs.length ∧ withinB 12 (p.rows[k]?.getD ([], 0)).1 = true ∧ (-12 ≤ (p.rows[k]?.getD ([], 0)).2 ∧ (p.rows[k]?.getD ([], 0)).2 ≤ 12) := by
  have := (Lp.may_of p h).2.2.2
  rw [List.all_eq_true] at this
  have := this _ (List.getElem_mem hk)
  rw [List.getElem?_eq_getElem hk]
  simp only [Option.getD_some]
  unfold rowB at this
  rw [withinB_one] at this
  simp only [Bool.and_eq_true, decide_eq_true_eq, beq_iff_eq] at this
  obtain ⟨⟨h1, h2⟩, h3⟩ := this
  exact ⟨h1, h2, h3⟩

theorem Lp.fits_of (p : Lp) (x : List Int) (d : Int) (h : p.fits x d = true) : p.may = true ∧ x.length = p.costs.length ∧ (1 ≤ d ∧ d ≤ 1073741824) ∧ withinB 1073741824 x = true := by
  unfold Lp.fits at h
  simp only [Bool.and_eq_true, beq_iff_eq] at h
  obtain ⟨⟨h1, h2⟩, h3⟩ := h
  unfold mayPB at h3
  simp only [Bool.and_eq_true] at h3
  obtain ⟨a, b, c, _⟩ := mayB_bd _ _ h3.1
  exact ⟨h1, h2, ⟨a, b⟩, c⟩

theorem Lp.goes_no (p : Lp) (x : List Int) (d : Int) (h : p.fits x d = false) : p.goes x d = false := by unfold Lp.goes; simp [h]
theorem Lp.goes_neg (p : Lp) (x : List Int) (d : Int) (h : anyNeg x = true) : p.goes x d = false := by unfold Lp.goes; simp [h]
theorem Lp.goes_rows (p : Lp) (x : List Int) (d : Int) (h : p.fits x d = true) (h1 : anyNeg x = false) : p.goes x d = p.rows.all (rowGoes x d) := by unfold Lp.goes; simp [h, h1]
theorem rowGoes_eq (x : List Int) (d : Int) (r : List Int) (m : Int) (n : Nat) (h : n = x.length) : rowGoes x d (r, m) = decide (dotN r x n ≤ m * d) := by unfold rowGoes; rw [h]

end Num
end Go.Proofs.YtipcbhodlgoflabGreat

/- Numbers of corners: volumes (by the places that are taken) and determinants (by what is left), which are one; what columns have; what they come to. -/
namespace Go.Proofs.YtipcbhodlgoflabGreat
namespace Num

def at2 (ls : List (List Int)) (i j : Nat) : Int := (ls[i]?.getD [])[j]?.getD 0

/-- The sum and the sign, after the first k places. -/
def volSum (f : Nat → Int) (l : List Int) (t : Nat → Bool) : Nat → Int × Int
  | 0 => (0, 1)
  | k + 1 => if t k then volSum f l t k else ((volSum f l t k).1 + (volSum f l t k).2 * l[k]?.getD 0 * f k, -(volSum f l t k).2)

def mark (t : Nat → Bool) (i j : Nat) : Bool := if j = i then true else t j

/-- The volume of lines, without the places that are taken. -/
def vol : List (List Int) → (Nat → Bool) → Int
  | [], _ => 1
  | l :: r, t => (volSum (fun i => vol r (mark t i)) l t l.length).1

def none4 : Nat → Bool := fun _ => false

def del (k : Nat) (l : List Int) : List Int := l.take k ++ l.drop (k + 1)

/-- The determinant of n rows: by the first row's numbers. -/
def detN : Nat → List (List Int) → Int
  | 0, _ => 1
  | n + 1, ls => (volSum (fun k => detN n ((ls.drop 1).map (del k))) (ls[0]?.getD []) none4 (n + 1)).1

/-- Rows, with lines and places turned. -/
def turnL (ls : List (List Int)) : List (List Int) := (List.range ls.length).map fun i => (List.range ls.length).map fun k => at2 ls k i

theorem volSum_sign (f : Nat → Int) (l : List Int) (t : Nat → Bool) (k : Nat) : (volSum f l t k).2 = 1 ∨ (volSum f l t k).2 = -1 := by
  induction k with
  | zero => exact Or.inl rfl
  | succ k ih =>
    unfold volSum
    by_cases h : t k
    · simp only [h, if_true]; exact ih
    · simp only [h]
      rcases ih with e | e
      · right; simp [e]
      · left; simp [e]

theorem volSum_bd (f : Nat → Int) (l : List Int) (t : Nat → Bool) (A F : Int) (hl : ∀ j : Nat, -A ≤ l[j]?.getD 0 ∧ l[j]?.getD 0 ≤ A) (hf : ∀ j : Nat, -F ≤ f j ∧ f j ≤ F) (k : Nat) :
    -(A * F * k) ≤ (volSum f l t k).1 ∧ (volSum f l t k).1 ≤ A * F * k := by
  have h0 : 0 ≤ A * F := Int.mul_nonneg (by have := hl 0; omega) (by have := hf 0; omega)
  induction k with
  | zero => simp [volSum]
  | succ k ih =>
    have hm := mul_bd2 _ _ _ _ (hl k) (hf k)
    simp only [Int.natCast_add, Int.mul_add, Int.natCast_one, Int.mul_one]
    unfold volSum
    by_cases h : t k
    · simp only [h, if_true]; omega
    · simp only [h]
      rcases volSum_sign f l t k with e | e
      · simp [e]; omega
      · simp [e, Int.neg_mul]; omega

/-- All numbers of the lines are at most B either way, and no line is longer than 4. -/
def BdL (B : Int) (ls : List (List Int)) : Prop := ∀ i j : Nat, -B ≤ at2 ls i j ∧ at2 ls i j ≤ B

theorem BdL.tail {B : Int} {l : List Int} {r : List (List Int)} (h : BdL B (l :: r)) : BdL B r := fun i j => by simpa [at2] using h (i + 1) j

theorem BdL.head {B : Int} {l : List Int} {r : List (List Int)} (h : BdL B (l :: r)) (j : Nat) : -B ≤ l[j]?.getD 0 ∧ l[j]?.getD 0 ≤ B := by simpa [at2] using h 0 j

theorem pow_le4 (n : Nat) (h : n ≤ 4) : (1600 : Int) ^ n ≤ 6553600000000 ∧ 1 ≤ (1600 : Int) ^ n := by
  match n, h with
  | 0, _ => decide
  | 1, _ => decide
  | 2, _ => decide
  | 3, _ => decide
  | 4, _ => decide

theorem vol_bd (ls : List (List Int)) (t : Nat → Bool) (h : BdL 400 ls) (h4 : ∀ l ∈ ls, l.length ≤ 4) : -((1600 : Int) ^ ls.length) ≤ vol ls t ∧ vol ls t ≤ (1600 : Int) ^ ls.length := by
  induction ls generalizing t with
  | nil => simp [vol]
  | cons l r ih =>
    have hf : ∀ j : Nat, -((1600 : Int) ^ r.length) ≤ vol r (mark t j) ∧ vol r (mark t j) ≤ (1600 : Int) ^ r.length := fun j => ih _ h.tail (fun x hx => h4 x (List.mem_cons_of_mem _ hx))
    have hs := volSum_bd (fun i => vol r (mark t i)) l t 400 ((1600 : Int) ^ r.length) h.head hf l.length
    have h5 := h4 l List.mem_cons_self
    have hp : 0 ≤ (1600 : Int) ^ r.length := by have := hf 0; omega
    have e : (1600 : Int) ^ (l :: r).length = 400 * (1600 : Int) ^ r.length * 4 := by rw [List.length_cons, Int.pow_succ]; omega
    have hm : 400 * (1600 : Int) ^ r.length * (l.length : Int) ≤ 400 * (1600 : Int) ^ r.length * 4 := Int.mul_le_mul_of_nonneg_left (by omega) (by omega)
    rw [e]
    unfold vol
    omega

theorem vol_bd' (ls : List (List Int)) (t : Nat → Bool) (h : BdL 400 ls) (h4 : ∀ l ∈ ls, l.length ≤ 4) (hn : ls.length ≤ 4) : -6553600000000 ≤ vol ls t ∧ vol ls t ≤ 6553600000000 := by
  have := vol_bd ls t h h4
  have := pow_le4 ls.length hn
  omega

theorem del_getD (k : Nat) (l : List Int) (j : Nat) : (del k l)[j]?.getD 0 = if j < k then l[j]?.getD 0 else l[j + 1]?.getD 0 := by
  unfold del
  by_cases hk : k ≤ l.length
  · by_cases h : j < k
    · rw [List.getElem?_append_left (by simp; omega), List.getElem?_take_of_lt h, if_pos h]
    · rw [List.getElem?_append_right (by simp; omega), if_neg h, List.getElem?_drop, List.length_take, Nat.min_eq_left hk]
      congr 2; omega
  · have e : l.drop (k + 1) = [] := List.drop_of_length_le (by omega)
    have e2 : l.take k = l := List.take_of_length_le (by omega)
    rw [e, e2, List.append_nil]
    by_cases h : j < k
    · rw [if_pos h]
    · rw [if_neg h, List.getElem?_eq_none (by omega), List.getElem?_eq_none (by omega)]

theorem BdL.minor {B : Int} {ls : List (List Int)} (h : BdL B ls) (h0 : 0 ≤ B) (k : Nat) : BdL B ((ls.drop 1).map (del k)) := fun i j => by
  unfold at2
  rw [List.getElem?_map, List.getElem?_drop]
  cases e : ls[1 + i]? with
  | none => simp; omega
  | some l =>
    simp only [Option.map_some, Option.getD_some]
    rw [del_getD]
    have hb : ∀ j : Nat, -B ≤ l[j]?.getD 0 ∧ l[j]?.getD 0 ≤ B := fun j => by simpa [at2, e] using h (1 + i) j
    split
    · exact hb _
    · exact hb _

/-- As many lines as each has numbers. -/
def Sq (n : Nat) (ls : List (List Int)) : Prop := ls.length = n ∧ ∀ l ∈ ls, l.length = n

theorem len1 {α : Type} (l : List α) (h : l.length = 1) : ∃ a, l = [a] := by
  match l, h with
  | [a], _ => exact ⟨a, rfl⟩
theorem len2 {α : Type} (l : List α) (h : l.length = 2) : ∃ a b, l = [a, b] := by
  match l, h with
  | [a, b], _ => exact ⟨a, b, rfl⟩
theorem len3 {α : Type} (l : List α) (h : l.length = 3) : ∃ a b c, l = [a, b, c] := by
  match l, h with
  | [a, b, c], _ => exact ⟨a, b, c, rfl⟩
theorem len4 {α : Type} (l : List α) (h : l.length = 4) : ∃ a b c d, l = [a, b, c, d] := by
  match l, h with
  | [a, b, c, d], _ => exact ⟨a, b, c, d, rfl⟩

theorem vol_det1 (a : Int) : vol [[a]] none4 = detN 1 (turnL [[a]]) := by
  simp [vol, volSum, detN, none4, turnL, List.range_succ, at2]

theorem vol_det2 (a b c d : Int) : vol [[a, b], [c, d]] none4 = detN 2 (turnL [[a, b], [c, d]]) := by
  simp [vol, volSum, detN, none4, mark, turnL, List.range_succ, at2, del]
  grind

theorem vol_det3 (a b c d e f g h i : Int) : vol [[a, b, c], [d, e, f], [g, h, i]] none4 = detN 3 (turnL [[a, b, c], [d, e, f], [g, h, i]]) := by
  simp [vol, volSum, detN, none4, mark, turnL, List.range_succ, at2, del]
  grind

set_option maxHeartbeats 1600000 in
theorem vol_det4 (a b c d e f g h i j k l m n o p : Int) : vol [[a, b, c, d], [e, f, g, h], [i, j, k, l], [m, n, o, p]] none4 = detN 4 (turnL [[a, b, c, d], [e, f, g, h], [i, j, k, l], [m, n, o, p]]) := by
  simp [vol, volSum, detN, none4, mark, turnL, List.range_succ, at2, del]
  grind

/-- The volume of lines is the determinant of what is turned. -/
theorem vol_det (n : Nat) (ls : List (List Int)) (h : Sq n ls) (h1 : 1 ≤ n) (h4 : n ≤ 4) : vol ls none4 = detN n (turnL ls) := by
  obtain ⟨hl, ha⟩ := h
  match n, h1, h4 with
  | 1, _, _ =>
    obtain ⟨x, rfl⟩ := len1 ls hl
    obtain ⟨a, rfl⟩ := len1 x (ha x (by simp))
    exact vol_det1 a
  | 2, _, _ =>
    obtain ⟨x, y, rfl⟩ := len2 ls hl
    obtain ⟨a, b, rfl⟩ := len2 x (ha x (by simp))
    obtain ⟨c, d, rfl⟩ := len2 y (ha y (by simp))
    exact vol_det2 ..
  | 3, _, _ =>
    obtain ⟨x, y, z, rfl⟩ := len3 ls hl
    obtain ⟨a, b, c, rfl⟩ := len3 x (ha x (by simp))
    obtain ⟨d, e, f, rfl⟩ := len3 y (ha y (by simp))
    obtain ⟨g, h, i, rfl⟩ := len3 z (ha z (by simp))
    exact vol_det3 ..
  | 4, _, _ =>
    obtain ⟨x, y, z, u, rfl⟩ := len4 ls hl
    obtain ⟨a, b, c, d, rfl⟩ := len4 x (ha x (by simp))
    obtain ⟨e, f, g, h, rfl⟩ := len4 y (ha y (by simp))
    obtain ⟨i, j, k, l, rfl⟩ := len4 z (ha z (by simp))
    obtain ⟨m, n, o, p, rfl⟩ := len4 u (ha u (by simp))
    exact vol_det4 ..

end Num
end Go.Proofs.YtipcbhodlgoflabGreat
