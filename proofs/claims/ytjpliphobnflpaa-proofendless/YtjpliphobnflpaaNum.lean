/- Plain facts on whole numbers and lists: limits, the greatest common divisor of several numbers, lowest terms. Nothing of the program is spoken of here. -/
namespace Go.Proofs.Ytjpliphobnflpaa.Num

/-- All numbers of a list are from -m to m. -/
def withinB (m : Int) (l : List Int) : Bool := l.all fun n => decide (-m ≤ n) && decide (n ≤ m)

/-- The greatest number that divides d and all of l. -/
def gl (d : Int) (l : List Int) : Nat := l.foldl (fun g n => Nat.gcd g n.natAbs) d.natAbs

theorem withinB_take_succ (m : Int) (l : List Int) (k : Nat) (h : k < l.length) :
    withinB m (l.take (k + 1)) = (withinB m (l.take k) && (decide (-m ≤ l[k]?.getD 0) && decide (l[k]?.getD 0 ≤ m))) := by
  have e : l.take (k + 1) = l.take k ++ [l[k]?.getD 0] := by
    rw [List.take_succ_eq_append_getElem h]; simp [h]
  unfold withinB
  rw [e, List.all_append]; simp

theorem withinB_false_of (m : Int) (l : List Int) (k : Nat) (h : k < l.length) (hb : l[k]?.getD 0 < -m ∨ m < l[k]?.getD 0) : withinB m l = false := by
  unfold withinB
  rw [List.all_eq_false]
  refine ⟨l[k]?.getD 0, ?_, ?_⟩
  · simp [h]
  · simp; omega

theorem withinB_iff (m : Int) (l : List Int) (h : withinB m l = true) (h0 : 0 ≤ m) (k : Nat) : -m ≤ l[k]?.getD 0 ∧ l[k]?.getD 0 ≤ m := by
  by_cases hk : k < l.length
  · unfold withinB at h
    rw [List.all_eq_true] at h
    have := h (l[k]?.getD 0) (by simp [hk])
    simpa using this
  · simp [hk]; omega

theorem gl_take_succ (d : Int) (l : List Int) (k : Nat) (h : k < l.length) :
    gl d (l.take (k + 1)) = Nat.gcd (gl d (l.take k)) (l[k]?.getD 0).natAbs := by
  have e : l.take (k + 1) = l.take k ++ [l[k]?.getD 0] := by
    rw [List.take_succ_eq_append_getElem h]; simp [h]
  unfold gl
  rw [e, List.foldl_append]; rfl

theorem euclid (c n : Int) : Nat.gcd n.natAbs (c.tmod n).natAbs = Nat.gcd c.natAbs n.natAbs := by
  have e : (c.tmod n).natAbs = c.natAbs % n.natAbs := Int.natAbs_tmod _ _
  rw [e, Nat.gcd_comm n.natAbs, ← Nat.gcd_rec]
  exact Nat.gcd_comm _ _

theorem tmod_bd (c n : Int) (h : n ≠ 0) : (c.tmod n).natAbs < n.natAbs := by
  rw [Int.natAbs_tmod]; exact Nat.mod_lt _ (by omega)

/-- What is divided out of den and of all of l, so that den comes out above 0. -/
def byOf (d : Int) (l : List Int) : Int := if d < 0 then -(gl d l : Int) else (gl d l : Int)

/-- Does d, once divided, and each of l, once divided, keep within m? -/
def fitsB (m : Int) (d : Int) (l : List Int) : Bool := decide (d.tdiv (byOf d l) ≤ m) && withinB m (l.map fun n => n.tdiv (byOf d l))

/-- What is divided out, and what is wrong. -/
def low (d : Int) (l : List Int) : Int × Int :=
  if d = 0 ∨ withinB 4611686018427387904 [d] = false ∨ withinB 4611686018427387904 l = false then (0, 3)
  else if 8 < l.length then (0, 1)
  else if fitsB 1073741824 d l then (byOf d l, 0) else (0, 1)

theorem withinB_one (m d : Int) : withinB m [d] = (decide (-m ≤ d) && decide (d ≤ m)) := by simp [withinB]

theorem gl_dvd_d (d : Int) (l : List Int) : gl d l ∣ d.natAbs := by
  unfold gl
  suffices h : ∀ (l : List Int) (g : Nat), l.foldl (fun g n => Nat.gcd g n.natAbs) g ∣ g from h l _
  intro l
  induction l with
  | nil => intro g; exact Nat.dvd_refl _
  | cons x t ih => intro g; exact Nat.dvd_trans (ih _) (Nat.gcd_dvd_left _ _)

theorem gl_dvd_l (d : Int) (l : List Int) (n : Int) (h : n ∈ l) : gl d l ∣ n.natAbs := by
  unfold gl
  suffices k : ∀ (l : List Int) (g : Nat), n ∈ l → l.foldl (fun g n => Nat.gcd g n.natAbs) g ∣ n.natAbs from k l _ h
  intro l
  induction l with
  | nil => intro g hn; simp at hn
  | cons x t ih =>
    intro g hn
    rcases List.mem_cons.1 hn with rfl | hn
    · refine Nat.dvd_trans ?_ (Nat.gcd_dvd_right g n.natAbs)
      have := gl_dvd_d (Nat.gcd g n.natAbs : Nat) t
      simpa [gl] using this
    · exact ih _ hn

theorem gl_pos (d : Int) (l : List Int) (h : d ≠ 0) : 0 < gl d l := Nat.pos_of_dvd_of_pos (gl_dvd_d d l) (by omega)
theorem gl_le (d : Int) (l : List Int) (h : d ≠ 0) : gl d l ≤ d.natAbs := Nat.le_of_dvd (by omega) (gl_dvd_d d l)

theorem low_of (d : Int) (l : List Int) (y : Int) (hy : byOf d l = y) (hd0 : ¬ d = 0) (hd1 : withinB 4611686018427387904 [d] = true) (hl1 : withinB 4611686018427387904 l = true) (hn : ¬ 8 < l.length) :
    (1073741824 < d.tdiv y → low d l = (0, 1)) ∧ (d.tdiv y ≤ 1073741824 → withinB 1073741824 (l.map fun n => n.tdiv y) = false → low d l = (0, 1)) ∧
    (d.tdiv y ≤ 1073741824 → withinB 1073741824 (l.map fun n => n.tdiv y) = true → low d l = (y, 0)) := by
  unfold low fitsB
  rw [hy]
  refine ⟨fun h => ?_, fun h1 h2 => ?_, fun h1 h2 => ?_⟩
  · have : ¬ d.tdiv y ≤ 1073741824 := by omega
    simp [hd0, hd1, hl1, hn, this]
  · simp [hd0, hd1, hl1, hn, h2]
  · simp [hd0, hd1, hl1, hn, h1, h2]

theorem map_getD (f : Int → Int) (h0 : f 0 = 0) (l : List Int) (k : Nat) : (l.map f)[k]?.getD 0 = f (l[k]?.getD 0) := by
  rw [List.getElem?_map]
  cases l[k]? <;> simp [h0]

theorem tdiv_abs (x y : Int) : (x.tdiv y).natAbs ≤ x.natAbs := by
  rw [Int.natAbs_tdiv]; exact Nat.div_le_self _ _

/-- What is divided out where nothing is wrong: not 0, and within limits. -/
theorem low_ok (d : Int) (l : List Int) (h : (low d l).2 = 0) : (low d l).1 = byOf d l ∧ d ≠ 0 ∧ (-4611686018427387904 ≤ d ∧ d ≤ 4611686018427387904) ∧ withinB 4611686018427387904 l = true ∧ l.length ≤ 8 ∧ fitsB 1073741824 d l = true := by
  unfold low at *
  split at h
  · simp at h
  · rename_i hb
    simp only [not_or, Bool.not_eq_false] at hb
    split at h
    · simp at h
    · rename_i hl
      split at h
      · rename_i hf
        rw [if_pos hf]
        have := withinB_one 4611686018427387904 d
        rw [hb.2.1] at this
        simp at this
        rw [if_neg (by simp [hb]), if_neg hl]
        exact ⟨rfl, hb.1, by omega, hb.2.2, by omega, hf⟩
      · simp at h

theorem low_zero (d : Int) (l : List Int) (h : (low d l).2 ≠ 0) : (low d l).1 = 0 := by
  unfold low at *
  split
  · rfl
  · split
    · rfl
    · split
      · rename_i h1 h2 h3
        simp [h1, h2, h3] at h
      · rfl

theorem byOf_bd (d : Int) (l : List Int) (h0 : d ≠ 0) (h1 : -4611686018427387904 ≤ d) (h2 : d ≤ 4611686018427387904) : byOf d l ≠ 0 ∧ -4611686018427387904 ≤ byOf d l ∧ byOf d l ≤ 4611686018427387904 := by
  have a := gl_pos d l h0
  have b := gl_le d l h0
  unfold byOf
  split <;> omega

/-- May d, and all of l, be the parts of one fraction or point (however many l has)? -/
def mayB (d : Int) (l : List Int) : Bool := decide (1 ≤ d) && (withinB 1073741824 [d] && (withinB 1073741824 l && ((gl d l : Int) == 1)))

theorem mayB_lo (d : Int) (l : List Int) (h : ¬ 1 ≤ d) : mayB d l = false := by simp [mayB, h]
theorem mayB_d (d : Int) (l : List Int) (h : withinB 1073741824 [d] = false) : mayB d l = false := by simp [mayB, h]
theorem mayB_l (d : Int) (l : List Int) (h : withinB 1073741824 l = false) : mayB d l = false := by simp [mayB, h]
theorem mayB_g (d : Int) (l : List Int) (h0 : 1 ≤ d) (h1 : withinB 1073741824 [d] = true) (h2 : withinB 1073741824 l = true) : mayB d l = ((gl d l : Int) == 1) := by simp [mayB, h0, h1, h2]

end Go.Proofs.Ytjpliphobnflpaa.Num
