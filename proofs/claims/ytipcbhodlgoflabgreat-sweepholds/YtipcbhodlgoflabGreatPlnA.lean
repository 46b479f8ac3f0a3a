/- What columns come to, in plain numbers: Cramer's rule for up to four lines. -/
import Derived.Test.YtipcbhodlgoflabGreatCornRC
import Derived.Test.YtipcbhodlgoflabGreatPrfN
import Derived.Test.YtipcbhodlgoflabGreatCornL
namespace Go.Proofs.YtipcbhodlgoflabGreat
namespace Num

/-- How often the lines are taken, each times its number at place i, comes to what is wanted there, as often as their volume says. -/
def crm (ls : List (List Int)) (want : List Int) (n i : Nat) : Int := dotN (sharesL ls want n) ((List.range n).map fun k => at2 ls k i) n

/-- The numbers of a, each times the price at its place. -/
def prc (ls : List (List Int)) (w a : List Int) (n : Nat) : Int := dotN a (sharesL (turnL ls) w n) n

theorem cr1 (a x : Int) : crm [[a]] [x] 1 0 = vol [[a]] none4 * x := by
  simp [crm, dotN, sharesL, List.range_succ, vol, volSum, none4, at2]
  grind

theorem cr2 (a b c d x y : Int) (i : Nat) (hi : i < 2) : crm [[a, b], [c, d]] [x, y] 2 i = vol [[a, b], [c, d]] none4 * [x, y][i]?.getD 0 := by
  match i, hi with
  | 0, _ => simp [crm, dotN, sharesL, List.range_succ, vol, volSum, none4, mark, at2]; grind
  | 1, _ => simp [crm, dotN, sharesL, List.range_succ, vol, volSum, none4, mark, at2]; grind

theorem cr3 (a b c d e f g h j x y z : Int) (i : Nat) (hi : i < 3) : crm [[a, b, c], [d, e, f], [g, h, j]] [x, y, z] 3 i = vol [[a, b, c], [d, e, f], [g, h, j]] none4 * [x, y, z][i]?.getD 0 := by
  match i, hi with
  | 0, _ => simp [crm, dotN, sharesL, List.range_succ, vol, volSum, none4, mark, at2]; grind
  | 1, _ => simp [crm, dotN, sharesL, List.range_succ, vol, volSum, none4, mark, at2]; grind
  | 2, _ => simp [crm, dotN, sharesL, List.range_succ, vol, volSum, none4, mark, at2]; grind

set_option maxHeartbeats 4000000 in
theorem cr4 (a b c d e f g h j k l m n o p q x y z u : Int) (i : Nat) (hi : i < 4) : crm [[a, b, c, d], [e, f, g, h], [j, k, l, m], [n, o, p, q]] [x, y, z, u] 4 i = vol [[a, b, c, d], [e, f, g, h], [j, k, l, m], [n, o, p, q]] none4 * [x, y, z, u][i]?.getD 0 := by
  match i, hi with
  | 0, _ => simp [crm, dotN, sharesL, List.range_succ, vol, volSum, none4, mark, at2]; grind
  | 1, _ => simp [crm, dotN, sharesL, List.range_succ, vol, volSum, none4, mark, at2]; grind
  | 2, _ => simp [crm, dotN, sharesL, List.range_succ, vol, volSum, none4, mark, at2]; grind
  | 3, _ => simp [crm, dotN, sharesL, List.range_succ, vol, volSum, none4, mark, at2]; grind

theorem cramer (n : Nat) (ls : List (List Int)) (want : List Int) (h : Sq n ls) (hw : want.length = n) (h1 : 1 ≤ n) (h4 : n ≤ 4) (i : Nat) (hi : i < n) : crm ls want n i = vol ls none4 * want[i]?.getD 0 := by
  obtain ⟨hl, ha⟩ := h
  match n, h1, h4 with
  | 1, _, _ =>
    obtain ⟨x, rfl⟩ := len1 ls hl
    obtain ⟨a, rfl⟩ := len1 x (ha x (by simp))
    obtain ⟨w, rfl⟩ := len1 want hw
    obtain rfl : i = 0 := by omega
    exact cr1 a w
  | 2, _, _ =>
    obtain ⟨x, y, rfl⟩ := len2 ls hl
    obtain ⟨a, b, rfl⟩ := len2 x (ha x (by simp))
    obtain ⟨c, d, rfl⟩ := len2 y (ha y (by simp))
    obtain ⟨w, w', rfl⟩ := len2 want hw
    exact cr2 _ _ _ _ _ _ i hi
  | 3, _, _ =>
    obtain ⟨x, y, z, rfl⟩ := len3 ls hl
    obtain ⟨a, b, c, rfl⟩ := len3 x (ha x (by simp))
    obtain ⟨d, e, f, rfl⟩ := len3 y (ha y (by simp))
    obtain ⟨g, h, j, rfl⟩ := len3 z (ha z (by simp))
    obtain ⟨w, w', w'', rfl⟩ := len3 want hw
    exact cr3 _ _ _ _ _ _ _ _ _ _ _ _ i hi
  | 4, _, _ =>
    obtain ⟨x, y, z, u, rfl⟩ := len4 ls hl
    obtain ⟨a, b, c, d, rfl⟩ := len4 x (ha x (by simp))
    obtain ⟨e, f, g, h, rfl⟩ := len4 y (ha y (by simp))
    obtain ⟨j, k, l, m, rfl⟩ := len4 z (ha z (by simp))
    obtain ⟨n, o, p, q, rfl⟩ := len4 u (ha u (by simp))
    obtain ⟨w, w', w'', w3, rfl⟩ := len4 want hw
    exact cr4 _ _ _ _ _ _ _ _ _ _ _ _ _ _ _ _ _ _ _ _ i hi

end Num
end Go.Proofs.YtipcbhodlgoflabGreat

/- What columns come to, in plain numbers: prices, and how great all that is. -/
namespace Go.Proofs.YtipcbhodlgoflabGreat
namespace Num

theorem pr1 (a w x : Int) : prc [[a]] [w] [x] 1 = dotN [w] (sharesL [[a]] [x] 1) 1 := by
  simp [prc, dotN, sharesL, turnL, List.range_succ, vol, volSum, none4]
  grind

theorem pr2 (a b c d w v x y : Int) : prc [[a, b], [c, d]] [w, v] [x, y] 2 = dotN [w, v] (sharesL [[a, b], [c, d]] [x, y] 2) 2 := by
  simp [prc, dotN, sharesL, turnL, List.range_succ, vol, volSum, none4, mark, at2]
  grind

theorem pr3 (a b c d e f g h j w v u x y z : Int) : prc [[a, b, c], [d, e, f], [g, h, j]] [w, v, u] [x, y, z] 3 = dotN [w, v, u] (sharesL [[a, b, c], [d, e, f], [g, h, j]] [x, y, z] 3) 3 := by
  simp [prc, dotN, sharesL, turnL, List.range_succ, vol, volSum, none4, mark, at2]
  grind

set_option maxHeartbeats 4000000 in
theorem pr4 (a b c d e f g h j k l m n o p q w v u t x y z s : Int) : prc [[a, b, c, d], [e, f, g, h], [j, k, l, m], [n, o, p, q]] [w, v, u, t] [x, y, z, s] 4 = dotN [w, v, u, t] (sharesL [[a, b, c, d], [e, f, g, h], [j, k, l, m], [n, o, p, q]] [x, y, z, s] 4) 4 := by
  simp [prc, dotN, sharesL, turnL, List.range_succ, vol, volSum, none4, mark, at2]
  grind

theorem vt2 (a b c d : Int) : vol (turnL [[a, b], [c, d]]) none4 = vol [[a, b], [c, d]] none4 := by
  simp [turnL, List.range_succ, vol, volSum, none4, mark, at2]
  grind

theorem vt3 (a b c d e f g h j : Int) : vol (turnL [[a, b, c], [d, e, f], [g, h, j]]) none4 = vol [[a, b, c], [d, e, f], [g, h, j]] none4 := by
  simp [turnL, List.range_succ, vol, volSum, none4, mark, at2]
  grind

set_option maxHeartbeats 4000000 in
theorem vt4 (a b c d e f g h j k l m n o p q : Int) : vol (turnL [[a, b, c, d], [e, f, g, h], [j, k, l, m], [n, o, p, q]]) none4 = vol [[a, b, c, d], [e, f, g, h], [j, k, l, m], [n, o, p, q]] none4 := by
  simp [turnL, List.range_succ, vol, volSum, none4, mark, at2]
  grind

theorem prices (n : Nat) (ls : List (List Int)) (w vv : List Int) (h : Sq n ls) (hw : w.length = n) (ha' : vv.length = n) (h1 : 1 ≤ n) (h4 : n ≤ 4) : dotN vv (sharesL (turnL ls) w n) n = dotN w (sharesL ls vv n) n := by
  obtain ⟨hl, ha⟩ := h
  match n, h1, h4 with
  | 1, _, _ =>
    obtain ⟨x, rfl⟩ := len1 ls hl
    obtain ⟨b, rfl⟩ := len1 x (ha x (by simp))
    obtain ⟨w, rfl⟩ := len1 w hw
    obtain ⟨a, rfl⟩ := len1 vv ha'
    exact pr1 _ _ _
  | 2, _, _ =>
    obtain ⟨x, y, rfl⟩ := len2 ls hl
    obtain ⟨a, b, rfl⟩ := len2 x (ha x (by simp))
    obtain ⟨c, d, rfl⟩ := len2 y (ha y (by simp))
    obtain ⟨w, w', rfl⟩ := len2 w hw
    obtain ⟨a, a', rfl⟩ := len2 vv ha'
    exact pr2 _ _ _ _ _ _ _ _
  | 3, _, _ =>
    obtain ⟨x, y, z, rfl⟩ := len3 ls hl
    obtain ⟨a, b, c, rfl⟩ := len3 x (ha x (by simp))
    obtain ⟨d, e, f, rfl⟩ := len3 y (ha y (by simp))
    obtain ⟨g, h, j, rfl⟩ := len3 z (ha z (by simp))
    obtain ⟨w, w', w'', rfl⟩ := len3 w hw
    obtain ⟨a, a', a'', rfl⟩ := len3 vv ha'
    exact pr3 _ _ _ _ _ _ _ _ _ _ _ _ _ _ _
  | 4, _, _ =>
    obtain ⟨x, y, z, u, rfl⟩ := len4 ls hl
    obtain ⟨a, b, c, d, rfl⟩ := len4 x (ha x (by simp))
    obtain ⟨e, f, g, h, rfl⟩ := len4 y (ha y (by simp))
    obtain ⟨j, k, l, m, rfl⟩ := len4 z (ha z (by simp))
    obtain ⟨n, o, p, q, rfl⟩ := len4 u (ha u (by simp))
    obtain ⟨w, w', w'', w3, rfl⟩ := len4 w hw
    obtain ⟨a, a', a'', a3, rfl⟩ := len4 vv ha'
    exact pr4 _ _ _ _ _ _ _ _ _ _ _ _ _ _ _ _ _ _ _ _ _ _ _ _

theorem vol_turn (n : Nat) (ls : List (List Int)) (h : Sq n ls) (h1 : 1 ≤ n) (h4 : n ≤ 4) : vol (turnL ls) none4 = vol ls none4 := by
  obtain ⟨hl, ha⟩ := h
  match n, h1, h4 with
  | 1, _, _ =>
    obtain ⟨x, rfl⟩ := len1 ls hl
    obtain ⟨b, rfl⟩ := len1 x (ha x (by simp))
    simp [turnL, List.range_succ, at2]
  | 2, _, _ =>
    obtain ⟨x, y, rfl⟩ := len2 ls hl
    obtain ⟨a, b, rfl⟩ := len2 x (ha x (by simp))
    obtain ⟨c, d, rfl⟩ := len2 y (ha y (by simp))
    exact vt2 _ _ _ _
  | 3, _, _ =>
    obtain ⟨x, y, z, rfl⟩ := len3 ls hl
    obtain ⟨a, b, c, rfl⟩ := len3 x (ha x (by simp))
    obtain ⟨d, e, f, rfl⟩ := len3 y (ha y (by simp))
    obtain ⟨g, h, j, rfl⟩ := len3 z (ha z (by simp))
    exact vt3 _ _ _ _ _ _ _ _ _
  | 4, _, _ =>
    obtain ⟨x, y, z, u, rfl⟩ := len4 ls hl
    obtain ⟨a, b, c, d, rfl⟩ := len4 x (ha x (by simp))
    obtain ⟨e, f, g, h, rfl⟩ := len4 y (ha y (by simp))
    obtain ⟨j, k, l, m, rfl⟩ := len4 z (ha z (by simp))
    obtain ⟨n, o, p, q, rfl⟩ := len4 u (ha u (by simp))
    exact vt4 _ _ _ _ _ _ _ _ _ _ _ _ _ _ _ _

/-- How great a determinant of numbers up to 12 can be. -/
def bd12 : Nat → Int
  | 0 => 1
  | n + 1 => 12 * bd12 n * (n + 1)

theorem detN_bd12 (n : Nat) (ls : List (List Int)) (h : BdL 12 ls) : -(bd12 n) ≤ detN n ls ∧ detN n ls ≤ bd12 n := by
  induction n generalizing ls with
  | zero => simp [detN, bd12]
  | succ n ih =>
    have hf : ∀ k : Nat, -(bd12 n) ≤ detN n ((ls.drop 1).map (del k)) ∧ detN n ((ls.drop 1).map (del k)) ≤ bd12 n := fun k => ih _ (h.minor (by omega) k)
    have hs := volSum_bd (fun k => detN n ((ls.drop 1).map (del k))) (ls[0]?.getD []) none4 12 (bd12 n) (h 0) hf (n + 1)
    unfold detN bd12
    simpa using hs

theorem vol_bd12 (n : Nat) (ls : List (List Int)) (h : Sq n ls) (h1 : 1 ≤ n) (h4 : n ≤ 4) (hb : BdL 12 ls) : -497664 ≤ vol ls none4 ∧ vol ls none4 ≤ 497664 := by
  have := detN_bd12 n (turnL ls) (turn_bd _ _ hb)
  rw [vol_det n ls h h1 h4]
  match n, h1, h4 with
  | 1, _, _ => simp [bd12] at this; omega
  | 2, _, _ => simp [bd12] at this; omega
  | 3, _, _ => simp [bd12] at this; omega
  | 4, _, _ => simp [bd12] at this; omega

theorem shares_bd12 (n : Nat) (ls : List (List Int)) (a : List Int) (h : Sq n ls) (ha : a.length = n) (h1 : 1 ≤ n) (h4 : n ≤ 4) (hb : BdL 12 ls) (hab : ∀ j : Nat, -12 ≤ a[j]?.getD 0 ∧ a[j]?.getD 0 ≤ 12) :
    ∀ j : Nat, -497664 ≤ (sharesL ls a n)[j]?.getD 0 ∧ (sharesL ls a n)[j]?.getD 0 ≤ 497664 := by
  intro j
  unfold sharesL
  rw [range_getD]
  split
  · exact vol_bd12 n _ (set_sq ls n j a h ha) h1 h4 (hb.set j a hab)
  · omega

end Num
end Go.Proofs.YtipcbhodlgoflabGreat

/- What a corner comes to, in plain numbers. -/
namespace Go.Proofs.YtipcbhodlgoflabGreat
namespace Num

/-- Numbers that are not too great have a point: each is its own, times one number. -/
theorem pt_ok (l : List Int) (d : Int) (hd : d ≠ 0) (hdb : -1073741824 ≤ d ∧ d ≤ 1073741824) (hl : ∀ j : Nat, -1073741824 ≤ l[j]?.getD 0 ∧ l[j]?.getD 0 ≤ 1073741824) (h8 : l.length ≤ 8) :
    ∃ g, g ≠ 0 ∧ (pt l d).2.2 = 0 ∧ (pt l d).1.length = l.length ∧ (∀ j : Nat, l[j]?.getD 0 = g * (pt l d).1[j]?.getD 0) ∧ d = g * (pt l d).2.1 ∧ 1 ≤ (pt l d).2.1 ∧ (pt l d).2.1.natAbs ≤ d.natAbs ∧ (∀ j : Nat, ((pt l d).1[j]?.getD 0).natAbs ≤ (l[j]?.getD 0).natAbs) := by
  have hw : withinB 1073741824 l = true := by
    unfold withinB
    rw [List.all_eq_true]
    intro n hn
    obtain ⟨j, hj, rfl⟩ := List.getElem_of_mem hn
    have := hl j
    rw [List.getElem?_eq_getElem hj, Option.getD_some] at this
    simpa using this
  have hw2 : withinB 4611686018427387904 l = true := by
    unfold withinB at hw ⊢
    rw [List.all_eq_true] at hw ⊢
    intro n hn
    have := hw n hn
    simp only [Bool.and_eq_true, decide_eq_true_eq] at this ⊢
    omega
  have hf : fitsB 1073741824 d l = true := by
    unfold fitsB
    have t1 := tdiv_abs d (byOf d l)
    simp only [Bool.and_eq_true, decide_eq_true_eq]
    refine ⟨by omega, ?_⟩
    unfold withinB
    rw [List.all_eq_true]
    intro n hn
    obtain ⟨m, hm, rfl⟩ := List.mem_map.1 hn
    unfold withinB at hw
    rw [List.all_eq_true] at hw
    have h1 := hw m hm
    have h2 := tdiv_abs m (byOf d l)
    simp only [Bool.and_eq_true, decide_eq_true_eq] at h1 ⊢
    omega
  have hlow : (low d l).2 = 0 := by
    unfold low
    rw [if_neg, if_neg (by omega), if_pos hf]
    rw [withinB_one]
    simp [hd, hw2]
    omega
  have hpt : pt l d = (l.map fun n => n.tdiv (byOf d l), d.tdiv (byOf d l), 0) := by unfold pt; rw [if_pos hlow]
  rw [hpt]
  refine ⟨byOf d l, (byOf_bd d l hd (by omega) (by omega)).1, rfl, by simp, fun j => ?_, (Int.mul_tdiv_cancel' (byOf_dvd_d d l)).symm, low_den_pos d l hd, tdiv_abs _ _, fun j => ?_⟩
  · rw [map_getD _ (by simp)]
    by_cases hj : j < l.length
    · rw [List.getElem?_eq_getElem hj, Option.getD_some]
      exact (Int.mul_tdiv_cancel' (byOf_dvd_l d l _ (List.getElem_mem hj))).symm
    · rw [List.getElem?_eq_none (by omega)]; simp
  · rw [map_getD _ (by simp)]
    exact tdiv_abs _ _

theorem atF_lt (at' : List Int) (N m : Nat) (h : rightB at' m N = true) (k : Nat) (hk : k < m) : atF at' k < N := by
  have := (right_all at' m N h).2 k hk
  unfold atF
  omega

theorem atF_rise (at' : List Int) (N m : Nat) (h : rightB at' m N = true) (k : Nat) (hk : k < m) : ∀ i, i < k → atF at' i < atF at' k := by
  unfold rightB at h
  simp only [Bool.and_eq_true, beq_iff_eq] at h
  induction k with
  | zero => intro i hi; omega
  | succ k ih =>
    intro i hi
    have h1 := okN_all at' N m h.2 (k + 1) hk
    have h2 := okN_all at' N m h.2 k (by omega)
    have h3 := leastN_nonneg at' N m h.2 k (by omega)
    have e : leastN at' (k + 1) = at'[k]?.getD 0 + 1 := rfl
    have : atF at' k < atF at' (k + 1) := by unfold atF; omega
    by_cases hik : i = k
    · subst hik; exact this
    · have := ih (by omega) i (by omega)
      omega

theorem spread_len (N : Nat) (at' s : List Int) (k : Nat) : (spreadN N at' s k).length = N := by
  induction k with
  | zero => simp [spreadN]
  | succ k ih => unfold spreadN; simpa using ih

theorem spread_not (N : Nat) (at' s : List Int) (k : Nat) (j : Nat) (h : ∀ i, i < k → atF at' i ≠ j) : (spreadN N at' s k)[j]?.getD 0 = 0 := by
  induction k with
  | zero => unfold spreadN; rw [List.getElem?_replicate]; split <;> simp
  | succ k ih =>
    unfold spreadN
    rw [List.getElem?_set, if_neg (h k (by omega))]
    exact ih fun i hi => h i (by omega)

theorem sum_set (f : Nat → Int) (l : List Int) (q : Nat) (v : Int) (n : Nat) (hq : q < l.length) (h0 : l[q]?.getD 0 = 0) : sumN (fun j => f j * (l.set q v)[j]?.getD 0) n = sumN (fun j => f j * l[j]?.getD 0) n + (if q < n then f q * v else 0) := by
  induction n with
  | zero => simp [sumN]
  | succ n ih =>
    unfold sumN
    rw [ih]
    by_cases hqn : q = n
    · subst hqn
      rw [if_neg (by omega), if_pos (by omega), List.getElem?_set, if_pos rfl, if_pos hq, Option.getD_some, h0]
      omega
    · rw [List.getElem?_set, if_neg hqn]
      by_cases h1 : q < n
      · rw [if_pos h1, if_pos (by omega)]; omega
      · rw [if_neg h1, if_neg (by omega)]; omega

theorem spread_sum (f : Nat → Int) (N : Nat) (at' s : List Int) (m : Nat) (hr : rightB at' m N = true) : ∀ k, k ≤ m → sumN (fun j => f j * (spreadN N at' s k)[j]?.getD 0) N = sumN (fun i => f (atF at' i) * s[i]?.getD 0) k := by
  intro k hk
  induction k with
  | zero =>
    refine Eq.trans (sumN_congr _ (fun _ => 0) _ fun j _ => ?_) (sumN_zero _)
    rw [spread_not N at' s 0 j fun i hi => absurd hi (Nat.not_lt_zero _)]; simp
  | succ k ih =>
    have hlt := atF_lt at' N m hr k (by omega)
    have e : sumN (fun j => f j * (spreadN N at' s (k + 1))[j]?.getD 0) N = sumN (fun j => f j * ((spreadN N at' s k).set (atF at' k) (s[k]?.getD 0))[j]?.getD 0) N := rfl
    rw [e, sum_set f _ _ _ _ (by rw [spread_len]; exact hlt) (spread_not N at' s k _ fun i hi => by have := atF_rise at' N m hr k (by omega) i hi; omega), if_pos hlt, ih (by omega)]
    rfl

theorem sumN_split (f : Nat → Int) (a b : Nat) : sumN f (a + b) = sumN f a + sumN (fun i => f (a + i)) b := by
  induction b with
  | zero => simp [sumN]
  | succ b ih =>
    show sumN f (a + b) + f (a + b) = sumN f a + (sumN (fun i => f (a + i)) b + f (a + b))
    rw [ih]; omega

theorem sum_one (g : Nat → Int) (i n : Nat) (hi : i < n) : sumN (fun j => (if j = i then 1 else 0) * g j) n = g i := by
  induction n with
  | zero => omega
  | succ n ih =>
    unfold sumN
    by_cases h : i = n
    · subst h
      rw [if_pos rfl, Int.one_mul]
      have : sumN (fun j => (if j = i then 1 else 0) * g j) i = 0 := Eq.trans (sumN_congr _ (fun _ => 0) _ fun j hj => by rw [if_neg (by omega)]; simp) (sumN_zero _)
      omega
    · rw [ih (by omega), if_neg (by omega)]; omega

theorem getD_lt0 (l : List Int) (n j : Nat) (h : l.length = n) (hj : ¬ j < n) : l[j]?.getD 0 = 0 := by rw [List.getElem?_eq_none (by omega)]; rfl

theorem chosen_bd12 (p : Lp) (at' : List Int) (m : Nat) (hmay : p.may = true) : BdL 12 (chosenL p at' m) := by
  intro i j
  unfold chosenL
  rw [at2_range]
  split
  · rw [range_getD]
    split
    · exact hasF_bd p hmay (atF at' i) j
    · omega
  · omega

/-- What all columns are, each times what it has in row i, comes to the row's most. -/
theorem comes_row (p : Lp) (at' : List Int) (m n : Nat) (hmay : p.may = true) (hm : m = p.rows.length) (hn : n = p.costs.length) (hr : rightB at' m (n + m) = true) (i : Nat) (hi : i < m) : dotN (p.rows[i]?.getD ([], 0)).1 (xL p at' m (n + m)) n + (xL p at' m (n + m))[n + i]?.getD 0 = mostF p i * denL p at' m := by
  have h1 : 1 ≤ m := by have := (p.may_of hmay).2.2.1.1; omega
  have h4 : m ≤ 4 := by have := (p.may_of hmay).2.2.1.2; omega
  have hc := cramer m (chosenL p at' m) (mostsL p m) (chosen_sq p at' m) (by simp [mostsL]) h1 h4 i hi
  have e0 : (mostsL p m)[i]?.getD 0 = mostF p i := by unfold mostsL; rw [range_getD, if_pos hi]
  rw [e0] at hc
  unfold crm at hc
  rw [dotN_sum] at hc
  have hs := spread_sum (fun j => hasF p j i) (n + m) at' (sharesL (chosenL p at' m) (mostsL p m) m) m hr m (Nat.le_refl _)
  have e1 : sumN (fun k => (sharesL (chosenL p at' m) (mostsL p m) m)[k]?.getD 0 * ((List.range m).map fun k => at2 (chosenL p at' m) k i)[k]?.getD 0) m = sumN (fun k => hasF p (atF at' k) i * (sharesL (chosenL p at' m) (mostsL p m) m)[k]?.getD 0) m := by
    refine sumN_congr _ _ _ fun k hk => ?_
    rw [range_getD, if_pos hk, Int.mul_comm]
    congr 1
    unfold chosenL
    exact at2_grid (fun k i => hasF p (atF at' k) i) m k i hk hi
  rw [e1, ← hs, sumN_split] at hc
  have e2 : sumN (fun j => hasF p j i * (xL p at' m (n + m))[j]?.getD 0) n = dotN (p.rows[i]?.getD ([], 0)).1 (xL p at' m (n + m)) n := by
    rw [dotN_sum]
    exact sumN_congr _ _ _ fun j hj => by rw [hasF_in p j i _ rfl (by omega)]
  have e3 : sumN (fun k => hasF p (n + k) i * (xL p at' m (n + m))[n + k]?.getD 0) m = (xL p at' m (n + m))[n + i]?.getD 0 := by
    rw [← sum_one (fun k => (xL p at' m (n + m))[n + k]?.getD 0) i m hi]
    refine sumN_congr _ _ _ fun k _ => ?_
    by_cases h : k = i
    · subst h; rw [if_pos rfl, hasF_one p (n + k) k (by omega)]
    · rw [if_neg h, hasF_zero p (n + k) i (by omega) (by omega)]
  rw [← e2, ← e3]
  show _ = mostF p i * vol (chosenL p at' m) none4
  rw [Int.mul_comm]
  exact hc

/-- What the variables are worth is what the rows are. -/
theorem comes_worth (p : Lp) (at' : List Int) (m n : Nat) (hmay : p.may = true) (hm : m = p.rows.length) (hn : n = p.costs.length) (hr : rightB at' m (n + m) = true) : dotN p.costs (xL p at' m (n + m)) n = dotN (mostsL p m) (priceL p at' m) m := by
  have h1 : 1 ≤ m := by have := (p.may_of hmay).2.2.1.1; omega
  have h4 : m ≤ 4 := by have := (p.may_of hmay).2.2.1.2; omega
  have hp := prices m (chosenL p at' m) (worthsL p at' m) (mostsL p m) (chosen_sq p at' m) (by simp [worthsL]) (by simp [mostsL]) h1 h4
  have hs := spread_sum (fun j => p.costs[j]?.getD 0) (n + m) at' (sharesL (chosenL p at' m) (mostsL p m) m) m hr m (Nat.le_refl _)
  rw [sumN_split] at hs
  have e2 : sumN (fun k => p.costs[n + k]?.getD 0 * (spreadN (n + m) at' (sharesL (chosenL p at' m) (mostsL p m) m) m)[n + k]?.getD 0) m = 0 := by
    refine Eq.trans (sumN_congr _ (fun _ => 0) _ fun k _ => ?_) (sumN_zero _)
    rw [getD_lt0 p.costs n (n + k) hn.symm (by omega)]; simp
  rw [e2, Int.add_zero, ← dotN_sum] at hs
  have e3 : dotN (worthsL p at' m) (sharesL (chosenL p at' m) (mostsL p m) m) m = sumN (fun i => p.costs[atF at' i]?.getD 0 * (sharesL (chosenL p at' m) (mostsL p m) m)[i]?.getD 0) m := by
    rw [dotN_sum]
    exact sumN_congr _ _ _ fun k hk => by unfold worthsL; rw [range_getD, if_pos hk]
  show dotN p.costs (spreadN (n + m) at' (sharesL (chosenL p at' m) (mostsL p m) m) m) n = dotN (mostsL p m) (sharesL (turnL (chosenL p at' m)) (worthsL p at' m) m) m
  rw [hs, hp, e3]

/-- The columns that are chosen gain nothing. -/
theorem comes_gain (p : Lp) (at' : List Int) (m n : Nat) (hmay : p.may = true) (hm : m = p.rows.length) (hr : rightB at' m (n + m) = true) (k : Nat) (hk : k < m) : (gainL p at' m (n + m))[atF at' k]?.getD 0 = 0 := by
  have h1 : 1 ≤ m := by have := (p.may_of hmay).2.2.1.1; omega
  have h4 : m ≤ 4 := by have := (p.may_of hmay).2.2.1.2; omega
  have hsq := turn_sq _ m (chosen_sq p at' m)
  have hc := cramer m (turnL (chosenL p at' m)) (worthsL p at' m) hsq (by simp [worthsL]) h1 h4 k hk
  rw [vol_turn m _ (chosen_sq p at' m) h1 h4] at hc
  have e0 : (worthsL p at' m)[k]?.getD 0 = p.costs[atF at' k]?.getD 0 := by unfold worthsL; rw [range_getD, if_pos hk]
  rw [e0] at hc
  unfold gainL
  rw [range_getD, if_pos (atF_lt at' (n + m) m hr k hk)]
  unfold gainF
  rw [← hm]
  have e1 : dotN ((List.range m).map (hasF p (atF at' k))) (priceL p at' m) m = crm (turnL (chosenL p at' m)) (worthsL p at' m) m k := by
    unfold crm
    rw [dotN_sum, dotN_sum]
    refine sumN_congr _ _ _ fun i hi => ?_
    rw [range_getD, if_pos hi, range_getD, if_pos hi, Int.mul_comm]
    congr 1
    rw [← down_turn]
    exact (at2_grid (fun i k => hasF p (atF at' k) i) m i k hi hk).symm
  rw [e1, hc]
  show p.costs[atF at' k]?.getD 0 * vol (chosenL p at' m) none4 - vol (chosenL p at' m) none4 * p.costs[atF at' k]?.getD 0 = 0
  rw [Int.mul_comm]; omega

theorem hasF_bdx (p : Lp) (hmay : p.may = true) (m j : Nat) : ∀ i : Nat, -12 ≤ ((List.range m).map (hasF p j))[i]?.getD 0 ∧ ((List.range m).map (hasF p j))[i]?.getD 0 ≤ 12 := by
  intro i
  rw [range_getD]
  split
  · exact hasF_bd p hmay j i
  · omega

theorem den_bd12 (p : Lp) (at' : List Int) (m : Nat) (hmay : p.may = true) (h1 : 1 ≤ m) (h4 : m ≤ 4) : -497664 ≤ denL p at' m ∧ denL p at' m ≤ 497664 :=
  vol_bd12 m _ (chosen_sq p at' m) h1 h4 (chosen_bd12 p at' m hmay)

/-- Sums of costs, each times a share of numbers up to 12. -/
theorem worth_shares_bd (p : Lp) (at' : List Int) (m : Nat) (hmay : p.may = true) (h1 : 1 ≤ m) (h4 : m ≤ 4) (a : List Int) (ha : a.length = m) (hab : ∀ j : Nat, -12 ≤ a[j]?.getD 0 ∧ a[j]?.getD 0 ≤ 12) :
    -796262400 ≤ dotN (worthsL p at' m) (sharesL (chosenL p at' m) a m) m ∧ dotN (worthsL p at' m) (sharesL (chosenL p at' m) a m) m ≤ 796262400 := by
  have := dotN_bd (worthsL p at' m) (sharesL (chosenL p at' m) a m) 400 497664 (worths_bd p hmay at' m) (shares_bd12 m _ a (chosen_sq p at' m) ha h1 h4 (chosen_bd12 p at' m hmay) hab) m
  omega

theorem gain_bd (p : Lp) (at' : List Int) (m N : Nat) (hmay : p.may = true) (hm : m = p.rows.length) : ∀ j : Nat, -1073741824 ≤ (gainL p at' m N)[j]?.getD 0 ∧ (gainL p at' m N)[j]?.getD 0 ≤ 1073741824 := by
  intro j
  have h1 : 1 ≤ m := by have := (p.may_of hmay).2.2.1.1; omega
  have h4 : m ≤ 4 := by have := (p.may_of hmay).2.2.1.2; omega
  unfold gainL
  rw [range_getD]
  split
  · unfold gainF
    rw [← hm]
    have hp := prices m (chosenL p at' m) (worthsL p at' m) ((List.range m).map (hasF p j)) (chosen_sq p at' m) (by simp [worthsL]) (by simp) h1 h4
    have hb := worth_shares_bd p at' m hmay h1 h4 ((List.range m).map (hasF p j)) (by simp) (hasF_bdx p hmay m j)
    rw [← hp] at hb
    have hc := mul_bd2 _ _ _ _ (withinB_iff _ _ (p.may_of hmay).2.1 (by omega) j) (den_bd12 p at' m hmay h1 h4)
    show -1073741824 ≤ p.costs[j]?.getD 0 * denL p at' m - dotN ((List.range m).map (hasF p j)) (sharesL (turnL (chosenL p at' m)) (worthsL p at' m) m) m ∧ p.costs[j]?.getD 0 * denL p at' m - dotN ((List.range m).map (hasF p j)) (sharesL (turnL (chosenL p at' m)) (worthsL p at' m) m) m ≤ 1073741824
    omega
  · omega

theorem unit_bd (m k : Nat) : ∀ j : Nat, -12 ≤ ((List.range m).map fun i => if i = k then (1 : Int) else 0)[j]?.getD 0 ∧ ((List.range m).map fun i => if i = k then (1 : Int) else 0)[j]?.getD 0 ≤ 12 := by
  intro j
  rw [range_getD]
  split
  · split <;> omega
  · omega

theorem price_bd2 (p : Lp) (at' : List Int) (m : Nat) (hmay : p.may = true) (hm : m = p.rows.length) : ∀ j : Nat, -796262400 ≤ (priceL p at' m)[j]?.getD 0 ∧ (priceL p at' m)[j]?.getD 0 ≤ 796262400 := by
  intro j
  have h1 : 1 ≤ m := by have := (p.may_of hmay).2.2.1.1; omega
  have h4 : m ≤ 4 := by have := (p.may_of hmay).2.2.1.2; omega
  by_cases hj : j < m
  · have hp := prices m (chosenL p at' m) (worthsL p at' m) ((List.range m).map fun i => if i = j then (1 : Int) else 0) (chosen_sq p at' m) (by simp [worthsL]) (by simp) h1 h4
    have hb := worth_shares_bd p at' m hmay h1 h4 ((List.range m).map fun i => if i = j then (1 : Int) else 0) (by simp) (unit_bd m j)
    rw [← hp, dotN_sum] at hb
    have e : sumN (fun i => ((List.range m).map fun i => if i = j then (1 : Int) else 0)[i]?.getD 0 * (sharesL (turnL (chosenL p at' m)) (worthsL p at' m) m)[i]?.getD 0) m = (priceL p at' m)[j]?.getD 0 := by
      rw [← sum_one (fun i => (priceL p at' m)[i]?.getD 0) j m hj]
      exact sumN_congr _ _ _ fun i hi => by rw [range_getD, if_pos hi]; rfl
    rw [e] at hb
    exact hb
  · rw [getD_lt0 (priceL p at' m) m j (by unfold priceL sharesL; simp) hj]; omega

theorem x_bd (p : Lp) (at' : List Int) (m N : Nat) (hmay : p.may = true) (hm : m = p.rows.length) : ∀ j : Nat, -497664 ≤ (xL p at' m N)[j]?.getD 0 ∧ (xL p at' m N)[j]?.getD 0 ≤ 497664 := by
  have h1 : 1 ≤ m := by have := (p.may_of hmay).2.2.1.1; omega
  have h4 : m ≤ 4 := by have := (p.may_of hmay).2.2.1.2; omega
  have hs := shares_bd12 m (chosenL p at' m) (mostsL p m) (chosen_sq p at' m) (by simp [mostsL]) h1 h4 (chosen_bd12 p at' m hmay) (fun j => by
    unfold mostsL
    rw [range_getD]
    split
    · rename_i hj
      exact (p.row_of hmay j (by omega)).2.2
    · omega)
  unfold xL
  generalize sharesL (chosenL p at' m) (mostsL p m) m = s at *
  have key : ∀ k, ∀ j : Nat, -497664 ≤ (spreadN N at' s k)[j]?.getD 0 ∧ (spreadN N at' s k)[j]?.getD 0 ≤ 497664 := by
    intro k
    induction k with
    | zero => intro j; unfold spreadN; rw [List.getElem?_replicate]; split <;> simp
    | succ k ih =>
      intro j
      unfold spreadN
      rw [List.getElem?_set]
      split
      · split
        · exact hs k
        · simp
      · exact ih j
  exact key m

/-- A corner that has one way: its three points, each of its own numbers times one number, and what they come to. -/
theorem look_comes (p : Lp) (at' : List Int) (m n : Nat) (hmay : p.may = true) (hm : m = p.rows.length) (hn : n = p.costs.length) (hr : rightB at' m (n + m) = true) (hd : denL p at' m ≠ 0) :
    (look p at').err = 0 ∧ (look p at').x.length = n + m ∧ (look p at').y.length = m ∧ (look p at').g.length = n + m ∧
    (1 ≤ (look p at').xd ∧ (look p at').xd ≤ 497664) ∧ (1 ≤ (look p at').yd ∧ (look p at').yd ≤ 497664) ∧
    (∀ j : Nat, -497664 ≤ (look p at').x[j]?.getD 0 ∧ (look p at').x[j]?.getD 0 ≤ 497664) ∧ (∀ j : Nat, -796262400 ≤ (look p at').y[j]?.getD 0 ∧ (look p at').y[j]?.getD 0 ≤ 796262400) ∧
    (∀ i, i < m → dotN (p.rows[i]?.getD ([], 0)).1 (look p at').x n + (look p at').x[n + i]?.getD 0 = (p.rows[i]?.getD ([], 0)).2 * (look p at').xd) ∧
    (∀ k, k < m → (look p at').g[atF at' k]?.getD 0 = 0) ∧
    dotN p.costs (look p at').x n * (look p at').yd = dotN (mostsL p m) (look p at').y m * (look p at').xd := by
  have h1 : 1 ≤ m := by have := (p.may_of hmay).2.2.1.1; omega
  have h4 : m ≤ 4 := by have := (p.may_of hmay).2.2.1.2; omega
  have hn4 : n ≤ 4 := by have := (p.may_of hmay).1.2; omega
  have hden := den_bd12 p at' m hmay h1 h4
  have xb := x_bd p at' m (n + m) hmay hm
  have yb := price_bd2 p at' m hmay hm
  have gb := gain_bd p at' m (n + m) hmay hm
  obtain ⟨gx, gx0, _, xlen, xeq, xdeq, xd1, xdb, xab⟩ := pt_ok (xL p at' m (n + m)) (denL p at' m) hd (by omega) (fun j => by have := xb j; omega) (by unfold xL; rw [spread_len]; omega)
  obtain ⟨gy, gy0, _, ylen, yeq, ydeq, yd1, ydb, yab⟩ := pt_ok (priceL p at' m) (denL p at' m) hd (by omega) (fun j => by have := yb j; omega) (by unfold priceL sharesL; simp; omega)
  obtain ⟨gg, gg0, _, glen, geq, _, _, _, _⟩ := pt_ok (gainL p at' m (n + m)) (denL p at' m) hd (by omega) gb (by unfold gainL; simp; omega)
  have hl := look_some p at' hmay (by rw [← hm, ← hn]; exact hr) (by rw [← hm]; exact hd) m (n + m) hm (by rw [← hm, ← hn])
  have hrow := comes_row p at' m n hmay hm hn hr
  have hworth := comes_worth p at' m n hmay hm hn hr
  have hgain := comes_gain p at' m n hmay hm hr
  rw [hl]
  dsimp only
  generalize (pt (xL p at' m (n + m)) (denL p at' m)).1 = X at *
  generalize (pt (xL p at' m (n + m)) (denL p at' m)).2.1 = XD at *
  generalize (pt (priceL p at' m) (denL p at' m)).1 = Y at *
  generalize (pt (priceL p at' m) (denL p at' m)).2.1 = YD at *
  generalize (pt (gainL p at' m (n + m)) (denL p at' m)).1 = G at *
  have hxl : (xL p at' m (n + m)).length = n + m := by unfold xL; exact spread_len _ _ _ _
  have hyl : (priceL p at' m).length = m := by unfold priceL sharesL; simp
  have hgl : (gainL p at' m (n + m)).length = n + m := by unfold gainL; simp
  have dotx : ∀ (c : List Int) (k : Nat), dotN c (xL p at' m (n + m)) k = gx * dotN c X k := by
    intro c k
    rw [dotN_sum, dotN_sum, ← sumN_mul]
    exact sumN_congr _ _ _ fun i _ => by rw [xeq i]; simp only [Int.mul_left_comm]
  have doty : ∀ (c : List Int) (k : Nat), dotN c (priceL p at' m) k = gy * dotN c Y k := by
    intro c k
    rw [dotN_sum, dotN_sum, ← sumN_mul]
    exact sumN_congr _ _ _ fun i _ => by rw [yeq i]; simp only [Int.mul_left_comm]
  refine ⟨rfl, by omega, by omega, by omega, ⟨xd1, by omega⟩, ⟨yd1, by omega⟩, fun j => ?_, fun j => ?_, fun i hi => ?_, fun k hk => ?_, ?_⟩
  · have := xb j; have := xab j; omega
  · have := yb j; have := yab j; omega
  · have h := hrow i hi
    rw [dotx, xeq (n + i), xdeq] at h
    have e : gx * (dotN (p.rows[i]?.getD ([], 0)).1 X n + X[n + i]?.getD 0) = gx * ((p.rows[i]?.getD ([], 0)).2 * XD) := by
      rw [Int.mul_add, h]
      show mostF p i * (gx * XD) = gx * (mostF p i * XD)
      simp only [Int.mul_left_comm]
    exact Int.eq_of_mul_eq_mul_left gx0 e
  · have h := hgain k hk
    rw [geq] at h
    rcases Int.mul_eq_zero.1 h with h | h
    · exact absurd h gg0
    · exact h
  · rw [dotx, doty] at hworth
    generalize dotN p.costs X n = A at *
    generalize dotN (mostsL p m) Y m = B at *
    -- gx * A = gy * B, gx * XD = gy * YD
    have hdd : gx * XD = gy * YD := xdeq.symm.trans ydeq
    have e : (gx * gy) * (A * YD) = (gx * gy) * (B * XD) := by
      have e1 : (gx * gy) * (A * YD) = (gx * A) * (gy * YD) := by simp only [Int.mul_comm, Int.mul_left_comm]
      have e2 : (gx * gy) * (B * XD) = (gy * B) * (gx * XD) := by simp only [Int.mul_comm, Int.mul_left_comm]
      rw [e1, e2, hworth, hdd]
    exact Int.eq_of_mul_eq_mul_left (Int.mul_ne_zero gx0 gy0) e

end Num
end Go.Proofs.YtipcbhodlgoflabGreat

/- A walk whose entering column is the least that gains, and whose leaving column is the least among the nearest, never comes back: in plain numbers. -/
namespace Go.Proofs.YtipcbhodlgoflabGreat
namespace Num

/-- Steps 0 to K - 1 of a walk: the columns in (B), the numbers of the corner (x over X), the gains (g over G, with prices y), the way along which the entering column s grows (d), the leaving column o. -/
structure Steps (N m : Nat) (c : Nat → Int) (a : Nat → Nat → Int) (B : Nat → Nat → Bool) (x : Nat → Nat → Int) (X : Nat → Int) (g : Nat → Nat → Int) (G : Nat → Int) (y : Nat → Nat → Int) (d : Nat → Nat → Int) (s o : Nat → Nat) (K : Nat) : Prop where
  X0 : ∀ k, k ≤ K → 0 < X k
  G0 : ∀ k, k < K → 0 < G k
  xb : ∀ k j, k ≤ K → 0 ≤ x k j
  gb : ∀ k j, k < K → B k j = true → g k j = 0
  gy : ∀ k j, k < K → j < N → g k j = G k * c j - sumN (fun i => y k i * a i j) m
  dz : ∀ k i, k < K → i < m → sumN (fun j => a i j * d k j) N = 0
  db : ∀ k j, k < K → B k j = false → j ≠ s k → d k j = 0
  ds : ∀ k, k < K → 0 < d k (s k)
  sN : ∀ k, k < K → s k < N
  sg : ∀ k, k < K → 0 < g k (s k)
  sl : ∀ k j, k < K → j < s k → g k j ≤ 0
  oN : ∀ k, k < K → o k < N
  ob : ∀ k, k < K → B k (o k) = true
  od : ∀ k, k < K → d k (o k) < 0
  ol : ∀ k j, k < K → B k j = true → d k j < 0 → x k (o k) * (-(d k j)) = x k j * (-(d k (o k))) → o k ≤ j
  bs : ∀ k j, k < K → B (k + 1) j = (if j = s k then true else if j = o k then false else B k j)
  xs : ∀ k j, k < K → j < N → x (k + 1) j * X k * (-(d k (o k))) = X (k + 1) * (x k j * (-(d k (o k))) + x k (o k) * d k j)

theorem sumN_only (f : Nat → Int) (q n : Nat) (hq : q < n) (h : ∀ j, j < n → j ≠ q → f j = 0) : sumN f n = f q := by
  induction n with
  | zero => omega
  | succ n ih =>
    show sumN f n + f n = f q
    by_cases hn : q = n
    · subst hn
      have : sumN f q = sumN (fun _ => 0) q := sumN_congr _ _ _ fun i hi => h i (by omega) (by omega)
      rw [this, sumN_zero]; omega
    · rw [ih (by omega) fun j hj hne => h j (by omega) hne, h n (by omega) (by omega)]; omega

theorem sumN_pos_some (f : Nat → Int) (n : Nat) (h : 0 < sumN f n) : ∃ j, j < n ∧ 0 < f j := by
  induction n with
  | zero => simp [sumN] at h
  | succ n ih =>
    by_cases hp : 0 < f n
    · exact ⟨n, by omega, hp⟩
    · have h' : 0 < sumN f n + f n := h
      obtain ⟨j, hj, hf⟩ := ih (by omega)
      exact ⟨j, by omega, hf⟩

theorem most_at (f : Nat → Nat) (a : Nat) : ∀ b, a < b → ∃ q, a ≤ q ∧ q < b ∧ ∀ r, a ≤ r → r < b → f r ≤ f q := by
  intro b
  induction b with
  | zero => intro h; omega
  | succ b ih =>
    intro h
    by_cases hab : a < b
    · obtain ⟨q, h1, h2, h3⟩ := ih hab
      by_cases hf : f b ≤ f q
      · refine ⟨q, h1, by omega, fun r hr hr2 => ?_⟩
        by_cases hrb : r = b
        · subst hrb; exact hf
        · exact h3 r hr (by omega)
      · refine ⟨b, by omega, by omega, fun r hr hr2 => ?_⟩
        by_cases hrb : r = b
        · subst hrb; omega
        · have := h3 r hr (by omega); omega
    · refine ⟨a, by omega, by omega, fun r hr hr2 => ?_⟩
      have : r = a := by omega
      subst this; omega

namespace Steps
variable {N m : Nat} {c : Nat → Int} {a : Nat → Nat → Int} {B : Nat → Nat → Bool} {x : Nat → Nat → Int} {X : Nat → Int} {g : Nat → Nat → Int} {G : Nat → Int} {y : Nat → Nat → Int} {d : Nat → Nat → Int} {s o : Nat → Nat} {K : Nat}

theorem cross (h : Steps N m c a B x X g G y d s o K) (k l : Nat) (hk : k < K) (hl : l < K) : sumN (fun j => g k j * d l j) N = G k * sumN (fun j => c j * d l j) N := by
  have e1 : sumN (fun j => g k j * d l j) N = sumN (fun j => G k * (c j * d l j) + (-1) * sumN (fun i => y k i * (a i j * d l j)) m) N := by
    refine sumN_congr _ _ _ fun j hj => ?_
    have e2 : sumN (fun i => y k i * (a i j * d l j)) m = d l j * sumN (fun i => y k i * a i j) m := by
      rw [← sumN_mul]; exact sumN_congr _ _ _ fun i _ => by grind
    rw [e2, h.gy k j hk hj]; grind
  have e3 : sumN (fun j => sumN (fun i => y k i * (a i j * d l j)) m) N = 0 := by
    rw [sumN_swap]
    have : sumN (fun i => sumN (fun j => y k i * (a i j * d l j)) N) m = sumN (fun _ => 0) m := by
      refine sumN_congr _ _ _ fun i hi => ?_
      rw [sumN_mul, h.dz l i hl hi]; grind
    rw [this, sumN_zero]
  rw [e1, sumN_add, sumN_mul, sumN_mul, e3]; omega

theorem rise (h : Steps N m c a B x X g G y d s o K) (k : Nat) (hk : k < K) : 0 < sumN (fun j => c j * d k j) N := by
  have h1 := h.cross k k hk hk
  rw [sumN_only (fun j => g k j * d k j) (s k) N (h.sN k hk) fun j _ hne => by
    cases hB : B k j with
    | true => show g k j * d k j = 0; rw [h.gb k j hk hB]; omega
    | false => show g k j * d k j = 0; rw [h.db k j hk hB hne]; omega] at h1
  have h2 : 0 < g k (s k) * d k (s k) := Int.mul_pos (h.sg k hk) (h.ds k hk)
  have h3 := h.G0 k hk
  generalize sumN (fun j => c j * d k j) N = W at *
  by_cases hW : 0 < W
  · exact hW
  · have : G k * W ≤ 0 := Int.mul_nonpos_of_nonneg_of_nonpos (by omega) (by omega)
    have h1' : g k (s k) * d k (s k) = G k * W := h1
    omega

theorem worth (h : Steps N m c a B x X g G y d s o K) (k : Nat) (hk : k < K) : sumN (fun j => c j * x (k + 1) j) N * X k * (-(d k (o k))) = X (k + 1) * (sumN (fun j => c j * x k j) N * (-(d k (o k))) + x k (o k) * sumN (fun j => c j * d k j) N) := by
  have e : sumN (fun j => (X k * (-(d k (o k)))) * (c j * x (k + 1) j)) N = sumN (fun j => (X (k + 1) * (-(d k (o k)))) * (c j * x k j) + (X (k + 1) * x k (o k)) * (c j * d k j)) N := by
    refine sumN_congr _ _ _ fun j hj => ?_
    have := h.xs k j hk hj
    grind
  rw [sumN_mul, sumN_add, sumN_mul, sumN_mul] at e
  grind

theorem not_less (h : Steps N m c a B x X g G y d s o K) (k : Nat) (hk : k < K) : sumN (fun j => c j * x k j) N * X (k + 1) ≤ sumN (fun j => c j * x (k + 1) j) N * X k ∧ (0 < x k (o k) → sumN (fun j => c j * x k j) N * X (k + 1) < sumN (fun j => c j * x (k + 1) j) N * X k) := by
  have h1 := h.worth k hk
  have h2 := h.rise k hk
  have h3 := h.od k hk
  have h4 := h.X0 (k + 1) hk
  have h5 := h.xb k (o k) (by omega)
  generalize sumN (fun j => c j * d k j) N = W at *
  generalize sumN (fun j => c j * x k j) N = z at *
  generalize sumN (fun j => c j * x (k + 1) j) N = z' at *
  generalize hD : -(d k (o k)) = D at *
  have hDp : 0 < D := by omega
  have e : (z' * X k - z * X (k + 1)) * D = X (k + 1) * (x k (o k) * W) := by grind
  have p0 : 0 ≤ X (k + 1) * (x k (o k) * W) := Int.mul_nonneg (by omega) (Int.mul_nonneg h5 (by omega))
  refine ⟨?_, fun hx => ?_⟩
  · by_cases hn : 0 ≤ z' * X k - z * X (k + 1)
    · omega
    · have : (z' * X k - z * X (k + 1)) * D < 0 := Int.mul_neg_of_neg_of_pos (by omega) hDp
      omega
  · have p1 : 0 < X (k + 1) * (x k (o k) * W) := Int.mul_pos h4 (Int.mul_pos hx h2)
    by_cases hn : 0 < z' * X k - z * X (k + 1)
    · omega
    · have : (z' * X k - z * X (k + 1)) * D ≤ 0 := Int.mul_nonpos_of_nonpos_of_nonneg (by omega) (by omega)
      omega

end Steps

theorem frac_trans (z1 X1 z2 X2 z3 X3 : Int) (h1 : 0 < X1) (h2 : 0 < X2) (h3 : 0 < X3) (ha : z1 * X2 ≤ z2 * X1) (hb : z2 * X3 ≤ z3 * X2) : z1 * X3 ≤ z3 * X1 ∧ (z1 * X2 < z2 * X1 ∨ z2 * X3 < z3 * X2 → z1 * X3 < z3 * X1) := by
  have e : (z3 * X1 - z1 * X3) * X2 = (z3 * X2 - z2 * X3) * X1 + (z2 * X1 - z1 * X2) * X3 := by grind
  have p1 : 0 ≤ (z3 * X2 - z2 * X3) * X1 := Int.mul_nonneg (by omega) (by omega)
  have p2 : 0 ≤ (z2 * X1 - z1 * X2) * X3 := Int.mul_nonneg (by omega) (by omega)
  refine ⟨?_, fun hs => ?_⟩
  · by_cases hn : 0 ≤ z3 * X1 - z1 * X3
    · omega
    · have : (z3 * X1 - z1 * X3) * X2 < 0 := Int.mul_neg_of_neg_of_pos (by omega) h2
      omega
  · have p3 : 0 < (z3 * X2 - z2 * X3) * X1 + (z2 * X1 - z1 * X2) * X3 := by
      rcases hs with hs | hs
      · have : 0 < (z2 * X1 - z1 * X2) * X3 := Int.mul_pos (by omega) h3
        omega
      · have : 0 < (z3 * X2 - z2 * X3) * X1 := Int.mul_pos (by omega) h1
        omega
    by_cases hn : 0 < z3 * X1 - z1 * X3
    · omega
    · have : (z3 * X1 - z1 * X3) * X2 ≤ 0 := Int.mul_nonpos_of_nonpos_of_nonneg (by omega) (by omega)
      omega

namespace Steps
variable {N m : Nat} {c : Nat → Int} {a : Nat → Nat → Int} {B : Nat → Nat → Bool} {x : Nat → Nat → Int} {X : Nat → Int} {g : Nat → Nat → Int} {G : Nat → Int} {y : Nat → Nat → Int} {d : Nat → Nat → Int} {s o : Nat → Nat} {K : Nat}

theorem chain (h : Steps N m c a B x X g G y d s o K) (k : Nat) : ∀ l, k ≤ l → l ≤ K → sumN (fun j => c j * x k j) N * X l ≤ sumN (fun j => c j * x l j) N * X k ∧ ((∃ q, k ≤ q ∧ q < l ∧ 0 < x q (o q)) → sumN (fun j => c j * x k j) N * X l < sumN (fun j => c j * x l j) N * X k) := by
  intro l
  induction l with
  | zero =>
    intro hkl _
    obtain rfl : k = 0 := by omega
    exact ⟨by omega, fun ⟨q, _, hq, _⟩ => by omega⟩
  | succ l ih =>
    intro hkl hlK
    by_cases he : k = l + 1
    · subst he; exact ⟨by omega, fun ⟨q, hq1, hq, _⟩ => by omega⟩
    · obtain ⟨i1, i2⟩ := ih (by omega) (by omega)
      obtain ⟨n1, n2⟩ := h.not_less l (by omega)
      obtain ⟨t1, t2⟩ := frac_trans _ _ _ _ _ _ (h.X0 k (by omega)) (h.X0 l (by omega)) (h.X0 (l + 1) hlK) i1 n1
      refine ⟨t1, fun ⟨q, hq1, hq2, hq3⟩ => t2 ?_⟩
      by_cases hql : q = l
      · subst hql; exact Or.inr (n2 hq3)
      · exact Or.inl (i2 ⟨q, hq1, by omega, hq3⟩)

theorem still (h : Steps N m c a B x X g G y d s o K) (p q : Nat) (hq : q ≤ K) (he : sumN (fun j => c j * x p j) N * X q = sumN (fun j => c j * x q j) N * X p) (k : Nat) (hk : p ≤ k) (hk2 : k < q) : x k (o k) = 0 := by
  have h1 := (h.chain p q (by omega) hq).2
  have h2 := h.xb k (o k) (by omega)
  by_cases h0 : x k (o k) = 0
  · exact h0
  · have := h1 ⟨k, hk, hk2, by omega⟩
    omega

theorem zero_step (h : Steps N m c a B x X g G y d s o K) (k j : Nat) (hk : k < K) (hj : j < N) (h0 : x k (o k) = 0) : x (k + 1) j = 0 ↔ x k j = 0 := by
  have h1 := h.xs k j hk hj
  have h2 := h.X0 k (by omega)
  have h3 := h.X0 (k + 1) hk
  have h4 := h.od k hk
  rw [h0] at h1
  have h5 : x (k + 1) j * (X k * (-(d k (o k)))) = x k j * (X (k + 1) * (-(d k (o k)))) := by grind
  have p1 : 0 < X k * (-(d k (o k))) := Int.mul_pos h2 (by omega)
  have p2 : 0 < X (k + 1) * (-(d k (o k))) := Int.mul_pos h3 (by omega)
  generalize X k * (-(d k (o k))) = P at *
  generalize X (k + 1) * (-(d k (o k))) = Q at *
  constructor
  · intro hz; rw [hz, Int.zero_mul] at h5; exact (Int.mul_eq_zero.1 h5.symm).resolve_right (by omega)
  · intro hz; rw [hz, Int.zero_mul] at h5; exact (Int.mul_eq_zero.1 h5).resolve_right (by omega)

theorem zero_all (h : Steps N m c a B x X g G y d s o K) (p q : Nat) (hq : q ≤ K) (hs : ∀ k, p ≤ k → k < q → x k (o k) = 0) (j : Nat) (hj : j < N) : ∀ k, p ≤ k → k ≤ q → (x k j = 0 ↔ x p j = 0) := by
  intro k
  induction k with
  | zero => intro h1 _; obtain rfl : p = 0 := (by omega); exact Iff.rfl
  | succ k ih =>
    intro h1 h2
    by_cases he : p = k + 1
    · subst he; exact Iff.rfl
    · rw [h.zero_step k j (by omega) hj (hs k (by omega) (by omega))]
      exact ih (by omega) (by omega)

theorem goes_out (h : Steps N m c a B x X g G y d s o K) (j k : Nat) (hB : B k j = true) : ∀ l, k ≤ l → l ≤ K → B l j = false → ∃ q, k ≤ q ∧ q < l ∧ o q = j := by
  intro l
  induction l with
  | zero => intro h1 _ h3; obtain rfl : k = 0 := (by omega); rw [hB] at h3; cases h3
  | succ l ih =>
    intro h1 h2 h3
    by_cases he : k = l + 1
    · subst he; rw [hB] at h3; cases h3
    · cases hl : B l j with
      | false => obtain ⟨q, q1, q2, q3⟩ := ih (by omega) (by omega) hl; exact ⟨q, q1, by omega, q3⟩
      | true =>
        rw [h.bs l j (by omega)] at h3
        by_cases hs : j = s l
        · rw [if_pos hs] at h3; cases h3
        · rw [if_neg hs] at h3
          by_cases ho : j = o l
          · exact ⟨l, by omega, by omega, ho.symm⟩
          · rw [if_neg ho, hl] at h3; cases h3

theorem goes_in (h : Steps N m c a B x X g G y d s o K) (j k : Nat) (hB : B k j = false) : ∀ l, k ≤ l → l ≤ K → B l j = true → ∃ q, k ≤ q ∧ q < l ∧ s q = j := by
  intro l
  induction l with
  | zero => intro h1 _ h3; obtain rfl : k = 0 := (by omega); rw [hB] at h3; cases h3
  | succ l ih =>
    intro h1 h2 h3
    by_cases he : k = l + 1
    · subst he; rw [hB] at h3; cases h3
    · cases hl : B l j with
      | true => obtain ⟨q, q1, q2, q3⟩ := ih (by omega) (by omega) hl; exact ⟨q, q1, by omega, q3⟩
      | false =>
        rw [h.bs l j (by omega)] at h3
        by_cases hs : j = s l
        · exact ⟨l, by omega, by omega, hs.symm⟩
        · rw [if_neg hs] at h3
          by_cases ho : j = o l
          · rw [if_pos ho] at h3; cases h3
          · rw [if_neg ho, hl] at h3; cases h3

/-- A column that is in at one time and out at another goes out at some time, if the ends are the same. -/
theorem fickle (h : Steps N m c a B x X g G y d s o K) (p q : Nat) (hq : q ≤ K) (he : ∀ j, B p j = B q j) (j k l : Nat) (hk : p ≤ k) (hk2 : k ≤ q) (hl : p ≤ l) (hl2 : l ≤ q) (h1 : B k j = true) (h2 : B l j = false) : ∃ r, p ≤ r ∧ r < q ∧ o r = j := by
  by_cases hkl : k ≤ l
  · obtain ⟨r, r1, r2, r3⟩ := h.goes_out j k h1 l hkl (by omega) h2
    exact ⟨r, by omega, by omega, r3⟩
  · cases hb : B q j with
    | false =>
      obtain ⟨r, r1, r2, r3⟩ := h.goes_out j k h1 q hk2 hq hb
      exact ⟨r, by omega, by omega, r3⟩
    | true =>
      obtain ⟨r, r1, r2, r3⟩ := h.goes_out j p (by rw [he j]; exact hb) l hl (by omega) h2
      exact ⟨r, by omega, by omega, r3⟩

theorem never_back (h : Steps N m c a B x X g G y d s o K) (p q : Nat) (hpq : p < q) (hq : q ≤ K) (he : ∀ j, B p j = B q j) (hx : ∀ j, j < N → x p j * X q = x q j * X p) : False := by
  have hz : sumN (fun j => c j * x p j) N * X q = sumN (fun j => c j * x q j) N * X p := by
    have e : sumN (fun j => X q * (c j * x p j)) N = sumN (fun j => X p * (c j * x q j)) N := by
      refine sumN_congr _ _ _ fun j hj => ?_
      have := hx j hj
      grind
    rw [sumN_mul, sumN_mul] at e
    grind
  have hs := h.still p q hq hz
  have hza := h.zero_all p q hq hs
  have hf0 : ∀ r, p ≤ r → r < q → ∀ k, p ≤ k → k ≤ q → x k (o r) = 0 := by
    intro r r1 r2 k k1 k2
    have hN := h.oN r (by omega)
    rw [hza (o r) hN k k1 k2, ← hza (o r) hN r r1 (by omega)]
    exact hs r r1 r2
  obtain ⟨k1, a1, a2, hmax⟩ := most_at o p q hpq
  have hso : o k1 ≠ s k1 := by
    intro e
    have := h.gb k1 (o k1) (by omega) (h.ob k1 (by omega))
    have := h.sg k1 (by omega)
    rw [← e] at this
    omega
  have hsB : ∀ k, k < K → B k (s k) = false := by
    intro k hk
    cases hb : B k (s k) with
    | false => rfl
    | true => have := h.gb k (s k) hk hb; have := h.sg k hk; omega
  have hafter : B (k1 + 1) (o k1) = false := by rw [h.bs k1 _ (by omega), if_neg hso, if_pos rfl]
  obtain ⟨k2, b1, b2, b3⟩ : ∃ k2, p ≤ k2 ∧ k2 < q ∧ s k2 = o k1 := by
    cases hb : B q (o k1) with
    | true =>
      obtain ⟨r, r1, r2, r3⟩ := h.goes_in (o k1) (k1 + 1) hafter q (by omega) hq hb
      exact ⟨r, by omega, r2, r3⟩
    | false =>
      obtain ⟨r, r1, r2, r3⟩ := h.goes_in (o k1) p (by rw [he]; exact hb) k1 a1 (by omega) (h.ob k1 (by omega))
      exact ⟨r, r1, by omega, r3⟩
  have hpos : 0 < sumN (fun j => g k2 j * d k1 j) N := by
    rw [h.cross k2 k1 (by omega) (by omega)]
    exact Int.mul_pos (h.G0 k2 (by omega)) (h.rise k1 (by omega))
  obtain ⟨j, hj, hgd⟩ := sumN_pos_some _ _ hpos
  have hg0 : g k2 j ≠ 0 := by intro e; rw [e] at hgd; omega
  have hd0 : d k1 j ≠ 0 := by intro e; rw [e] at hgd; omega
  have hB2 : B k2 j = false := by
    cases hb : B k2 j with
    | false => rfl
    | true => exact absurd (h.gb k2 j (by omega) hb) hg0
  by_cases hjs : j = s k1
  · subst hjs
    have hB1 : B (k1 + 1) (s k1) = true := by rw [h.bs k1 _ (by omega), if_pos rfl]
    obtain ⟨r, r1, r2, r3⟩ := h.fickle p q hq he (s k1) (k1 + 1) k1 (by omega) (by omega) a1 (by omega) hB1 (hsB k1 (by omega))
    have hle := hmax r r1 r2
    have hdp := h.ds k1 (by omega)
    by_cases hlt : s k1 < s k2
    · have hgn := h.sl k2 (s k1) (by omega) hlt
      have : g k2 (s k1) * d k1 (s k1) ≤ 0 := Int.mul_nonpos_of_nonpos_of_nonneg hgn (by omega)
      omega
    · omega
  · have hB1 : B k1 j = true := by
      cases hb : B k1 j with
      | true => rfl
      | false => exact absurd (h.db k1 j (by omega) hb hjs) hd0
    obtain ⟨r, r1, r2, r3⟩ := h.fickle p q hq he j k1 k2 a1 (by omega) b1 (by omega) hB1 hB2
    have hle := hmax r r1 r2
    rw [r3] at hle
    by_cases hjt : j = o k1
    · subst hjt
      have h1 := h.sg k2 (by omega)
      rw [b3] at h1
      have h2 := h.od k1 (by omega)
      have : g k2 (o k1) * d k1 (o k1) < 0 := Int.mul_neg_of_pos_of_neg h1 h2
      omega
    · have hgn := h.sl k2 j (by omega) (by omega)
      have hdn : d k1 j < 0 := by
        by_cases hn : d k1 j < 0
        · exact hn
        · have : g k2 j * d k1 j ≤ 0 := Int.mul_nonpos_of_nonpos_of_nonneg hgn (by omega)
          omega
      have hx0 : x k1 j = 0 := by rw [← r3]; exact hf0 r r1 r2 k1 a1 (by omega)
      have ho0 := hs k1 a1 a2
      have := h.ol k1 j (by omega) hB1 hdn (by rw [hx0, ho0]; omega)
      omega

end Steps
end Num
end Go.Proofs.YtipcbhodlgoflabGreat

/- What the columns of a corner say of ways, in plain numbers: no way stays within them, and a line moved to another place turns the volume's sign at most. -/
namespace Go.Proofs.YtipcbhodlgoflabGreat
namespace Num

theorem indep (n : Nat) (ls : List (List Int)) (h : Sq n ls) (h1 : 1 ≤ n) (h4 : n ≤ 4) (v : Nat → Int) (hv : ∀ i, i < n → sumN (fun l => v l * at2 ls l i) n = 0) (k : Nat) (hk : k < n) : vol ls none4 * v k = 0 := by
  have hl : ls.length = n := h.1
  have hT : Sq n (turnL ls) := by
    refine ⟨by unfold turnL; simp [hl], fun r hr => ?_⟩
    unfold turnL at hr
    simp only [List.mem_map] at hr
    obtain ⟨i, _, rfl⟩ := hr
    simp [hl]
  have e0 : ∀ i l, i < n → l < n → at2 (turnL ls) i l = at2 ls l i := by
    intro i l hi hll
    unfold turnL
    rw [at2_range, if_pos (by omega), range_getD, if_pos (by omega)]
  obtain ⟨e, he⟩ : ∃ e : List Int, e = (List.range n).map fun i => if i = k then (1 : Int) else 0 := ⟨_, rfl⟩
  have hel : e.length = n := by rw [he]; simp
  obtain ⟨u, hu⟩ : ∃ u, u = sharesL (turnL ls) e n := ⟨_, rfl⟩
  have hc : ∀ l, l < n → sumN (fun i => u[i]?.getD 0 * at2 ls l i) n = vol ls none4 * (if l = k then 1 else 0) := by
    intro l hl2
    have := cramer n (turnL ls) e hT hel h1 h4 l hl2
    rw [vol_turn n ls h h1 h4] at this
    unfold crm at this
    rw [dotN_sum, ← hu] at this
    have e1 : e[l]?.getD 0 = if l = k then 1 else 0 := by rw [he, range_getD, if_pos hl2]
    rw [e1] at this
    rw [← this]
    refine sumN_congr _ _ _ fun i hi => ?_
    rw [range_getD, if_pos hi, e0 i l hi hl2]
  have t1 : sumN (fun l => v l * sumN (fun i => u[i]?.getD 0 * at2 ls l i) n) n = vol ls none4 * v k := by
    rw [sumN_only _ k n hk fun l hl2 hne => by show v l * _ = 0; rw [hc l hl2, if_neg hne]; omega]
    show v k * _ = _
    rw [hc k hk, if_pos rfl]; grind
  have t2 : sumN (fun l => v l * sumN (fun i => u[i]?.getD 0 * at2 ls l i) n) n = sumN (fun i => u[i]?.getD 0 * sumN (fun l => v l * at2 ls l i) n) n := by
    have a1 : sumN (fun l => v l * sumN (fun i => u[i]?.getD 0 * at2 ls l i) n) n = sumN (fun l => sumN (fun i => u[i]?.getD 0 * (v l * at2 ls l i)) n) n := by
      refine sumN_congr _ _ _ fun l _ => ?_
      rw [← sumN_mul]
      exact sumN_congr _ _ _ fun i _ => by grind
    rw [a1, sumN_swap]
    exact sumN_congr _ _ _ fun i _ => by rw [sumN_mul]
  have t3 : sumN (fun i => u[i]?.getD 0 * sumN (fun l => v l * at2 ls l i) n) n = 0 := by
    have : sumN (fun i => u[i]?.getD 0 * sumN (fun l => v l * at2 ls l i) n) n = sumN (fun _ => 0) n := sumN_congr _ _ _ fun i hi => by rw [hv i hi]; omega
    rw [this, sumN_zero]
  rw [← t1, t2, t3]

/-- The line at k, moved to place k'. -/
def mvL (ls : List (List Int)) (k k' : Nat) : List (List Int) := (ls.eraseIdx k).insertIdx k' (ls[k]?.getD [])

def sgn (n : Nat) : Int := if n % 2 = 0 then 1 else -1

theorem mv1 (a : Int) (i i' : Nat) (hi : i < 1) (hi' : i' < 1) : vol (mvL [[a]] i i') none4 = sgn (i + i') * vol [[a]] none4 := by
  match i, i', hi, hi' with
  | 0, 0, _, _ => simp [mvL, sgn, vol, volSum, none4] <;> grind

theorem mv2 (a b c d : Int) (i i' : Nat) (hi : i < 2) (hi' : i' < 2) : vol (mvL [[a, b], [c, d]] i i') none4 = sgn (i + i') * vol [[a, b], [c, d]] none4 := by
  match i, i', hi, hi' with
  | 0, 0, _, _ => simp [mvL, sgn, vol, volSum, none4, mark] <;> grind
  | 0, 1, _, _ => simp [mvL, sgn, vol, volSum, none4, mark] <;> grind
  | 1, 0, _, _ => simp [mvL, sgn, vol, volSum, none4, mark] <;> grind
  | 1, 1, _, _ => simp [mvL, sgn, vol, volSum, none4, mark] <;> grind

theorem mv3 (a b c d e f g h j : Int) (i i' : Nat) (hi : i < 3) (hi' : i' < 3) : vol (mvL [[a, b, c], [d, e, f], [g, h, j]] i i') none4 = sgn (i + i') * vol [[a, b, c], [d, e, f], [g, h, j]] none4 := by
  match i, i', hi, hi' with
  | 0, 0, _, _ => simp [mvL, sgn, vol, volSum, none4, mark] <;> grind
  | 0, 1, _, _ => simp [mvL, sgn, vol, volSum, none4, mark] <;> grind
  | 0, 2, _, _ => simp [mvL, sgn, vol, volSum, none4, mark] <;> grind
  | 1, 0, _, _ => simp [mvL, sgn, vol, volSum, none4, mark] <;> grind
  | 1, 1, _, _ => simp [mvL, sgn, vol, volSum, none4, mark] <;> grind
  | 1, 2, _, _ => simp [mvL, sgn, vol, volSum, none4, mark] <;> grind
  | 2, 0, _, _ => simp [mvL, sgn, vol, volSum, none4, mark] <;> grind
  | 2, 1, _, _ => simp [mvL, sgn, vol, volSum, none4, mark] <;> grind
  | 2, 2, _, _ => simp [mvL, sgn, vol, volSum, none4, mark] <;> grind

set_option maxHeartbeats 8000000 in
theorem mv4 (a b c d e f g h j k l m n o p q : Int) (i i' : Nat) (hi : i < 4) (hi' : i' < 4) : vol (mvL [[a, b, c, d], [e, f, g, h], [j, k, l, m], [n, o, p, q]] i i') none4 = sgn (i + i') * vol [[a, b, c, d], [e, f, g, h], [j, k, l, m], [n, o, p, q]] none4 := by
  match i, i', hi, hi' with
  | 0, 0, _, _ => simp [mvL, sgn, vol, volSum, none4, mark] <;> grind
  | 0, 1, _, _ => simp [mvL, sgn, vol, volSum, none4, mark] <;> grind
  | 0, 2, _, _ => simp [mvL, sgn, vol, volSum, none4, mark] <;> grind
  | 0, 3, _, _ => simp [mvL, sgn, vol, volSum, none4, mark] <;> grind
  | 1, 0, _, _ => simp [mvL, sgn, vol, volSum, none4, mark] <;> grind
  | 1, 1, _, _ => simp [mvL, sgn, vol, volSum, none4, mark] <;> grind
  | 1, 2, _, _ => simp [mvL, sgn, vol, volSum, none4, mark] <;> grind
  | 1, 3, _, _ => simp [mvL, sgn, vol, volSum, none4, mark] <;> grind
  | 2, 0, _, _ => simp [mvL, sgn, vol, volSum, none4, mark] <;> grind
  | 2, 1, _, _ => simp [mvL, sgn, vol, volSum, none4, mark] <;> grind
  | 2, 2, _, _ => simp [mvL, sgn, vol, volSum, none4, mark] <;> grind
  | 2, 3, _, _ => simp [mvL, sgn, vol, volSum, none4, mark] <;> grind
  | 3, 0, _, _ => simp [mvL, sgn, vol, volSum, none4, mark] <;> grind
  | 3, 1, _, _ => simp [mvL, sgn, vol, volSum, none4, mark] <;> grind
  | 3, 2, _, _ => simp [mvL, sgn, vol, volSum, none4, mark] <;> grind
  | 3, 3, _, _ => simp [mvL, sgn, vol, volSum, none4, mark] <;> grind

theorem moved (n : Nat) (ls : List (List Int)) (h : Sq n ls) (h1 : 1 ≤ n) (h4 : n ≤ 4) (i i' : Nat) (hi : i < n) (hi' : i' < n) : vol (mvL ls i i') none4 = sgn (i + i') * vol ls none4 := by
  obtain ⟨hl, ha⟩ := h
  match n, h1, h4 with
  | 1, _, _ =>
    obtain ⟨x, rfl⟩ := len1 ls hl
    obtain ⟨a, rfl⟩ := len1 x (ha x (by simp))
    exact mv1 a i i' hi hi'
  | 2, _, _ =>
    obtain ⟨x, y, rfl⟩ := len2 ls hl
    obtain ⟨a, b, rfl⟩ := len2 x (ha x (by simp))
    obtain ⟨c, d, rfl⟩ := len2 y (ha y (by simp))
    exact mv2 _ _ _ _ i i' hi hi'
  | 3, _, _ =>
    obtain ⟨x, y, z, rfl⟩ := len3 ls hl
    obtain ⟨a, b, c, rfl⟩ := len3 x (ha x (by simp))
    obtain ⟨d, e, f, rfl⟩ := len3 y (ha y (by simp))
    obtain ⟨g, h, j, rfl⟩ := len3 z (ha z (by simp))
    exact mv3 _ _ _ _ _ _ _ _ _ i i' hi hi'
  | 4, _, _ =>
    obtain ⟨x, y, z, u, rfl⟩ := len4 ls hl
    obtain ⟨a, b, c, d, rfl⟩ := len4 x (ha x (by simp))
    obtain ⟨e, f, g, h, rfl⟩ := len4 y (ha y (by simp))
    obtain ⟨j, k, l, m, rfl⟩ := len4 z (ha z (by simp))
    obtain ⟨n', o, p, q, rfl⟩ := len4 u (ha u (by simp))
    exact mv4 _ _ _ _ _ _ _ _ _ _ _ _ _ _ _ _ i i' hi hi'

end Num
end Go.Proofs.YtipcbhodlgoflabGreat

/- One column out, another in: what becomes of a corner, in plain numbers. -/
namespace Go.Proofs.YtipcbhodlgoflabGreat
namespace Num

theorem spread_in (N : Nat) (at' s : List Int) (m : Nat) (hr : rightB at' m N = true) : ∀ k, k ≤ m → ∀ i, i < k → (spreadN N at' s k)[atF at' i]?.getD 0 = s[i]?.getD 0 := by
  intro k
  induction k with
  | zero => intro _ i hi; omega
  | succ k ih =>
    intro hk i hi
    unfold spreadN
    by_cases hik : i = k
    · subst hik
      rw [List.getElem?_set_self (by rw [spread_len]; exact atF_lt at' N m hr i (by omega)), Option.getD_some]
    · have := atF_rise at' N m hr k (by omega) i (by omega)
      rw [List.getElem?_set, if_neg (by omega)]
      exact ih (by omega) i (by omega)

/-- Is column j among those of at? -/
def inB (at' : List Int) (m j : Nat) : Bool := (List.range m).any fun i => atF at' i == j

theorem inB_true (at' : List Int) (m j : Nat) : inB at' m j = true ↔ ∃ i, i < m ∧ atF at' i = j := by
  unfold inB
  simp [List.any_eq_true, List.mem_range]

theorem inB_false (at' : List Int) (m j : Nat) : inB at' m j = false ↔ ∀ i, i < m → atF at' i ≠ j := by
  unfold inB
  simp [List.any_eq_false, List.mem_range]

theorem sum_on (f : Nat → Int) (N : Nat) (at' : List Int) (m : Nat) (hr : rightB at' m N = true) (h : ∀ j, j < N → inB at' m j = false → f j = 0) : sumN f N = sumN (fun l => f (atF at' l)) m := by
  have e := spread_sum f N at' ((List.range m).map fun _ => 1) m hr m (Nat.le_refl _)
  have e1 : sumN (fun j => f j * (spreadN N at' ((List.range m).map fun _ => 1) m)[j]?.getD 0) N = sumN f N := by
    refine sumN_congr _ _ _ fun j hj => ?_
    cases hb : inB at' m j with
    | false => rw [h j hj hb]; omega
    | true =>
      obtain ⟨i, hi, rfl⟩ := (inB_true at' m j).1 hb
      rw [spread_in N at' _ m hr m (Nat.le_refl _) i hi, range_getD, if_pos hi]; omega
  rw [← e1, e]
  refine sumN_congr _ _ _ fun i hi => ?_
  rw [range_getD, if_pos hi]; omega

def colF (p : Lp) (m j : Nat) : List Int := (List.range m).map (hasF p j)

theorem chosen_at (p : Lp) (at' : List Int) (m l i : Nat) (hl : l < m) (hi : i < m) : at2 (chosenL p at' m) l i = hasF p (atF at' l) i := by
  unfold chosenL
  rw [at2_range, if_pos hl, range_getD, if_pos hi]

theorem chosen_map (p : Lp) (at' : List Int) (m : Nat) (h : at'.length = m) : chosenL p at' m = at'.map fun z => colF p m z.toNat := by
  unfold chosenL
  apply List.ext_getElem
  · simp [h]
  · intro i h1 h2
    simp only [List.length_map, List.length_range] at h1
    simp only [List.getElem_map, List.getElem_range, colF, atF]
    rw [List.getElem?_eq_getElem (by omega)]
    rfl

/-- Nothing but nought stays within a corner's columns. -/
theorem within_none (p : Lp) (at' : List Int) (m N : Nat) (hr : rightB at' m N = true) (h1 : 1 ≤ m) (h4 : m ≤ 4) (hd : denL p at' m ≠ 0) (v : Nat → Int) (hv : ∀ j, j < N → inB at' m j = false → v j = 0) (ha : ∀ i, i < m → sumN (fun j => hasF p j i * v j) N = 0) (j : Nat) (hj : j < N) : v j = 0 := by
  cases hb : inB at' m j with
  | false => exact hv j hj hb
  | true =>
    obtain ⟨k, hk, rfl⟩ := (inB_true at' m j).1 hb
    have h0 := indep m (chosenL p at' m) (chosen_sq p at' m) h1 h4 (fun l => v (atF at' l)) (fun i hi => by
      have := ha i hi
      rw [sum_on (fun j => hasF p j i * v j) N at' m hr fun j hj hb => by show hasF p j i * v j = 0; rw [hv j hj hb]; omega] at this
      rw [← this]
      refine sumN_congr _ _ _ fun l hl => ?_
      rw [chosen_at p at' m l i hl hi]; grind) k hk
    exact (Int.mul_eq_zero.1 h0).resolve_left hd

/-- How the columns of a corner make another column up, as often as their volume says. -/
def wayL (p : Lp) (at' : List Int) (m s : Nat) : List Int := sharesL (chosenL p at' m) (colF p m s) m

/-- The way along which column s grows. -/
def dirF (p : Lp) (at' : List Int) (m N s j : Nat) : Int := if j = s then denL p at' m else -(spreadN N at' (wayL p at' m s) m)[j]?.getD 0

theorem dir_level (p : Lp) (at' : List Int) (m N s : Nat) (hr : rightB at' m N = true) (h1 : 1 ≤ m) (h4 : m ≤ 4) (hs : s < N) (hsb : inB at' m s = false) (i : Nat) (hi : i < m) : sumN (fun j => hasF p j i * dirF p at' m N s j) N = 0 := by
  have hc := cramer m (chosenL p at' m) (colF p m s) (chosen_sq p at' m) (by unfold colF; simp) h1 h4 i hi
  unfold crm at hc
  rw [dotN_sum] at hc
  have e1 : (colF p m s)[i]?.getD 0 = hasF p s i := by unfold colF; rw [range_getD, if_pos hi]
  rw [e1] at hc
  have hsp := spread_sum (fun j => hasF p j i) N at' (wayL p at' m s) m hr m (Nat.le_refl _)
  have e2 : sumN (fun l => hasF p (atF at' l) i * (wayL p at' m s)[l]?.getD 0) m = vol (chosenL p at' m) none4 * hasF p s i := by
    rw [← hc]
    refine sumN_congr _ _ _ fun l hl => ?_
    rw [range_getD, if_pos hl, chosen_at p at' m l i hl hi]
    unfold wayL; grind
  have h0 : (spreadN N at' (wayL p at' m s) m)[s]?.getD 0 = 0 := spread_not _ _ _ _ _ ((inB_false at' m s).1 hsb)
  have e3 : sumN (fun j => hasF p j i * dirF p at' m N s j) N = sumN (fun j => (-1) * (hasF p j i * (spreadN N at' (wayL p at' m s) m)[j]?.getD 0) + (if j = s then 1 else 0) * (hasF p j i * denL p at' m)) N := by
    refine sumN_congr _ _ _ fun j hj => ?_
    unfold dirF
    by_cases hjs : j = s
    · subst hjs; rw [if_pos rfl, if_pos rfl, h0]; grind
    · rw [if_neg hjs, if_neg hjs]; grind
  rw [e3, sumN_add, sumN_mul, hsp, e2, sum_one (fun j => hasF p j i * denL p at' m) s N hs]
  unfold denL; grind

/-- The column at place k out, column s in at place k'. -/
def swapI (at' : List Int) (k k' : Nat) (s : Nat) : List Int := (at'.eraseIdx k).insertIdx k' (s : Int)

theorem map_insertIdx {α β : Type} (f : α → β) (l : List α) (k : Nat) (a : α) : (l.insertIdx k a).map f = (l.map f).insertIdx k (f a) := by
  induction l generalizing k with
  | nil => cases k <;> simp
  | cons b l ih => cases k with
    | zero => simp
    | succ k => simp [ih]

theorem map_eraseIdx {α β : Type} (f : α → β) (l : List α) (k : Nat) : (l.eraseIdx k).map f = (l.map f).eraseIdx k := by
  induction l generalizing k with
  | nil => simp
  | cons b l ih => cases k with
    | zero => simp
    | succ k => simp [ih]

theorem eraseIdx_set {α : Type} (l : List α) (k : Nat) (a : α) : (l.set k a).eraseIdx k = l.eraseIdx k := by
  induction l generalizing k with
  | nil => simp
  | cons b l ih => cases k with
    | zero => simp
    | succ k => simp [ih]

theorem swap_len (at' : List Int) (k k' s m : Nat) (h : at'.length = m) (hk : k < m) (hk' : k' < m) : (swapI at' k k' s).length = m := by
  unfold swapI
  rw [List.length_insertIdx, List.length_eraseIdx]
  split <;> split <;> omega

theorem den_swap (p : Lp) (at' : List Int) (k k' s m : Nat) (h : at'.length = m) (h1 : 1 ≤ m) (h4 : m ≤ 4) (hk : k < m) (hk' : k' < m) : denL p (swapI at' k k' s) m = sgn (k + k') * (wayL p at' m s)[k]?.getD 0 := by
  have e : chosenL p (swapI at' k k' s) m = mvL ((chosenL p at' m).set k (colF p m s)) k k' := by
    rw [chosen_map p _ m (swap_len at' k k' s m h hk hk'), chosen_map p at' m h]
    unfold swapI mvL
    rw [map_insertIdx, map_eraseIdx, eraseIdx_set, List.getElem?_set_self (by simp; omega)]
    rfl
  have hq : Sq m ((chosenL p at' m).set k (colF p m s)) := by
    have hs := chosen_sq p at' m
    refine ⟨by rw [List.length_set]; exact hs.1, fun l hl => ?_⟩
    rcases List.mem_or_eq_of_mem_set hl with h | rfl
    · exact hs.2 l h
    · unfold colF; simp
  unfold denL
  rw [e, moved m _ hq h1 h4 k k' hk hk']
  unfold wayL sharesL
  rw [range_getD, if_pos hk]

end Num
end Go.Proofs.YtipcbhodlgoflabGreat

/- What a corner's numbers become as one column goes out and another in, in plain numbers. -/
namespace Go.Proofs.YtipcbhodlgoflabGreat
namespace Num

theorem x_level (p : Lp) (at' : List Int) (m N : Nat) (hr : rightB at' m N = true) (h1 : 1 ≤ m) (h4 : m ≤ 4) (i : Nat) (hi : i < m) : sumN (fun j => hasF p j i * (xL p at' m N)[j]?.getD 0) N = denL p at' m * mostF p i := by
  have hc := cramer m (chosenL p at' m) (mostsL p m) (chosen_sq p at' m) (by unfold mostsL; simp) h1 h4 i hi
  unfold crm at hc
  rw [dotN_sum] at hc
  have e1 : (mostsL p m)[i]?.getD 0 = mostF p i := by unfold mostsL; rw [range_getD, if_pos hi]
  rw [e1] at hc
  unfold xL
  rw [spread_sum (fun j => hasF p j i) N at' _ m hr m (Nat.le_refl _)]
  unfold denL
  rw [← hc]
  refine sumN_congr _ _ _ fun l hl => ?_
  rw [range_getD, if_pos hl, chosen_at p at' m l i hl hi]
  grind

theorem x_not (p : Lp) (at' : List Int) (m N j : Nat) (h : inB at' m j = false) : (xL p at' m N)[j]?.getD 0 = 0 := spread_not _ _ _ _ _ ((inB_false at' m j).1 h)

theorem dir_not (p : Lp) (at' : List Int) (m N s j : Nat) (h : inB at' m j = false) (hs : j ≠ s) : dirF p at' m N s j = 0 := by
  unfold dirF
  rw [if_neg hs, spread_not _ _ _ _ _ ((inB_false at' m j).1 h)]; rfl

theorem dir_in (p : Lp) (at' : List Int) (m N s k : Nat) (hr : rightB at' m N = true) (hk : k < m) (hs : inB at' m s = false) : dirF p at' m N s (atF at' k) = -(wayL p at' m s)[k]?.getD 0 := by
  unfold dirF
  rw [if_neg ((inB_false at' m s).1 hs k hk), spread_in N at' _ m hr m (Nat.le_refl _) k hk]

/-- The numbers of the next corner. -/
theorem exchange (p : Lp) (at' at2' : List Int) (m N s k : Nat) (hr : rightB at' m N = true) (hr2 : rightB at2' m N = true) (h1 : 1 ≤ m) (h4 : m ≤ 4) (hs : s < N) (hsb : inB at' m s = false) (hk : k < m)
    (hin : ∀ j, inB at2' m j = (if j = s then true else if j = atF at' k then false else inB at' m j)) (hd2 : denL p at2' m ≠ 0) (j : Nat) (hj : j < N) :
    (xL p at2' m N)[j]?.getD 0 * denL p at' m * (wayL p at' m s)[k]?.getD 0 = denL p at2' m * ((xL p at' m N)[j]?.getD 0 * (wayL p at' m s)[k]?.getD 0 + (xL p at' m N)[atF at' k]?.getD 0 * dirF p at' m N s j) := by
  have hdk := dir_in p at' m N s k hr hk hsb
  generalize hw : (wayL p at' m s)[k]?.getD 0 = w at *
  generalize hxo : (xL p at' m N)[atF at' k]?.getD 0 = xo at *
  have h0 := within_none p at2' m N hr2 h1 h4 hd2 (fun j => (xL p at2' m N)[j]?.getD 0 * denL p at' m * w - denL p at2' m * ((xL p at' m N)[j]?.getD 0 * w + xo * dirF p at' m N s j))
    (fun j hj hb => by
      show (xL p at2' m N)[j]?.getD 0 * denL p at' m * w - denL p at2' m * ((xL p at' m N)[j]?.getD 0 * w + xo * dirF p at' m N s j) = 0
      rw [x_not p at2' m N j hb]
      rw [hin j] at hb
      by_cases hjs : j = s
      · rw [if_pos hjs] at hb; cases hb
      · rw [if_neg hjs] at hb
        by_cases hjo : j = atF at' k
        · subst hjo; rw [hxo, hdk]; grind
        · rw [if_neg hjo] at hb
          rw [x_not p at' m N j hb, dir_not p at' m N s j hb hjs]; grind)
    (fun i hi => by
      have a1 := x_level p at' m N hr h1 h4 i hi
      have a2 := x_level p at2' m N hr2 h1 h4 i hi
      have a3 := dir_level p at' m N s hr h1 h4 hs hsb i hi
      have e : sumN (fun j => hasF p j i * ((xL p at2' m N)[j]?.getD 0 * denL p at' m * w - denL p at2' m * ((xL p at' m N)[j]?.getD 0 * w + xo * dirF p at' m N s j))) N
          = sumN (fun j => (denL p at' m * w) * (hasF p j i * (xL p at2' m N)[j]?.getD 0) + ((-(denL p at2' m * w)) * (hasF p j i * (xL p at' m N)[j]?.getD 0) + (-(denL p at2' m * xo)) * (hasF p j i * dirF p at' m N s j))) N :=
        sumN_congr _ _ _ fun j _ => by grind
      rw [e, sumN_add, sumN_add, sumN_mul, sumN_mul, sumN_mul, a1, a2, a3]
      grind) j hj
  have h0' : (xL p at2' m N)[j]?.getD 0 * denL p at' m * w - denL p at2' m * ((xL p at' m N)[j]?.getD 0 * w + xo * dirF p at' m N s j) = 0 := h0
  omega

end Num
end Go.Proofs.YtipcbhodlgoflabGreat

/- A walk from corner to corner never comes back to the same columns, and its worth never falls: in plain numbers. -/
namespace Go.Proofs.YtipcbhodlgoflabGreat
namespace Num

/-- The sign of a corner's volume. -/
def sgD (p : Lp) (at' : List Int) (m : Nat) : Int := if denL p at' m < 0 then -1 else 1

theorem sgD_sq (p : Lp) (at' : List Int) (m : Nat) : sgD p at' m * sgD p at' m = 1 := by unfold sgD; split <;> rfl

theorem sgD_pos (p : Lp) (at' : List Int) (m : Nat) (h : denL p at' m ≠ 0) : 0 < sgD p at' m * denL p at' m := by unfold sgD; split <;> omega

/-- From at' one goes on to at2': column s in, the column at place k out. -/
structure NextOk (p : Lp) (at' at2' : List Int) (m N s k : Nat) : Prop where
  right : rightB at' m N = true
  right2 : rightB at2' m N = true
  den : denL p at' m ≠ 0
  den2 : denL p at2' m ≠ 0
  sN : s < N
  sg : 0 < sgD p at' m * (gainL p at' m N)[s]?.getD 0
  sl : ∀ j, j < s → sgD p at' m * (gainL p at' m N)[j]?.getD 0 ≤ 0
  km : k < m
  falls : 0 < sgD p at' m * (wayL p at' m s)[k]?.getD 0
  least : ∀ l, l < m → 0 < sgD p at' m * (wayL p at' m s)[l]?.getD 0 → (xL p at' m N)[atF at' k]?.getD 0 * (wayL p at' m s)[l]?.getD 0 = (xL p at' m N)[atF at' l]?.getD 0 * (wayL p at' m s)[k]?.getD 0 → k ≤ l
  inn : ∀ j, inB at2' m j = (if j = s then true else if j = atF at' k then false else inB at' m j)

theorem NextOk.out {p : Lp} {at' at2' : List Int} {m n s k : Nat} (h : NextOk p at' at2' m (n + m) s k) (hmay : p.may = true) (hm : m = p.rows.length) : inB at' m s = false := by
  cases hb : inB at' m s with
  | false => rfl
  | true =>
    obtain ⟨i, hi, hs⟩ := (inB_true at' m s).1 hb
    have := comes_gain p at' m n hmay hm h.right i hi
    have h2 := h.sg
    rw [← hs, this] at h2
    omega

theorem steps_of (p : Lp) (m n : Nat) (hmay : p.may = true) (hm : m = p.rows.length) (ats : Nat → List Int) (ss ks : Nat → Nat) (K : Nat) (hx : ∀ q j : Nat, q ≤ K → 0 ≤ sgD p (ats q) m * (xL p (ats q) m (n + m))[j]?.getD 0) (hd : ∀ q, q ≤ K → denL p (ats q) m ≠ 0)
    (h : ∀ q, q < K → NextOk p (ats q) (ats (q + 1)) m (n + m) (ss q) (ks q)) :
    Steps (n + m) m (fun j => p.costs[j]?.getD 0) (fun i j => hasF p j i) (fun q j => inB (ats q) m j) (fun q j => sgD p (ats q) m * (xL p (ats q) m (n + m))[j]?.getD 0) (fun q => sgD p (ats q) m * denL p (ats q) m)
      (fun q j => sgD p (ats q) m * (gainL p (ats q) m (n + m))[j]?.getD 0) (fun q => sgD p (ats q) m * denL p (ats q) m) (fun q i => sgD p (ats q) m * (priceL p (ats q) m)[i]?.getD 0)
      (fun q j => sgD p (ats q) m * dirF p (ats q) m (n + m) (ss q) j) ss (fun q => atF (ats q) (ks q)) K := by
  have h1 : 1 ≤ m := by have := (p.may_of hmay).2.2.1.1; omega
  have h4 : m ≤ 4 := by have := (p.may_of hmay).2.2.1.2; omega
  have hso : ∀ q, q < K → inB (ats q) m (ss q) = false := fun q hq => (h q hq).out hmay hm
  have hdo : ∀ q, q < K → dirF p (ats q) m (n + m) (ss q) (atF (ats q) (ks q)) = -(wayL p (ats q) m (ss q))[ks q]?.getD 0 := fun q hq => dir_in p (ats q) m (n + m) (ss q) (ks q) (h q hq).right (h q hq).km (hso q hq)
  refine ⟨fun q hq => sgD_pos p _ m (hd q hq), fun q hq => sgD_pos p _ m (hd q (by omega)), fun q j hq => hx q j hq, ?_, ?_, ?_, ?_, ?_, fun q hq => (h q hq).sN, fun q hq => (h q hq).sg, fun q j hq hj => (h q hq).sl j hj, fun q hq => atF_lt _ _ m (h q hq).right _ (h q hq).km, fun q hq => (inB_true _ _ _).2 ⟨_, (h q hq).km, rfl⟩, ?_, ?_, fun q j hq => (h q hq).inn j, ?_⟩
  · intro q j hq hb
    obtain ⟨i, hi, rfl⟩ := (inB_true _ _ _).1 hb
    show sgD p (ats q) m * _ = 0
    rw [comes_gain p (ats q) m n hmay hm (h q hq).right i hi]; omega
  · intro q j hq hj
    show sgD p (ats q) m * _ = _
    unfold gainL
    rw [range_getD, if_pos hj]
    unfold gainF
    rw [← hm, dotN_sum]
    have e : sumN (fun i => sgD p (ats q) m * (priceL p (ats q) m)[i]?.getD 0 * hasF p j i) m = sgD p (ats q) m * sumN (fun i => ((List.range m).map (hasF p j))[i]?.getD 0 * (priceL p (ats q) m)[i]?.getD 0) m := by
      rw [← sumN_mul]
      refine sumN_congr _ _ _ fun i hi => ?_
      rw [range_getD, if_pos hi]; grind
    rw [e]; grind
  · intro q i hq hi
    have e : sumN (fun j => hasF p j i * (sgD p (ats q) m * dirF p (ats q) m (n + m) (ss q) j)) (n + m) = sgD p (ats q) m * sumN (fun j => hasF p j i * dirF p (ats q) m (n + m) (ss q) j) (n + m) := by
      rw [← sumN_mul]; exact sumN_congr _ _ _ fun j _ => by grind
    show sumN (fun j => hasF p j i * (sgD p (ats q) m * dirF p (ats q) m (n + m) (ss q) j)) (n + m) = 0
    rw [e, dir_level p (ats q) m (n + m) (ss q) (h q hq).right h1 h4 (h q hq).sN (hso q hq) i hi]; omega
  · intro q j hq hb hne
    show sgD p (ats q) m * _ = 0
    rw [dir_not p (ats q) m (n + m) (ss q) j hb hne]; omega
  · intro q hq
    show 0 < sgD p (ats q) m * dirF p (ats q) m (n + m) (ss q) (ss q)
    unfold dirF
    rw [if_pos rfl]
    exact sgD_pos p _ m (hd q (by omega))
  · intro q hq
    show sgD p (ats q) m * dirF p (ats q) m (n + m) (ss q) (atF (ats q) (ks q)) < 0
    rw [hdo q hq]
    have := (h q hq).falls
    rw [Int.mul_neg]; omega
  · intro q j hq hb hdn he
    obtain ⟨l, hl, rfl⟩ := (inB_true _ _ _).1 hb
    have hdl := dir_in p (ats q) m (n + m) (ss q) l (h q hq).right hl (hso q hq)
    rw [hdl] at hdn he
    rw [hdo q hq] at he
    rw [Int.mul_neg] at hdn
    have hsq := sgD_sq p (ats q) m
    have e2 : (xL p (ats q) m (n + m))[atF (ats q) (ks q)]?.getD 0 * (wayL p (ats q) m (ss q))[l]?.getD 0 = (xL p (ats q) m (n + m))[atF (ats q) l]?.getD 0 * (wayL p (ats q) m (ss q))[ks q]?.getD 0 := by
      generalize (xL p (ats q) m (n + m))[atF (ats q) (ks q)]?.getD 0 = x1 at *
      generalize (wayL p (ats q) m (ss q))[l]?.getD 0 = w1 at *
      generalize (xL p (ats q) m (n + m))[atF (ats q) l]?.getD 0 = x2 at *
      generalize (wayL p (ats q) m (ss q))[ks q]?.getD 0 = w2 at *
      generalize sgD p (ats q) m = g at *
      have a1 : (g * g) * (x1 * w1) = (g * g) * (x2 * w2) := by grind
      rw [hsq] at a1
      omega
    have hkl := (h q hq).least l hl (by omega) e2
    show atF (ats q) (ks q) ≤ atF (ats q) l
    by_cases hkl2 : ks q = l
    · rw [hkl2]; exact Nat.le_refl _
    · have := atF_rise (ats q) _ m (h q hq).right l hl (ks q) (by omega); omega
  · intro q j hq hj
    have he := exchange p (ats q) (ats (q + 1)) m (n + m) (ss q) (ks q) (h q hq).right (h q hq).right2 h1 h4 (h q hq).sN (hso q hq) (h q hq).km (h q hq).inn (h q hq).den2 j hj
    rw [hdo q hq]
    have hsq := sgD_sq p (ats q) m
    generalize (xL p (ats (q + 1)) m (n + m))[j]?.getD 0 = y1 at *
    generalize (xL p (ats q) m (n + m))[j]?.getD 0 = y2 at *
    generalize (xL p (ats q) m (n + m))[atF (ats q) (ks q)]?.getD 0 = y3 at *
    generalize (wayL p (ats q) m (ss q))[ks q]?.getD 0 = w at *
    generalize dirF p (ats q) m (n + m) (ss q) j = dd at *
    generalize denL p (ats q) m = D at *
    generalize denL p (ats (q + 1)) m = D2 at *
    generalize sgD p (ats q) m = g at *
    generalize sgD p (ats (q + 1)) m = g2 at *
    have a1 : g2 * y1 * (g * D) * (-(g * -w)) = g2 * (g * g) * (y1 * D * w) := by grind
    have a2 : g2 * D2 * (g * y2 * (-(g * -w)) + g * y3 * (g * dd)) = g2 * (g * g) * (D2 * (y2 * w + y3 * dd)) := by grind
    rw [a1, a2, he]

/-- No columns come twice. -/
theorem walk_new (p : Lp) (m n : Nat) (hmay : p.may = true) (hm : m = p.rows.length) (ats : Nat → List Int) (ss ks : Nat → Nat) (K : Nat) (hx : ∀ q j : Nat, q ≤ K → 0 ≤ sgD p (ats q) m * (xL p (ats q) m (n + m))[j]?.getD 0) (hd : ∀ q, q ≤ K → denL p (ats q) m ≠ 0)
    (h : ∀ q, q < K → NextOk p (ats q) (ats (q + 1)) m (n + m) (ss q) (ks q)) (a b : Nat) (hab : a < b) (hb : b ≤ K) : ats a ≠ ats b := by
  intro e
  exact (steps_of p m n hmay hm ats ss ks K hx hd h).never_back a b hab hb (fun j => by show inB (ats a) m j = inB (ats b) m j; rw [e]) (fun j _ => by show sgD p (ats a) m * _ * _ = sgD p (ats b) m * _ * _; rw [e])

end Num
end Go.Proofs.YtipcbhodlgoflabGreat

/- A walk stays among the corners that go, and ends: in plain numbers. -/
namespace Go.Proofs.YtipcbhodlgoflabGreat
namespace Num

/-- The next corner goes too, if the column that goes out is among the nearest. -/
theorem next_above (p : Lp) (at' at2' : List Int) (m n s k : Nat) (hmay : p.may = true) (hm : m = p.rows.length) (h : NextOk p at' at2' m (n + m) s k) (hx : ∀ j : Nat, 0 ≤ sgD p at' m * (xL p at' m (n + m))[j]?.getD 0)
    (hn : ∀ l, l < m → 0 < sgD p at' m * (wayL p at' m s)[l]?.getD 0 → (sgD p at' m * (xL p at' m (n + m))[atF at' k]?.getD 0) * (sgD p at' m * (wayL p at' m s)[l]?.getD 0) ≤ (sgD p at' m * (xL p at' m (n + m))[atF at' l]?.getD 0) * (sgD p at' m * (wayL p at' m s)[k]?.getD 0)) :
    ∀ j : Nat, 0 ≤ sgD p at2' m * (xL p at2' m (n + m))[j]?.getD 0 := by
  intro j
  have h1 : 1 ≤ m := by have := (p.may_of hmay).2.2.1.1; omega
  have h4 : m ≤ 4 := by have := (p.may_of hmay).2.2.1.2; omega
  have hsb := h.out hmay hm
  by_cases hj : j < n + m
  · have he := exchange p at' at2' m (n + m) s k h.right h.right2 h1 h4 h.sN hsb h.km h.inn h.den2 j hj
    have hsq := sgD_sq p at' m
    have hD := sgD_pos p at' m h.den
    have hD2 := sgD_pos p at2' m h.den2
    have hw := h.falls
    have hxj := hx j
    have hxo := hx (atF at' k)
    have hR : 0 ≤ (sgD p at' m * (xL p at' m (n + m))[j]?.getD 0) * (sgD p at' m * (wayL p at' m s)[k]?.getD 0) + (sgD p at' m * (xL p at' m (n + m))[atF at' k]?.getD 0) * (sgD p at' m * dirF p at' m (n + m) s j) := by
      cases hb : inB at' m j with
      | false =>
        by_cases hjs : j = s
        · subst hjs
          have : dirF p at' m (n + m) j j = denL p at' m := by unfold dirF; rw [if_pos rfl]
          rw [this]
          have a1 := Int.mul_nonneg hxj (Int.le_of_lt hw)
          have a2 := Int.mul_nonneg hxo (Int.le_of_lt hD)
          omega
        · rw [dir_not p at' m (n + m) s j hb hjs, Int.mul_zero, Int.mul_zero, Int.add_zero]
          exact Int.mul_nonneg hxj (Int.le_of_lt hw)
      | true =>
        obtain ⟨l, hl, rfl⟩ := (inB_true at' m j).1 hb
        rw [dir_in p at' m (n + m) s l h.right hl hsb, Int.mul_neg, Int.mul_neg]
        by_cases hwl : 0 < sgD p at' m * (wayL p at' m s)[l]?.getD 0
        · have := hn l hl hwl
          omega
        · have a1 := Int.mul_nonneg hxj (Int.le_of_lt hw)
          have a2 := Int.mul_nonpos_of_nonneg_of_nonpos hxo (Int.not_lt.1 hwl)
          omega
    generalize (xL p at2' m (n + m))[j]?.getD 0 = y1 at *
    generalize (xL p at' m (n + m))[j]?.getD 0 = y2 at *
    generalize (xL p at' m (n + m))[atF at' k]?.getD 0 = y3 at he hR
    generalize (wayL p at' m s)[k]?.getD 0 = w at he hR hw
    generalize dirF p at' m (n + m) s j = dd at *
    generalize denL p at' m = D at *
    generalize denL p at2' m = D2 at *
    generalize sgD p at' m = g at *
    generalize sgD p at2' m = g2 at *
    have e : (g2 * y1) * ((g * D) * (g * w)) = (g2 * D2) * ((g * y2) * (g * w) + (g * y3) * (g * dd)) := by
      have a1 : (g2 * y1) * ((g * D) * (g * w)) = g2 * (g * g) * (y1 * D * w) := by grind
      have a2 : (g2 * D2) * ((g * y2) * (g * w) + (g * y3) * (g * dd)) = g2 * (g * g) * (D2 * (y2 * w + y3 * dd)) := by grind
      rw [a1, a2, he]
    have q1 := Int.mul_pos hD hw
    have q2 := Int.mul_nonneg (Int.le_of_lt hD2) hR
    by_cases hneg : 0 ≤ g2 * y1
    · exact hneg
    · have := Int.mul_neg_of_neg_of_pos (Int.not_le.1 hneg) q1
      omega
  · rw [List.getElem?_eq_none (by unfold xL; rw [spread_len]; omega)]
    show 0 ≤ sgD p at2' m * 0
    omega

theorem pigeon (n : Nat) : ∀ f : Nat → Nat, (∀ i, i ≤ n → f i < n) → ∃ i j, i < j ∧ j ≤ n ∧ f i = f j := by
  induction n with
  | zero => intro f h; have := h 0 (Nat.le_refl _); omega
  | succ n ih =>
    intro f h
    by_cases hex : ∃ i, i ≤ n ∧ f i = f (n + 1)
    · obtain ⟨i, hi, he⟩ := hex
      exact ⟨i, n + 1, by omega, by omega, he⟩
    · have hne : ∀ i, i ≤ n → f i ≠ f (n + 1) := fun i hi he => hex ⟨i, hi, he⟩
      have hl := h (n + 1) (Nat.le_refl _)
      obtain ⟨i, j, hij, hj, he⟩ := ih (fun i => if f i = n then f (n + 1) else f i) (fun i hi => by
        have a1 := h i (by omega)
        have a2 := hne i hi
        show (if f i = n then f (n + 1) else f i) < n
        split <;> omega)
      refine ⟨i, j, hij, by omega, ?_⟩
      have a1 := hne i (by omega)
      have a2 := hne j hj
      have he' : (if f i = n then f (n + 1) else f i) = (if f j = n then f (n + 1) else f j) := he
      split at he' <;> split at he' <;> omega

/-- The columns as one number. -/
def codeN (at' : List Int) : Nat := atF at' 0 + 8 * atF at' 1 + 64 * atF at' 2 + 512 * atF at' 3

theorem atF_over (at' : List Int) (i : Nat) (h : at'.length ≤ i) : atF at' i = 0 := by
  unfold atF
  rw [List.getElem?_eq_none h]; rfl

theorem atF_8 (at' : List Int) (m N : Nat) (hr : rightB at' m N = true) (h8 : N ≤ 8) (i : Nat) : atF at' i < 8 := by
  by_cases hi : i < m
  · have := atF_lt at' N m hr i hi; omega
  · have hl := (right_all at' m N hr).1
    rw [atF_over at' i (by omega)]; omega

theorem code_lt (at' : List Int) (m N : Nat) (hr : rightB at' m N = true) (h8 : N ≤ 8) : codeN at' < 4096 := by
  have a0 := atF_8 at' m N hr h8 0
  have a1 := atF_8 at' m N hr h8 1
  have a2 := atF_8 at' m N hr h8 2
  have a3 := atF_8 at' m N hr h8 3
  unfold codeN; omega

theorem code_one (at' at2' : List Int) (m N : Nat) (hr : rightB at' m N = true) (hr2 : rightB at2' m N = true) (h4 : m ≤ 4) (h8 : N ≤ 8) (he : codeN at' = codeN at2') : at' = at2' := by
  have a0 := atF_8 at' m N hr h8 0
  have a1 := atF_8 at' m N hr h8 1
  have a2 := atF_8 at' m N hr h8 2
  have b0 := atF_8 at2' m N hr2 h8 0
  have b1 := atF_8 at2' m N hr2 h8 1
  have b2 := atF_8 at2' m N hr2 h8 2
  unfold codeN at he
  have hall : ∀ i, i < m → atF at' i = atF at2' i := by
    intro i hi
    match i, (show i < 4 by omega) with
    | 0, _ => omega
    | 1, _ => omega
    | 2, _ => omega
    | 3, _ => omega
  obtain ⟨l1, c1⟩ := right_all at' m N hr
  obtain ⟨l2, c2⟩ := right_all at2' m N hr2
  apply List.ext_getElem (by omega)
  intro i g1 g2
  have e := hall i (by omega)
  have d1 := c1 i (by omega)
  have d2 := c2 i (by omega)
  unfold atF at e
  rw [List.getElem?_eq_getElem g1] at e d1
  rw [List.getElem?_eq_getElem g2] at e d2
  simp only [Option.getD_some] at e d1 d2
  omega

/-- A walk has fewer than 4096 steps. -/
theorem walk_ends (p : Lp) (m n : Nat) (hmay : p.may = true) (hm : m = p.rows.length) (h8 : n + m ≤ 8) (ats : Nat → List Int) (ss ks : Nat → Nat) (K : Nat) (hx : ∀ q j : Nat, q ≤ K → 0 ≤ sgD p (ats q) m * (xL p (ats q) m (n + m))[j]?.getD 0) (hd : ∀ q, q ≤ K → denL p (ats q) m ≠ 0) (hr : ∀ q, q ≤ K → rightB (ats q) m (n + m) = true)
    (h : ∀ q, q < K → NextOk p (ats q) (ats (q + 1)) m (n + m) (ss q) (ks q)) : K < 4096 := by
  have h4 : m ≤ 4 := by have := (p.may_of hmay).2.2.1.2; omega
  by_cases hK : K < 4096
  · exact hK
  · obtain ⟨i, j, hij, hj, he⟩ := pigeon 4096 (fun q => codeN (ats q)) fun i hi => code_lt _ m _ (hr i (by omega)) h8
    exact absurd (code_one _ _ m _ (hr i (by omega)) (hr j (by omega)) h4 h8 he) (walk_new p m n hmay hm ats ss ks K hx hd h i j hij (by omega))

end Num
end Go.Proofs.YtipcbhodlgoflabGreat

/- Columns with one out and another in, rising: in plain numbers. -/
namespace Go.Proofs.YtipcbhodlgoflabGreat
namespace Num

theorem right_of (at' : List Int) (m N : Nat) (hl : at'.length = m) (h : ∀ k, k < m → leastN at' k ≤ at'[k]?.getD 0 ∧ at'[k]?.getD 0 < N) : rightB at' m N = true := by
  have : ∀ k, k ≤ m → okN at' N k = true := by
    intro k
    induction k with
    | zero => intro _; rfl
    | succ k ih =>
      intro hk
      rw [okN_succ, ih (by omega)]
      have := h k (by omega)
      simp [this.1, this.2]
  unfold rightB
  rw [this m (Nat.le_refl _)]
  simp [hl]

/-- The place among rising numbers. -/
theorem place_of (e : Nat → Nat) (s : Nat) : ∀ n, (∀ i j, i < j → j < n → e i < e j) → (∀ i, i < n → e i ≠ s) → ∃ k', k' ≤ n ∧ (∀ i, i < k' → e i < s) ∧ (∀ i, k' ≤ i → i < n → s < e i) := by
  intro n
  induction n with
  | zero => intro _ _; exact ⟨0, Nat.le_refl _, fun i hi => by omega, fun i _ hi => by omega⟩
  | succ n ih =>
    intro hr hne
    obtain ⟨k', h1, h2, h3⟩ := ih (fun i j hij hj => hr i j hij (by omega)) (fun i hi => hne i (by omega))
    have hn := hne n (by omega)
    by_cases hk : k' = n
    · by_cases hs : e n < s
      · refine ⟨n + 1, Nat.le_refl _, fun i hi => ?_, fun i hi hi2 => by omega⟩
        by_cases hin : i = n
        · subst hin; exact hs
        · exact h2 i (by omega)
      · refine ⟨n, by omega, fun i hi => h2 i (by omega), fun i hi hi2 => ?_⟩
        have : i = n := by omega
        subst this; omega
    · refine ⟨k', by omega, h2, fun i hi hi2 => ?_⟩
      by_cases hin : i = n
      · subst hin
        have a1 := h3 k' (Nat.le_refl _) (by omega)
        have a2 := hr k' i (by omega) (by omega)
        omega
      · exact h3 i hi (by omega)

/-- The columns but the one at place k. -/
def restF (at' : List Int) (k i : Nat) : Nat := atF at' (if i < k then i else i + 1)

theorem swap_at (at' : List Int) (k k' s m : Nat) (h : at'.length = m) (hk : k < m) (hk' : k' < m) (i : Nat) (hi : i < m) : atF (swapI at' k k' s) i = if i < k' then restF at' k i else if i = k' then s else restF at' k (i - 1) := by
  unfold atF swapI restF atF
  have hle : k' ≤ (at'.eraseIdx k).length := by rw [List.length_eraseIdx]; split <;> omega
  rw [List.getElem?_insertIdx]
  by_cases h1 : i < k'
  · rw [if_pos h1, if_pos h1, List.getElem?_eraseIdx]
    split <;> rfl
  · rw [if_neg h1, if_neg h1]
    by_cases h2 : i = k'
    · subst h2; rw [if_pos rfl, if_pos rfl, if_pos hle]; rfl
    · rw [if_neg h2, if_neg h2, List.getElem?_eraseIdx]
      split <;> rfl

theorem swap_val (at' : List Int) (k k' s m N : Nat) (hr : rightB at' m N = true) (hk : k < m) (hk' : k' < m) (i : Nat) (hi : i < m) : (swapI at' k k' s)[i]?.getD 0 = (atF (swapI at' k k' s) i : Int) := by
  obtain ⟨hl, hv⟩ := right_all at' m N hr
  have hlen := swap_len at' k k' s m hl hk hk'
  have hnn : 0 ≤ (swapI at' k k' s)[i]?.getD 0 := by
    have hmem : ∀ z ∈ swapI at' k k' s, 0 ≤ z := by
      intro z hz
      unfold swapI at hz
      rcases (List.mem_insertIdx (by rw [List.length_eraseIdx]; split <;> omega)).1 hz with rfl | hz
      · omega
      · have hz' := List.mem_of_mem_eraseIdx hz
        obtain ⟨q, hq, rfl⟩ := List.mem_iff_getElem.1 hz'
        have := (hv q (by omega)).1
        rw [List.getElem?_eq_getElem hq] at this
        exact this
    rw [List.getElem?_eq_getElem (by omega)]
    exact hmem _ (List.getElem_mem _)
  unfold atF
  omega

theorem rest_rise (at' : List Int) (k m N : Nat) (hr : rightB at' m N = true) (i j : Nat) (hij : i < j) (hj : j + 1 < m) : restF at' k i < restF at' k j := by
  unfold restF
  refine atF_rise at' N m hr _ ?_ _ ?_
  · split <;> omega
  · split <;> split <;> omega

theorem swap_right (at' : List Int) (k k' s m N : Nat) (hr : rightB at' m N = true) (hk : k < m) (hk' : k' < m) (hs : s < N) (h2 : ∀ i, i < k' → restF at' k i < s) (h3 : ∀ i, k' ≤ i → i + 1 < m → s < restF at' k i) : rightB (swapI at' k k' s) m N = true := by
  obtain ⟨hl, hv⟩ := right_all at' m N hr
  have hv2 := swap_val at' k k' s m N hr hk hk'
  have hat := swap_at at' k k' s m hl hk hk'
  have hrN : ∀ i, i + 1 < m → restF at' k i < N := by
    intro i hi
    unfold restF
    exact atF_lt at' N m hr _ (by split <;> omega)
  have hN : ∀ i, i < m → atF (swapI at' k k' s) i < N := by
    intro i hi
    rw [hat i hi]
    by_cases a1 : i < k'
    · rw [if_pos a1]; exact hrN i (by omega)
    · rw [if_neg a1]
      by_cases a2 : i = k'
      · rw [if_pos a2]; exact hs
      · rw [if_neg a2]; exact hrN (i - 1) (by omega)
  have hri : ∀ i, i + 1 < m → atF (swapI at' k k' s) i < atF (swapI at' k k' s) (i + 1) := by
    intro i hi
    rw [hat i (by omega), hat (i + 1) hi]
    by_cases a1 : i + 1 < k'
    · rw [if_pos (by omega), if_pos a1]
      exact rest_rise at' k m N hr i (i + 1) (by omega) (by omega)
    · by_cases a2 : i + 1 = k'
      · rw [if_pos (by omega), if_neg a1, if_pos a2]
        exact h2 i (by omega)
      · by_cases a3 : i = k'
        · rw [if_neg (by omega), if_pos a3, if_neg a1, if_neg a2]
          exact h3 (i + 1 - 1) (by omega) (by omega)
        · rw [if_neg (by omega), if_neg a3, if_neg a1, if_neg a2]
          exact rest_rise at' k m N hr (i - 1) (i + 1 - 1) (by omega) (by omega)
  refine right_of _ m N (swap_len at' k k' s m hl hk hk') fun i hi => ?_
  have b1 := hN i hi
  rw [hv2 i hi]
  refine ⟨?_, by omega⟩
  cases i with
  | zero => show (0 : Int) ≤ _; omega
  | succ i =>
    show (swapI at' k k' s)[i]?.getD 0 + 1 ≤ _
    rw [hv2 i (by omega)]
    have := hri i hi
    omega

theorem swap_inB (at' : List Int) (k k' s m N : Nat) (hr : rightB at' m N = true) (hk : k < m) (hk' : k' < m) (j : Nat) : inB (swapI at' k k' s) m j = (if j = s then true else if j = atF at' k then false else inB at' m j) := by
  obtain ⟨hl, _⟩ := right_all at' m N hr
  have hat := swap_at at' k k' s m hl hk hk'
  have hdist : ∀ l, l < m → l ≠ k → atF at' l ≠ atF at' k := by
    intro l hlm hne
    by_cases hlk : l < k
    · have := atF_rise at' N m hr k hk l hlk; omega
    · have := atF_rise at' N m hr l hlm k (by omega); omega
  by_cases hjs : j = s
  · rw [if_pos hjs]
    refine (inB_true _ _ _).2 ⟨k', hk', ?_⟩
    rw [hat k' hk', if_neg (by omega), if_pos rfl, hjs]
  · rw [if_neg hjs]
    by_cases hjo : j = atF at' k
    · rw [if_pos hjo]
      refine (inB_false _ _ _).2 fun i hi => ?_
      rw [hat i hi]
      by_cases a1 : i < k'
      · rw [if_pos a1, hjo]
        unfold restF
        exact hdist _ (by split <;> omega) (by split <;> omega)
      · rw [if_neg a1]
        by_cases a2 : i = k'
        · rw [if_pos a2]; omega
        · rw [if_neg a2, hjo]
          unfold restF
          exact hdist _ (by split <;> omega) (by split <;> omega)
    · rw [if_neg hjo]
      cases hb : inB at' m j with
      | false =>
        have hb' := (inB_false _ _ _).1 hb
        refine (inB_false _ _ _).2 fun i hi => ?_
        rw [hat i hi]
        by_cases a1 : i < k'
        · rw [if_pos a1]
          unfold restF
          exact hb' _ (by split <;> omega)
        · rw [if_neg a1]
          by_cases a2 : i = k'
          · rw [if_pos a2]; omega
          · rw [if_neg a2]
            unfold restF
            exact hb' _ (by split <;> omega)
      | true =>
        obtain ⟨l, hlm, hlj⟩ := (inB_true _ _ _).1 hb
        have hlk : l ≠ k := by intro e; subst e; exact hjo hlj.symm
        obtain ⟨r, hrm, hre⟩ : ∃ r, r + 1 < m ∧ (if r < k then r else r + 1) = l := by
          by_cases c1 : l < k
          · exact ⟨l, by omega, if_pos c1⟩
          · exact ⟨l - 1, by omega, by rw [if_neg (by omega)]; omega⟩
        have hrj : restF at' k r = j := by unfold restF; rw [hre]; exact hlj
        by_cases c2 : r < k'
        · refine (inB_true _ _ _).2 ⟨r, by omega, ?_⟩
          rw [hat r (by omega), if_pos c2]; exact hrj
        · refine (inB_true _ _ _).2 ⟨r + 1, hrm, ?_⟩
          rw [hat (r + 1) hrm, if_neg (by omega), if_neg (by omega)]
          exact hrj

end Num
end Go.Proofs.YtipcbhodlgoflabGreat

/- One step of a walk, whole: in plain numbers. -/
namespace Go.Proofs.YtipcbhodlgoflabGreat
namespace Num

theorem next_of (p : Lp) (at' : List Int) (m n s k : Nat) (hmay : p.may = true) (hm : m = p.rows.length) (hr : rightB at' m (n + m) = true) (hd : denL p at' m ≠ 0) (hx : ∀ j : Nat, 0 ≤ sgD p at' m * (xL p at' m (n + m))[j]?.getD 0)
    (hs : s < n + m) (sg : 0 < sgD p at' m * (gainL p at' m (n + m))[s]?.getD 0) (sl : ∀ j : Nat, j < s → sgD p at' m * (gainL p at' m (n + m))[j]?.getD 0 ≤ 0)
    (hk : k < m) (falls : 0 < sgD p at' m * (wayL p at' m s)[k]?.getD 0)
    (near : ∀ l, l < m → 0 < sgD p at' m * (wayL p at' m s)[l]?.getD 0 → (sgD p at' m * (xL p at' m (n + m))[atF at' k]?.getD 0) * (sgD p at' m * (wayL p at' m s)[l]?.getD 0) ≤ (sgD p at' m * (xL p at' m (n + m))[atF at' l]?.getD 0) * (sgD p at' m * (wayL p at' m s)[k]?.getD 0) ∧
      ((sgD p at' m * (xL p at' m (n + m))[atF at' k]?.getD 0) * (sgD p at' m * (wayL p at' m s)[l]?.getD 0) = (sgD p at' m * (xL p at' m (n + m))[atF at' l]?.getD 0) * (sgD p at' m * (wayL p at' m s)[k]?.getD 0) → k ≤ l)) :
    ∃ k', k' < m ∧ (∀ i, i < k' → restF at' k i < s) ∧ (∀ i, k' ≤ i → i + 1 < m → s < restF at' k i) ∧ NextOk p at' (swapI at' k k' s) m (n + m) s k ∧ ∀ j : Nat, 0 ≤ sgD p (swapI at' k k' s) m * (xL p (swapI at' k k' s) m (n + m))[j]?.getD 0 := by
  have h1 : 1 ≤ m := by have := (p.may_of hmay).2.2.1.1; omega
  have h4 : m ≤ 4 := by have := (p.may_of hmay).2.2.1.2; omega
  have hsb : inB at' m s = false := by
    cases hb : inB at' m s with
    | false => rfl
    | true =>
      obtain ⟨i, hi, he⟩ := (inB_true at' m s).1 hb
      have := comes_gain p at' m n hmay hm hr i hi
      rw [← he, this] at sg
      omega
  obtain ⟨k', a1, a2, a3⟩ := place_of (restF at' k) s (m - 1) (fun i j hij hj => rest_rise at' k m (n + m) hr i j hij (by omega)) (fun i hi => by
    unfold restF
    exact (inB_false at' m s).1 hsb _ (by split <;> omega))
  have hk' : k' < m := by omega
  have hok : NextOk p at' (swapI at' k k' s) m (n + m) s k := by
    refine ⟨hr, swap_right at' k k' s m (n + m) hr hk hk' hs a2 (fun i hi hi2 => a3 i hi (by omega)), hd, ?_, hs, sg, sl, hk, falls, ?_, swap_inB at' k k' s m (n + m) hr hk hk'⟩
    · rw [den_swap p at' k k' s m (right_all at' m _ hr).1 h1 h4 hk hk']
      have hw : (wayL p at' m s)[k]?.getD 0 ≠ 0 := by intro e; rw [e] at falls; omega
      unfold sgn
      split <;> omega
    · intro l hl hwl he
      refine (near l hl hwl).2 ?_
      generalize (xL p at' m (n + m))[atF at' k]?.getD 0 = x1 at *
      generalize (wayL p at' m s)[l]?.getD 0 = w1 at *
      generalize (xL p at' m (n + m))[atF at' l]?.getD 0 = x2 at *
      generalize (wayL p at' m s)[k]?.getD 0 = w2 at *
      generalize sgD p at' m = g at *
      grind
  exact ⟨k', hk', a2, fun i hi hi2 => a3 i hi (by omega), hok, next_above p at' _ m n s k hmay hm hok hx fun l hl hwl => (near l hl hwl).1⟩

end Num
end Go.Proofs.YtipcbhodlgoflabGreat

/- Rising columns with one out and another in, put the document's way and by sorting: one and the same. In plain numbers. -/
namespace Go.Proofs.YtipcbhodlgoflabGreat
namespace Num

/-- Rising numbers are told by which ones they are. -/
theorem rise_one : ∀ (a b : List Int), a.Pairwise (· < ·) → b.Pairwise (· < ·) → (∀ x, x ∈ a ↔ x ∈ b) → a = b
  | [], [], _, _, _ => rfl
  | [], y :: b, _, _, h => by have := (h y).2 (by simp); simp at this
  | x :: a, [], _, _, h => by have := (h x).1 (by simp); simp at this
  | x :: a, y :: b, ha, hb, h => by
    rw [List.pairwise_cons] at ha hb
    have hxy : x = y := by
      rcases List.mem_cons.1 ((h x).1 (by simp)) with e | e
      · exact e
      · rcases List.mem_cons.1 ((h y).2 (by simp)) with e2 | e2
        · exact e2.symm
        · have := hb.1 x e; have := ha.1 y e2; omega
    subst hxy
    congr 1
    refine rise_one a b ha.2 hb.2 fun z => ⟨fun hz => ?_, fun hz => ?_⟩
    · rcases List.mem_cons.1 ((h z).1 (List.mem_cons_of_mem _ hz)) with e | e
      · subst e; have := ha.1 z hz; omega
      · exact e
    · rcases List.mem_cons.1 ((h z).2 (List.mem_cons_of_mem _ hz)) with e | e
      · subst e; have := hb.1 z hz; omega
      · exact e

theorem right_pair (at' : List Int) (m N : Nat) (hr : rightB at' m N = true) : at'.Pairwise (· < ·) := by
  obtain ⟨hl, hv⟩ := right_all at' m N hr
  rw [List.pairwise_iff_getElem]
  intro i j hi hj hij
  have h1 := atF_rise at' N m hr j (by omega) i hij
  have h2 := hv i (by omega)
  have h3 := hv j (by omega)
  unfold atF at h1
  rw [List.getElem?_eq_getElem hi] at h1 h2
  rw [List.getElem?_eq_getElem hj] at h1 h3
  simp only [Option.getD_some] at h1 h2 h3
  omega

theorem right_mem (at' : List Int) (m N : Nat) (hr : rightB at' m N = true) (x : Int) : x ∈ at' ↔ 0 ≤ x ∧ inB at' m x.toNat = true := by
  obtain ⟨hl, hv⟩ := right_all at' m N hr
  constructor
  · intro hx
    obtain ⟨i, hi, rfl⟩ := List.getElem_of_mem hx
    have h2 := hv i (by omega)
    rw [List.getElem?_eq_getElem hi, Option.getD_some] at h2
    refine ⟨h2.1, (inB_true _ _ _).2 ⟨i, by omega, ?_⟩⟩
    unfold atF
    rw [List.getElem?_eq_getElem hi]; rfl
  · rintro ⟨h0, hb⟩
    obtain ⟨i, hi, he⟩ := (inB_true _ _ _).1 hb
    have h2 := hv i hi
    unfold atF at he
    rw [List.getElem?_eq_getElem (by omega)] at h2 he
    simp only [Option.getD_some] at h2 he
    have : x = at'[i] := by omega
    rw [this]; exact List.getElem_mem _

theorem at_val (at' : List Int) (m N : Nat) (hr : rightB at' m N = true) (k : Nat) (hk : k < m) : at'[k]?.getD 0 = (atF at' k : Int) := by
  have := (right_all at' m N hr).2 k hk
  unfold atF; omega

/-- One out, another in: the document's way, k numbers gone through. -/
def swapGo (at' : List Int) (out s : Int) : Nat → List Int × Bool
  | 0 => ([], false)
  | k + 1 => (if at'[k]?.getD 0 = out then (if s < at'[k]?.getD 0 ∧ (swapGo at' out s k).2 = false then (swapGo at' out s k).1 ++ [s] else (swapGo at' out s k).1) else (if s < at'[k]?.getD 0 ∧ (swapGo at' out s k).2 = false then (swapGo at' out s k).1 ++ [s] else (swapGo at' out s k).1) ++ [at'[k]?.getD 0],
      (swapGo at' out s k).2 || decide (s < at'[k]?.getD 0))

def swapN (at' : List Int) (out s : Int) (m : Nat) : List Int := if (swapGo at' out s m).2 = true then (swapGo at' out s m).1 else (swapGo at' out s m).1 ++ [s]

theorem pair_snoc (l : List Int) (x : Int) (h : l.Pairwise (· < ·)) (hx : ∀ y ∈ l, y < x) : (l ++ [x]).Pairwise (· < ·) := by
  rw [List.pairwise_append]
  exact ⟨h, List.pairwise_singleton _ _, fun a ha b hb => by rw [List.mem_singleton] at hb; subst hb; exact hx a ha⟩

theorem swapGo_ok (at' : List Int) (out s : Int) (m : Nat) (hl : at'.length = m) (hp : at'.Pairwise (· < ·)) (hs : s ∉ at') : ∀ k, k ≤ m →
    (swapGo at' out s k).1.Pairwise (· < ·) ∧ (∀ y, y ∈ (swapGo at' out s k).1 ↔ (y = s ∧ (swapGo at' out s k).2 = true) ∨ (y ≠ out ∧ ∃ i, i < k ∧ at'[i]?.getD 0 = y)) ∧ ((swapGo at' out s k).2 = true ↔ ∃ i, i < k ∧ s < at'[i]?.getD 0) := by
  intro k
  induction k with
  | zero => intro _; exact ⟨List.Pairwise.nil, fun y => by simp [swapGo], by simp [swapGo]⟩
  | succ k ih =>
    intro hk
    obtain ⟨h1, h2, h3⟩ := ih (by omega)
    have hrise : ∀ i, i < k → at'[i]?.getD 0 < at'[k]?.getD 0 := by
      intro i hi
      have := (List.pairwise_iff_getElem.1 hp) i k (by omega) (by omega) hi
      rw [List.getElem?_eq_getElem (by omega), List.getElem?_eq_getElem (by omega)]
      exact this
    have hne : ∀ i, i < m → at'[i]?.getD 0 ≠ s := by
      intro i hi e
      apply hs
      rw [← e, List.getElem?_eq_getElem (by omega)]
      exact List.getElem_mem _
    have hnk := hne k (by omega)
    unfold swapGo
    dsimp only
    generalize (swapGo at' out s k).1 = l at *
    generalize (swapGo at' out s k).2 = d at *
    generalize hx : at'[k]?.getD 0 = x at *
    -- the list with s put in where it is due
    obtain ⟨q, hq⟩ : ∃ q, (if s < x ∧ d = false then l ++ [s] else l) = q := ⟨_, rfl⟩
    have hq1 : q.Pairwise (· < ·) ∧ (∀ y, y ∈ q ↔ (y = s ∧ (d || decide (s < x)) = true) ∨ (y ≠ out ∧ ∃ i, i < k ∧ at'[i]?.getD 0 = y)) ∧ ∀ y ∈ q, y < x := by
      by_cases hc : s < x ∧ d = false
      · rw [if_pos hc] at hq
        have hls : ∀ y ∈ l, y < s := by
          intro y hy
          rcases (h2 y).1 hy with ⟨_, hd⟩ | ⟨_, i, hi, rfl⟩
          · rw [hc.2] at hd; cases hd
          · have a1 : ¬ s < at'[i]?.getD 0 := fun h => by
              have := h3.2 ⟨i, hi, h⟩
              rw [hc.2] at this; cases this
            have a2 := hne i (by omega)
            omega
        subst hq
        refine ⟨pair_snoc l s h1 hls, fun y => ?_, fun y hy => ?_⟩
        · rw [List.mem_append, List.mem_singleton, h2 y]
          simp only [hc.2, hc.1, decide_true, Bool.or_true, and_true]
          simp
          constructor
          · rintro (h | h)
            · exact Or.inr h
            · exact Or.inl h
          · rintro (h | h)
            · exact Or.inr h
            · exact Or.inl h
        · rw [List.mem_append, List.mem_singleton] at hy
          rcases hy with hy | rfl
          · have := hls y hy; omega
          · exact hc.1
      · rw [if_neg hc] at hq
        subst hq
        have hdd : (d || decide (s < x)) = d := by
          cases d with
          | true => rfl
          | false =>
            have : ¬ s < x := fun h => hc ⟨h, rfl⟩
            simp [this]
        rw [hdd]
        refine ⟨h1, h2, fun y hy => ?_⟩
        rcases (h2 y).1 hy with ⟨rfl, hd⟩ | ⟨_, i, hi, rfl⟩
        · obtain ⟨i, hi, hlt⟩ := h3.1 hd
          have := hrise i hi; omega
        · exact hrise i hi
    rw [hq]
    obtain ⟨q1, q2, q3⟩ := hq1
    have hd' : (d || decide (s < x)) = true ↔ ∃ i, i < k + 1 ∧ s < at'[i]?.getD 0 := by
      rw [Bool.or_eq_true, h3, decide_eq_true_eq]
      constructor
      · rintro (⟨i, hi, h⟩ | h)
        · exact ⟨i, by omega, h⟩
        · exact ⟨k, by omega, by rw [hx]; exact h⟩
      · rintro ⟨i, hi, h⟩
        by_cases hik : i = k
        · subst hik; rw [hx] at h; exact Or.inr h
        · exact Or.inl ⟨i, by omega, h⟩
    refine ⟨?_, fun y => ?_, hd'⟩
    · by_cases hxo : x = out
      · rw [if_pos hxo]; exact q1
      · rw [if_neg hxo]; exact pair_snoc q x q1 q3
    · by_cases hxo : x = out
      · rw [if_pos hxo, q2 y]
        constructor
        · rintro (h | ⟨g1, i, hi, g2⟩)
          · exact Or.inl h
          · exact Or.inr ⟨g1, i, by omega, g2⟩
        · rintro (h | ⟨g1, i, hi, g2⟩)
          · exact Or.inl h
          · refine Or.inr ⟨g1, i, ?_, g2⟩
            by_cases hik : i = k
            · subst hik; rw [hx] at g2; exact absurd (g2.symm.trans hxo) g1
            · omega
      · rw [if_neg hxo, List.mem_append, List.mem_singleton, q2 y]
        constructor
        · rintro ((h | ⟨g1, i, hi, g2⟩) | h)
          · exact Or.inl h
          · exact Or.inr ⟨g1, i, by omega, g2⟩
          · subst h; exact Or.inr ⟨hxo, k, by omega, hx⟩
        · rintro (h | ⟨g1, i, hi, g2⟩)
          · exact Or.inl (Or.inl h)
          · by_cases hik : i = k
            · subst hik; rw [hx] at g2; exact Or.inr g2.symm
            · exact Or.inl (Or.inr ⟨g1, i, by omega, g2⟩)

theorem swapN_ok (at' : List Int) (out s : Int) (m : Nat) (hl : at'.length = m) (hp : at'.Pairwise (· < ·)) (hs : s ∉ at') :
    (swapN at' out s m).Pairwise (· < ·) ∧ ∀ y, y ∈ swapN at' out s m ↔ y = s ∨ (y ≠ out ∧ y ∈ at') := by
  obtain ⟨h1, h2, h3⟩ := swapGo_ok at' out s m hl hp hs m (Nat.le_refl _)
  have hmem : ∀ y, (∃ i, i < m ∧ at'[i]?.getD 0 = y) ↔ y ∈ at' := by
    intro y
    constructor
    · rintro ⟨i, hi, rfl⟩
      rw [List.getElem?_eq_getElem (by omega)]
      exact List.getElem_mem _
    · intro hy
      obtain ⟨i, hi, rfl⟩ := List.getElem_of_mem hy
      exact ⟨i, by omega, by rw [List.getElem?_eq_getElem hi]; rfl⟩
  have hne : ∀ i, i < m → at'[i]?.getD 0 ≠ s := fun i hi e => hs (by rw [← e, List.getElem?_eq_getElem (by omega)]; exact List.getElem_mem _)
  unfold swapN
  generalize (swapGo at' out s m).1 = l at *
  generalize (swapGo at' out s m).2 = d at *
  cases d with
  | true =>
    rw [if_pos rfl]
    refine ⟨h1, fun y => ?_⟩
    rw [h2 y, hmem y]; simp
  | false =>
    rw [if_neg (by decide)]
    refine ⟨pair_snoc l s h1 fun y hy => ?_, fun y => ?_⟩
    · rcases (h2 y).1 hy with ⟨_, hd⟩ | ⟨_, i, hi, rfl⟩
      · cases hd
      · have a1 : ¬ s < at'[i]?.getD 0 := fun h => by cases h3.2 ⟨i, hi, h⟩
        have a2 := hne i hi
        omega
    · rw [List.mem_append, List.mem_singleton, h2 y, hmem y]
      simp
      constructor
      · rintro (h | h)
        · exact Or.inr h
        · exact Or.inl h
      · rintro (h | h)
        · exact Or.inr h
        · exact Or.inl h

theorem swapI_mem (at' : List Int) (k k' s m N : Nat) (hr : rightB at' m N = true) (hk : k < m) (hk' : k' < m) (hr2 : rightB (swapI at' k k' s) m N = true) (y : Int) : y ∈ swapI at' k k' s ↔ y = s ∨ (y ≠ at'[k]?.getD 0 ∧ y ∈ at') := by
  rw [right_mem _ m N hr2 y, right_mem at' m N hr y, swap_inB at' k k' s m N hr hk hk', at_val at' m N hr k hk]
  constructor
  · rintro ⟨h0, h⟩
    by_cases h1 : y.toNat = s
    · exact Or.inl (by omega)
    · rw [if_neg h1] at h
      by_cases h2 : y.toNat = atF at' k
      · rw [if_pos h2] at h; cases h
      · rw [if_neg h2] at h; exact Or.inr ⟨by omega, h0, h⟩
  · rintro (rfl | ⟨h1, h0, h⟩)
    · exact ⟨by omega, by rw [if_pos (by omega)]⟩
    · refine ⟨h0, ?_⟩
      by_cases h2 : y.toNat = s
      · rw [if_pos h2]
      · rw [if_neg h2, if_neg (by omega)]; exact h

/-- The document's way comes to the one place. -/
theorem swap_doc (at' : List Int) (k k' s m N : Nat) (hr : rightB at' m N = true) (hk : k < m) (hk' : k' < m) (hr2 : rightB (swapI at' k k' s) m N = true) (hsb : inB at' m s = false) : swapN at' (at'[k]?.getD 0) s m = swapI at' k k' s := by
  have hs : (s : Int) ∉ at' := by
    intro h
    have := ((right_mem at' m N hr s).1 h).2
    rw [Int.toNat_natCast, hsb] at this; cases this
  obtain ⟨h1, h2⟩ := swapN_ok at' (at'[k]?.getD 0) s m (right_all at' m N hr).1 (right_pair at' m N hr) hs
  refine rise_one _ _ h1 (right_pair _ m N hr2) fun y => ?_
  rw [h2 y, swapI_mem at' k k' s m N hr hk hk' hr2 y]

/-- Sorting comes to the one place. -/
theorem swap_sort (at' r : List Int) (k k' s m N : Nat) (hr : rightB at' m N = true) (hk : k < m) (hk' : k' < m) (hr2 : rightB (swapI at' k k' s) m N = true) (hsb : inB at' m s = false) (hp : r.Perm (at'.set k s)) (ho : r.Pairwise (· ≤ ·)) : r = swapI at' k k' s := by
  obtain ⟨hl, _⟩ := right_all at' m N hr
  have hrise := right_pair at' m N hr
  have hs : (s : Int) ∉ at' := by
    intro h
    have := ((right_mem at' m N hr s).1 h).2
    rw [Int.toNat_natCast, hsb] at this; cases this
  have hdist : ∀ i j, i < m → j < m → i ≠ j → at'[i]?.getD 0 ≠ at'[j]?.getD 0 := by
    intro i j hi hj hij
    rw [List.getElem?_eq_getElem (by omega), List.getElem?_eq_getElem (by omega)]
    simp only [Option.getD_some]
    by_cases h : i < j
    · have := (List.pairwise_iff_getElem.1 hrise) i j (by omega) (by omega) h; omega
    · have := (List.pairwise_iff_getElem.1 hrise) j i (by omega) (by omega) (by omega); omega
  have hmem : ∀ y, y ∈ at'.set k s ↔ y = s ∨ (y ≠ at'[k]?.getD 0 ∧ y ∈ at') := by
    intro y
    constructor
    · intro hy
      obtain ⟨i, hi, rfl⟩ := List.getElem_of_mem hy
      rw [List.length_set] at hi
      rw [List.getElem_set]
      by_cases hik : k = i
      · rw [if_pos hik]; exact Or.inl rfl
      · rw [if_neg hik]
        refine Or.inr ⟨?_, List.getElem_mem _⟩
        have := hdist i k (by omega) hk (fun e => hik e.symm)
        rw [List.getElem?_eq_getElem hi, Option.getD_some] at this
        exact this
    · rintro (rfl | ⟨h1, hy⟩)
      · exact List.mem_of_getElem (i := k) (h := by rw [List.length_set]; omega) (by rw [List.getElem_set, if_pos rfl])
      · obtain ⟨i, hi, rfl⟩ := List.getElem_of_mem hy
        have hik : k ≠ i := by
          intro e; subst e
          apply h1
          rw [List.getElem?_eq_getElem hi]; rfl
        exact List.mem_of_getElem (i := i) (h := by rw [List.length_set]; omega) (by rw [List.getElem_set, if_neg hik])
  have hnd : (at'.set k s).Pairwise (· ≠ ·) := by
    rw [List.pairwise_iff_getElem]
    intro i j hi hj hij
    rw [List.length_set] at hi hj
    rw [List.getElem_set, List.getElem_set]
    have hi' : at'[i] ∈ at' := List.getElem_mem _
    have hj' : at'[j] ∈ at' := List.getElem_mem _
    by_cases hki : k = i
    · rw [if_pos hki, if_neg (by omega)]
      intro e; rw [← e] at hj'; exact hs hj'
    · rw [if_neg hki]
      by_cases hkj : k = j
      · rw [if_pos hkj]
        intro e; rw [e] at hi'; exact hs hi'
      · rw [if_neg hkj]
        have := hdist i j (by omega) (by omega) (by omega)
        rw [List.getElem?_eq_getElem hi, List.getElem?_eq_getElem hj] at this
        exact this
  have hnr : r.Pairwise (· ≠ ·) := (hp.pairwise_iff (fun h => Ne.symm h)).2 hnd
  refine rise_one _ _ ?_ (right_pair _ m N hr2) fun y => ?_
  · exact (ho.and hnr).imp fun h => by omega
  · rw [hp.mem_iff, hmem y, swapI_mem at' k k' s m N hr hk hk' hr2 y]

end Num
end Go.Proofs.YtipcbhodlgoflabGreat

/- The next corner, in plain numbers: what Look tells of this one, and of how its columns make another one up. -/
namespace Go.Proofs.YtipcbhodlgoflabGreat
namespace Num

/-- The program whose rows are at most what column s has. -/
def askP (p : Lp) (s : Nat) : Lp := ⟨p.costs, (List.range p.rows.length).map fun i => ((p.rows[i]?.getD ([], 0)).1, hasF p s i)⟩

theorem ask_len (p : Lp) (s : Nat) : (askP p s).rows.length = p.rows.length := by simp [askP]
theorem ask_costs (p : Lp) (s : Nat) : (askP p s).costs = p.costs := rfl

theorem ask_row (p : Lp) (s i : Nat) (hi : i < p.rows.length) : (askP p s).rows[i]?.getD ([], 0) = ((p.rows[i]?.getD ([], 0)).1, hasF p s i) := by
  unfold askP
  dsimp only
  rw [List.getElem?_map, List.getElem?_range hi]
  rfl

theorem ask_has (p : Lp) (s j i : Nat) (hi : i < p.rows.length) : hasF (askP p s) j i = hasF p j i := by
  unfold hasF
  rw [ask_row p s i hi, ask_costs]

theorem ask_may (p : Lp) (s : Nat) (hmay : p.may = true) : (askP p s).may = true := by
  obtain ⟨h1, h2, h3, h4⟩ := p.may_of hmay
  unfold Lp.may
  rw [ask_costs, ask_len]
  simp only [Bool.and_eq_true, decide_eq_true_eq]
  refine ⟨⟨⟨⟨⟨h1.1, h1.2⟩, h2⟩, h3.1⟩, h3.2⟩, ?_⟩
  rw [List.all_eq_true]
  intro r hr
  unfold askP at hr
  dsimp only at hr
  obtain ⟨i, hi, rfl⟩ := List.mem_map.1 hr
  rw [List.mem_range] at hi
  obtain ⟨a1, a2, _⟩ := p.row_of hmay i hi
  have a4 := hasF_bd p hmay s i
  unfold rowB
  simp [a1, a2, withinB_one, a4.1, a4.2]

theorem ask_chosen (p : Lp) (s : Nat) (at' : List Int) (m : Nat) (hm : m = p.rows.length) : chosenL (askP p s) at' m = chosenL p at' m := by
  unfold chosenL
  refine List.map_congr_left fun k _ => List.map_congr_left fun i hi => ?_
  rw [List.mem_range] at hi
  exact ask_has p s _ i (by omega)

theorem ask_den (p : Lp) (s : Nat) (at' : List Int) (m : Nat) (hm : m = p.rows.length) : denL (askP p s) at' m = denL p at' m := by
  unfold denL; rw [ask_chosen p s at' m hm]

theorem ask_sgD (p : Lp) (s : Nat) (at' : List Int) (m : Nat) (hm : m = p.rows.length) : sgD (askP p s) at' m = sgD p at' m := by
  unfold sgD; rw [ask_den p s at' m hm]

theorem ask_x (p : Lp) (s : Nat) (at' : List Int) (m N : Nat) (hm : m = p.rows.length) : xL (askP p s) at' m N = spreadN N at' (wayL p at' m s) m := by
  unfold xL wayL
  rw [ask_chosen p s at' m hm]
  congr 2
  unfold mostsL colF
  refine List.map_congr_left fun i hi => ?_
  rw [List.mem_range] at hi
  unfold mostF
  rw [ask_row p s i (by omega)]

/-- What Look tells has the signs of what it is made of. -/
theorem look_parts (p : Lp) (at' : List Int) (m n : Nat) (hmay : p.may = true) (hm : m = p.rows.length) (hn : n = p.costs.length) (hr : rightB at' m (n + m) = true) (hd : denL p at' m ≠ 0) :
    (look p at').err = 0 ∧ (look p at').x.length = n + m ∧ (look p at').g.length = n + m ∧ (1 ≤ (look p at').xd ∧ (look p at').xd ≤ 497664) ∧ (∀ j : Nat, -497664 ≤ (look p at').x[j]?.getD 0 ∧ (look p at').x[j]?.getD 0 ≤ 497664) ∧
    ∃ gx gg : Int, 0 < gx ∧ 0 < gg ∧ (∀ j : Nat, sgD p at' m * (xL p at' m (n + m))[j]?.getD 0 = gx * (look p at').x[j]?.getD 0) ∧ sgD p at' m * denL p at' m = gx * (look p at').xd ∧ ∀ j : Nat, sgD p at' m * (gainL p at' m (n + m))[j]?.getD 0 = gg * (look p at').g[j]?.getD 0 := by
  obtain ⟨c0, c1, _, c3, c4, _, c6, _⟩ := look_comes p at' m n hmay hm hn hr hd
  refine ⟨c0, c1, c3, c4, c6, ?_⟩
  have h1 : 1 ≤ m := by have := (p.may_of hmay).2.2.1.1; omega
  have h4 : m ≤ 4 := by have := (p.may_of hmay).2.2.1.2; omega
  have hn4 : n ≤ 4 := by have := (p.may_of hmay).1.2; omega
  have hden := den_bd12 p at' m hmay h1 h4
  have xb := x_bd p at' m (n + m) hmay hm
  have gb := gain_bd p at' m (n + m) hmay hm
  obtain ⟨gx, gx0, _, xlen, xeq, xdeq, xd1, _, _⟩ := pt_ok (xL p at' m (n + m)) (denL p at' m) hd (by omega) (fun j => by have := xb j; omega) (by unfold xL; rw [spread_len]; omega)
  obtain ⟨gg, gg0, _, glen, geq, gdeq, gd1, _, _⟩ := pt_ok (gainL p at' m (n + m)) (denL p at' m) hd (by omega) gb (by unfold gainL; simp; omega)
  have hl := look_some p at' hmay (by rw [← hm, ← hn]; exact hr) (by rw [← hm]; exact hd) m (n + m) hm (by rw [← hm, ← hn])
  rw [hl]
  dsimp only
  generalize (pt (xL p at' m (n + m)) (denL p at' m)).1 = X at *
  generalize (pt (xL p at' m (n + m)) (denL p at' m)).2.1 = XD at *
  generalize (pt (gainL p at' m (n + m)) (denL p at' m)).1 = G at *
  generalize (pt (gainL p at' m (n + m)) (denL p at' m)).2.1 = GD at *
  have hs := sgD_pos p at' m hd
  generalize sgD p at' m = σ at *
  have key : ∀ g D : Int, denL p at' m = g * D → 1 ≤ D → 0 < σ * g := by
    intro g D he hD
    rw [he, ← Int.mul_assoc] at hs
    by_cases h : 0 < σ * g
    · exact h
    · have := Int.mul_le_mul_of_nonneg_right (Int.not_lt.1 h) (show 0 ≤ D by omega)
      omega
  exact ⟨σ * gx, σ * gg, key gx XD xdeq xd1, key gg GD gdeq gd1, fun j => by rw [xeq j, Int.mul_assoc], by rw [xdeq, Int.mul_assoc], fun j => by rw [geq j, Int.mul_assoc]⟩

theorem pos_mul_iff (g x : Int) (hg : 0 < g) : 0 < g * x ↔ 0 < x := by
  constructor
  · intro h
    by_cases hx : 0 < x
    · exact hx
    · have := Int.mul_nonpos_of_nonneg_of_nonpos (Int.le_of_lt hg) (Int.not_lt.1 hx); omega
  · intro h; exact Int.mul_pos hg h

theorem nonneg_mul_iff (g x : Int) (hg : 0 < g) : 0 ≤ g * x ↔ 0 ≤ x := by
  constructor
  · intro h
    by_cases hx : 0 ≤ x
    · exact hx
    · have := Int.mul_neg_of_pos_of_neg hg (Int.not_le.1 hx); omega
  · intro h; exact Int.mul_nonneg (Int.le_of_lt hg) h

/-- The first number above 0; -1 if there is none: k numbers gone through. -/
def firstN (g : List Int) : Nat → Int
  | 0 => -1
  | k + 1 => if 0 ≤ firstN g k then firstN g k else if 0 < g[k]?.getD 0 then k else -1

theorem first_ok (g : List Int) : ∀ k, (firstN g k = -1 ∧ ∀ j, j < k → g[j]?.getD 0 ≤ 0) ∨ (∃ s : Nat, s < k ∧ firstN g k = s ∧ 0 < g[s]?.getD 0 ∧ ∀ j, j < s → g[j]?.getD 0 ≤ 0) := by
  intro k
  induction k with
  | zero => exact Or.inl ⟨rfl, fun j hj => by omega⟩
  | succ k ih =>
    rcases ih with ⟨h1, h2⟩ | ⟨s, h1, h2, h3, h4⟩
    · unfold firstN
      rw [h1, if_neg (by omega)]
      by_cases hk : 0 < g[k]?.getD 0
      · rw [if_pos hk]; exact Or.inr ⟨k, by omega, rfl, hk, h2⟩
      · rw [if_neg hk]
        refine Or.inl ⟨rfl, fun j hj => ?_⟩
        by_cases hjk : j = k
        · subst hjk; omega
        · exact h2 j (by omega)
    · refine Or.inr ⟨s, by omega, ?_, h3, h4⟩
      unfold firstN
      rw [if_pos (by omega), h2]

/-- The place that goes out: k places gone through. -/
def outN (at' x v : List Int) : Nat → Int
  | 0 => -1
  | k + 1 => if 0 < v[atF at' k]?.getD 0 ∧ (outN at' x v k < 0 ∨ x[atF at' k]?.getD 0 * v[atF at' (outN at' x v k).toNat]?.getD 0 < x[atF at' (outN at' x v k).toNat]?.getD 0 * v[atF at' k]?.getD 0) then k else outN at' x v k

theorem cross_trans (xa va xb vb xc vc : Int) (ha : 0 < va) (hb : 0 < vb) (hc : 0 < vc) (h1 : xa * vb < xb * va) (h2 : xb * vc ≤ xc * vb) : xa * vc < xc * va := by
  have e1 : xa * vb * vc < xb * va * vc := Int.mul_lt_mul_of_pos_right h1 hc
  have e2 : xb * vc * va ≤ xc * vb * va := Int.mul_le_mul_of_nonneg_right h2 (Int.le_of_lt ha)
  have e3 : vb * (xa * vc) < vb * (xc * va) := by
    have a1 : vb * (xa * vc) = xa * vb * vc := by grind
    have a2 : xb * va * vc = xb * vc * va := by grind
    have a3 : vb * (xc * va) = xc * vb * va := by grind
    omega
  exact Int.lt_of_mul_lt_mul_left e3 (Int.le_of_lt hb)

theorem out_ok (at' x v : List Int) : ∀ k, (outN at' x v k = -1 ∧ ∀ l, l < k → v[atF at' l]?.getD 0 ≤ 0) ∨
    (∃ o : Nat, o < k ∧ outN at' x v k = o ∧ 0 < v[atF at' o]?.getD 0 ∧ ∀ l, l < k → 0 < v[atF at' l]?.getD 0 → x[atF at' o]?.getD 0 * v[atF at' l]?.getD 0 ≤ x[atF at' l]?.getD 0 * v[atF at' o]?.getD 0 ∧ (x[atF at' o]?.getD 0 * v[atF at' l]?.getD 0 = x[atF at' l]?.getD 0 * v[atF at' o]?.getD 0 → o ≤ l)) := by
  intro k
  induction k with
  | zero => exact Or.inl ⟨rfl, fun j hj => by omega⟩
  | succ k ih =>
    rcases ih with ⟨h1, h2⟩ | ⟨o, h1, h2, h3, h4⟩
    · unfold outN
      rw [h1]
      by_cases hk : 0 < v[atF at' k]?.getD 0
      · rw [if_pos ⟨hk, Or.inl (by omega)⟩]
        refine Or.inr ⟨k, by omega, rfl, hk, fun l hl hlv => ?_⟩
        by_cases hlk : l = k
        · subst hlk; exact ⟨Int.le_refl _, fun _ => Nat.le_refl _⟩
        · have := h2 l (by omega); omega
      · rw [if_neg (fun h => hk h.1)]
        refine Or.inl ⟨rfl, fun l hl => ?_⟩
        by_cases hlk : l = k
        · subst hlk; omega
        · exact h2 l (by omega)
    · unfold outN
      rw [h2, Int.toNat_natCast]
      by_cases hc : 0 < v[atF at' k]?.getD 0 ∧ ((o : Int) < 0 ∨ x[atF at' k]?.getD 0 * v[atF at' o]?.getD 0 < x[atF at' o]?.getD 0 * v[atF at' k]?.getD 0)
      · rw [if_pos hc]
        obtain ⟨hk, hc2⟩ := hc
        have hlt := hc2.resolve_left (by omega)
        refine Or.inr ⟨k, by omega, rfl, hk, fun l hl hlv => ?_⟩
        by_cases hlk : l = k
        · subst hlk; exact ⟨Int.le_refl _, fun _ => Nat.le_refl _⟩
        · have := cross_trans _ _ _ _ _ _ hk h3 hlv hlt (h4 l (by omega) hlv).1
          exact ⟨by omega, fun e => by omega⟩
      · rw [if_neg hc]
        refine Or.inr ⟨o, by omega, rfl, h3, fun l hl hlv => ?_⟩
        by_cases hlk : l = k
        · subst hlk
          have : ¬ x[atF at' l]?.getD 0 * v[atF at' o]?.getD 0 < x[atF at' o]?.getD 0 * v[atF at' l]?.getD 0 := fun h => hc ⟨hlv, Or.inr h⟩
          exact ⟨by omega, fun _ => by omega⟩
        · exact h4 l (by omega) hlv

/-- What Next answers: columns, a kind, what is wrong. -/
def nextN (p : Lp) (at' : List Int) : List Int × Int × Int :=
  if (look p at').err ≠ 0 then ([], 0, (look p at').err)
  else if anyNeg (look p at').x = true then ([], 0, 3)
  else if firstN (look p at').g (look p at').g.length < 0 then ([], 1, 0)
  else if outN at' (look p at').x (look (askP p (firstN (look p at').g (look p at').g.length).toNat) at').x at'.length < 0 then ([], 2, 0)
  else (swapN at' (at'[(outN at' (look p at').x (look (askP p (firstN (look p at').g (look p at').g.length).toNat) at').x at'.length).toNat]?.getD 0) (firstN (look p at').g (look p at').g.length) at'.length, 0, 0)

end Num
end Go.Proofs.YtipcbhodlgoflabGreat

/- Walks, in plain numbers: what Next and Walk answer, and that a walk is one, and ends. -/
namespace Go.Proofs.YtipcbhodlgoflabGreat
namespace Num

/-- A corner that goes. -/
structure Good (p : Lp) (at' : List Int) (m n : Nat) : Prop where
  right : rightB at' m (n + m) = true
  den : denL p at' m ≠ 0
  x : ∀ j : Nat, 0 ≤ sgD p at' m * (xL p at' m (n + m))[j]?.getD 0

theorem anyNeg_false (l : List Int) : anyNeg l = false ↔ ∀ j : Nat, 0 ≤ l[j]?.getD 0 := by
  unfold anyNeg
  rw [List.any_eq_false]
  constructor
  · intro h j
    by_cases hj : j < l.length
    · have := h (l[j]?.getD 0) (by rw [List.getElem?_eq_getElem hj]; exact List.getElem_mem _)
      simpa using this
    · rw [List.getElem?_eq_none (by omega)]; simp
  · intro h x hx
    obtain ⟨j, hj, rfl⟩ := List.getElem_of_mem hx
    have := h j
    rw [List.getElem?_eq_getElem hj] at this
    simpa using this

/-- The parts of a corner that goes. -/
theorem good_of (p : Lp) (at' : List Int) (m n : Nat) (hmay : p.may = true) (hm : m = p.rows.length) (hn : n = p.costs.length) : ((look p at').err = 0 ∧ anyNeg (look p at').x = false) ↔ Good p at' m n := by
  constructor
  · rintro ⟨h1, h2⟩
    cases hr : rightB at' m (n + m) with
    | false =>
      rw [look_range p at' hmay (by rw [← hm, ← hn]; exact hr)] at h1
      simp [noLook] at h1
    | true =>
      by_cases hd : denL p at' m = 0
      · rw [look_none p at' hmay (by rw [← hm, ← hn]; exact hr) (by rw [← hm]; exact hd)] at h1
        simp [noLook] at h1
      · obtain ⟨_, _, _, _, _, gx, gg, gx0, _, hx, _⟩ := look_parts p at' m n hmay hm hn hr hd
        refine ⟨hr, hd, fun j => ?_⟩
        rw [hx j]
        exact (nonneg_mul_iff _ _ gx0).2 ((anyNeg_false _).1 h2 j)
  · rintro ⟨hr, hd, hx0⟩
    obtain ⟨h0, _, _, _, _, gx, gg, gx0, _, hx, _⟩ := look_parts p at' m n hmay hm hn hr hd
    refine ⟨h0, (anyNeg_false _).2 fun j => ?_⟩
    have := hx0 j
    rw [hx j] at this
    exact (nonneg_mul_iff _ _ gx0).1 this

theorem first_len (p : Lp) (at' : List Int) (m n : Nat) (hmay : p.may = true) (hm : m = p.rows.length) (hn : n = p.costs.length) (h : Good p at' m n) : (look p at').g.length = n + m ∧ at'.length = m ∧ 1 ≤ m ∧ m ≤ 4 ∧ n + m ≤ 8 := by
  obtain ⟨_, _, h2, _⟩ := look_parts p at' m n hmay hm hn h.right h.den
  have h1 := (p.may_of hmay).2.2.1
  have h3 := (p.may_of hmay).1
  exact ⟨h2, (right_all at' m _ h.right).1, by omega, by omega, by omega⟩

/-- The column that comes in is not among those of the corner. -/
theorem in_new (p : Lp) (at' : List Int) (m n : Nat) (hmay : p.may = true) (hm : m = p.rows.length) (hn : n = p.costs.length) (h : Good p at' m n) (s : Nat) (hs : 0 < (look p at').g[s]?.getD 0) : inB at' m s = false := by
  cases hb : inB at' m s with
  | false => rfl
  | true =>
    obtain ⟨i, hi, rfl⟩ := (inB_true at' m s).1 hb
    have := (look_comes p at' m n hmay hm hn h.right h.den).2.2.2.2.2.2.2.2.2.1 i hi
    omega

/-- How the columns of the corner make another one up, as Look tells it. -/
theorem ask_parts (p : Lp) (at' : List Int) (m n s : Nat) (hmay : p.may = true) (hm : m = p.rows.length) (hn : n = p.costs.length) (h : Good p at' m n) :
    (look (askP p s) at').err = 0 ∧ (look (askP p s) at').x.length = n + m ∧ (∀ j : Nat, -497664 ≤ (look (askP p s) at').x[j]?.getD 0 ∧ (look (askP p s) at').x[j]?.getD 0 ≤ 497664) ∧ ∃ gv : Int, 0 < gv ∧ ∀ k, k < m → sgD p at' m * (wayL p at' m s)[k]?.getD 0 = gv * (look (askP p s) at').x[atF at' k]?.getD 0 := by
  obtain ⟨h0, h1, _, _, h4, gx, _, gx0, _, hx, _⟩ := look_parts (askP p s) at' m n (ask_may p s hmay) (by rw [ask_len]; exact hm) hn h.right (by rw [ask_den p s at' m hm]; exact h.den)
  refine ⟨h0, h1, h4, gx, gx0, fun k hk => ?_⟩
  rw [← hx, ask_sgD p s at' m hm, ask_x p s at' m (n + m) hm, spread_in (n + m) at' _ m h.right m (Nat.le_refl _) k hk]

theorem swap_place (at' : List Int) (k s m N : Nat) (hr : rightB at' m N = true) (hk : k < m) (hs : s < N) (hsb : inB at' m s = false) : ∃ k', k' < m ∧ rightB (swapI at' k k' s) m N = true := by
  obtain ⟨k', a1, a2, a3⟩ := place_of (restF at' k) s (m - 1) (fun i j hij hj => rest_rise at' k m N hr i j hij (by omega)) (fun i hi => by
    unfold restF
    exact (inB_false at' m s).1 hsb _ (by split <;> omega))
  exact ⟨k', by omega, swap_right at' k k' s m N hr hk (by omega) hs a2 (fun i hi hi2 => a3 i hi (by omega))⟩

theorem swapN_sort (at' r : List Int) (k s m N : Nat) (hr : rightB at' m N = true) (hk : k < m) (hs : s < N) (hsb : inB at' m s = false) (hp : r.Perm (at'.set k s)) (ho : r.Pairwise (· ≤ ·)) : r = swapN at' (at'[k]?.getD 0) s m := by
  obtain ⟨k', hk', h2⟩ := swap_place at' k s m N hr hk hs hsb
  rw [swap_doc at' k k' s m N hr hk hk' h2 hsb]
  exact swap_sort at' r k k' s m N hr hk hk' h2 hsb hp ho

/-- What Next answers, by kinds. -/
theorem next_cases (p : Lp) (at' : List Int) (m n : Nat) (hmay : p.may = true) (hm : m = p.rows.length) (hn : n = p.costs.length) :
    (∃ e, e ≠ 0 ∧ nextN p at' = ([], 0, e) ∧ ¬ Good p at' m n) ∨ (Good p at' m n ∧ ((∃ k, k ≠ 0 ∧ (k = 1 ∨ k = 2) ∧ nextN p at' = ([], k, 0)) ∨ ∃ nx s k, nextN p at' = (nx, 0, 0) ∧ nx.length = m ∧ Good p nx m n ∧ NextOk p at' nx m (n + m) s k)) := by
  by_cases hg : Good p at' m n
  · refine Or.inr ⟨hg, ?_⟩
    obtain ⟨h1, h2⟩ := (good_of p at' m n hmay hm hn).2 hg
    obtain ⟨l1, l2, l3, l4, _⟩ := first_len p at' m n hmay hm hn hg
    obtain ⟨_, _, _, _, _, gx, gg, gx0, gg0, hx, _, hgn⟩ := look_parts p at' m n hmay hm hn hg.right hg.den
    unfold nextN
    rw [if_neg (by omega), if_neg (by rw [h2]; decide), l1, l2]
    rcases first_ok (look p at').g (n + m) with ⟨f1, f2⟩ | ⟨s, f1, f2, f3, f4⟩
    · rw [f1, if_pos (by omega)]
      exact Or.inl ⟨1, by omega, Or.inl rfl, rfl⟩
    · rw [f2, if_neg (by omega), Int.toNat_natCast]
      have hsb := in_new p at' m n hmay hm hn hg s f3
      obtain ⟨_, _, _, gv, gv0, hv⟩ := ask_parts p at' m n s hmay hm hn hg
      rcases out_ok at' (look p at').x (look (askP p s) at').x m with ⟨o1, o2⟩ | ⟨o, o1, o2, o3, o4⟩
      · rw [o1, if_pos (by omega)]
        exact Or.inl ⟨2, by omega, Or.inr rfl, rfl⟩
      · rw [o2, if_neg (by omega), Int.toNat_natCast]
        have hvi : ∀ l, l < m → (0 < sgD p at' m * (wayL p at' m s)[l]?.getD 0 ↔ 0 < (look (askP p s) at').x[atF at' l]?.getD 0) := fun l hl => by rw [hv l hl]; exact pos_mul_iff _ _ gv0
        obtain ⟨k', a1, a2, a3, a4, a5⟩ := next_of p at' m n s o hmay hm hg.right hg.den hg.x f1 (by rw [hgn s]; exact (pos_mul_iff _ _ gg0).2 f3) (fun j hj => by
            rw [hgn j]
            have := Int.mul_nonpos_of_nonneg_of_nonpos (Int.le_of_lt gg0) (f4 j hj); omega) o1 ((hvi o o1).2 o3) (fun l hl hlv => by
            obtain ⟨b1, b2⟩ := o4 l hl ((hvi l hl).1 hlv)
            rw [hx, hx, hv l hl, hv o o1]
            generalize (look p at').x[atF at' o]?.getD 0 = xo at *
            generalize (look p at').x[atF at' l]?.getD 0 = xl at *
            generalize (look (askP p s) at').x[atF at' o]?.getD 0 = vo at *
            generalize (look (askP p s) at').x[atF at' l]?.getD 0 = vl at *
            have e1 : gx * xo * (gv * vl) = gx * gv * (xo * vl) := by grind
            have e2 : gx * xl * (gv * vo) = gx * gv * (xl * vo) := by grind
            have hp := Int.mul_pos gx0 gv0
            rw [e1, e2]
            exact ⟨Int.mul_le_mul_of_nonneg_left b1 (Int.le_of_lt hp), fun e => b2 (Int.eq_of_mul_eq_mul_left (by omega) e)⟩)
        rw [swap_doc at' o k' s m (n + m) hg.right o1 a1 a4.right2 hsb]
        exact Or.inr ⟨_, s, o, rfl, (right_all _ m _ a4.right2).1, ⟨a4.right2, a4.den2, a5⟩, a4⟩
  · refine Or.inl ?_
    have h := fun h => hg ((good_of p at' m n hmay hm hn).1 h)
    unfold nextN
    by_cases h0 : (look p at').err = 0
    · rw [if_neg (by omega)]
      cases ha : anyNeg (look p at').x with
      | false => exact absurd ⟨h0, ha⟩ h
      | true => rw [if_pos rfl]; exact ⟨3, by omega, rfl, hg⟩
    · rw [if_pos h0]; exact ⟨_, h0, rfl, hg⟩

/-- The columns of a walk so far, and those at which it is. -/
def Path (p : Lp) (at' : List Int) (l : List (List Int)) (now : List Int) : Prop :=
  (l ++ [now])[0]?.getD [] = at' ∧ ∀ q, q < l.length → nextN p ((l ++ [now])[q]?.getD []) = ((l ++ [now])[q + 1]?.getD [], 0, 0)

/-- A walk, whole. -/
def IsWalk (p : Lp) (at' : List Int) (l : List (List Int)) (kind : Int) : Prop :=
  ∃ K, l.length = K + 1 ∧ l[0]?.getD [] = at' ∧ (∀ q, q < K → nextN p (l[q]?.getD []) = (l[q + 1]?.getD [], 0, 0)) ∧ nextN p (l[K]?.getD []) = ([], kind, 0) ∧ kind ≠ 0

theorem Path.start (p : Lp) (at' : List Int) : Path p at' [] at' := ⟨rfl, fun _ hq => absurd hq (Nat.not_lt_zero _)⟩

theorem Path.push {p : Lp} {at' : List Int} {l : List (List Int)} {now nx : List Int} (h : Path p at' l now) (hn : nextN p now = (nx, 0, 0)) : Path p at' (l ++ [now]) nx := by
  obtain ⟨h1, h2⟩ := h
  refine ⟨?_, fun q hq => ?_⟩
  · rw [List.getElem?_append_left (by simp)]; exact h1
  · rw [List.length_append, List.length_singleton] at hq
    rw [List.getElem?_append_left (by simp; omega)]
    by_cases hql : q < l.length
    · rw [h2 q hql, List.getElem?_append_left (l₁ := l ++ [now]) (l₂ := [nx]) (by simp; omega)]
    · have : q = l.length := by omega
      subst this
      rw [List.getElem?_append_right (by omega), Nat.sub_self, List.getElem?_append_right (l₁ := l ++ [now]) (by simp)]
      simpa using hn

theorem Path.ends {p : Lp} {at' : List Int} {l : List (List Int)} {now : List Int} {kind : Int} (h : Path p at' l now) (hn : nextN p now = ([], kind, 0)) (hk : kind ≠ 0) : IsWalk p at' (l ++ [now]) kind := by
  refine ⟨l.length, by simp, h.1, h.2, ?_, hk⟩
  rw [List.getElem?_append_right (by omega), Nat.sub_self]
  simpa using hn

/-- The steps of a path, chosen. -/
theorem path_steps (p : Lp) (m n : Nat) (hmay : p.may = true) (hm : m = p.rows.length) (hn : n = p.costs.length) (ats : Nat → List Int) (K : Nat) (h : ∀ q, q < K → nextN p (ats q) = (ats (q + 1), 0, 0)) :
    ∃ ss ks : Nat → Nat, (∀ q, q < K → NextOk p (ats q) (ats (q + 1)) m (n + m) (ss q) (ks q)) ∧ (∀ q, q < K → Good p (ats q) m n ∧ Good p (ats (q + 1)) m n) := by
  have key : ∀ q, q < K → (∃ s k, NextOk p (ats q) (ats (q + 1)) m (n + m) s k) ∧ Good p (ats q) m n ∧ Good p (ats (q + 1)) m n := by
    intro q hq
    have hq' := h q hq
    rcases next_cases p (ats q) m n hmay hm hn with ⟨e, he, h1, _⟩ | ⟨hg, ⟨k, hk, _, h1⟩ | ⟨nx, s, k, h1, _, h3, h4⟩⟩
    · rw [h1] at hq'
      simp only [Prod.mk.injEq] at hq'
      omega
    · rw [h1] at hq'
      simp only [Prod.mk.injEq] at hq'
      omega
    · rw [h1] at hq'
      simp only [Prod.mk.injEq, and_true] at hq'
      subst hq'
      exact ⟨⟨s, k, h4⟩, hg, h3⟩
  refine ⟨fun q => if hq : q < K then Classical.choose (key q hq).1 else 0, fun q => if hq : q < K then Classical.choose (Classical.choose_spec (key q hq).1) else 0, fun q hq => ?_, fun q hq => (key q hq).2⟩
  simp only [hq, dite_true]
  exact Classical.choose_spec (Classical.choose_spec (key q hq).1)

theorem path_good (p : Lp) (m n : Nat) (hmay : p.may = true) (hm : m = p.rows.length) (hn : n = p.costs.length) (ats : Nat → List Int) (K : Nat) (hK : 0 < K) (h : ∀ q, q < K → nextN p (ats q) = (ats (q + 1), 0, 0)) (q : Nat) (hq : q ≤ K) : Good p (ats q) m n := by
  obtain ⟨ss, ks, _, h2⟩ := path_steps p m n hmay hm hn ats K h
  by_cases hqK : q < K
  · exact (h2 q hqK).1
  · have : q = K - 1 + 1 := by omega
    rw [this]
    exact (h2 (K - 1) (by omega)).2

/-- A path has fewer than 4096 columns behind it. -/
theorem path_short {p : Lp} {at' : List Int} {l : List (List Int)} {now : List Int} (m n : Nat) (hmay : p.may = true) (hm : m = p.rows.length) (hn : n = p.costs.length) (h : Path p at' l now) : l.length < 4096 := by
  by_cases h0 : l.length = 0
  · omega
  · obtain ⟨ss, ks, h1, h2⟩ := path_steps p m n hmay hm hn (fun q => (l ++ [now])[q]?.getD []) l.length h.2
    have hg := path_good p m n hmay hm hn (fun q => (l ++ [now])[q]?.getD []) l.length (by omega) h.2
    have a1 := (p.may_of hmay).1.2
    have a2 := (p.may_of hmay).2.2.1.2
    exact walk_ends p m n hmay hm (by omega) (fun q => (l ++ [now])[q]?.getD []) ss ks l.length (fun q j hq => (hg q hq).x j) (fun q hq => (hg q hq).den) (fun q hq => (hg q hq).right) h1

theorem path_now {p : Lp} {at' : List Int} {l : List (List Int)} {now : List Int} (m n : Nat) (hmay : p.may = true) (hm : m = p.rows.length) (hn : n = p.costs.length) (h : Path p at' l now) (hl : l ≠ []) : Good p now m n := by
  have h0 : 0 < l.length := List.length_pos_iff.2 hl
  have := path_good p m n hmay hm hn (fun q => (l ++ [now])[q]?.getD []) l.length h0 h.2 l.length (Nat.le_refl _)
  simpa using this

end Num
end Go.Proofs.YtipcbhodlgoflabGreat

/- Which column goes out, told by the corners behind each, in plain numbers. -/
namespace Go.Proofs.YtipcbhodlgoflabGreat
namespace Num

end Num
end Go.Proofs.YtipcbhodlgoflabGreat

/- Columns that are independent: there are as many as rows at most, they can be filled up, and as many as rows have a volume. In plain numbers. -/
namespace Go.Proofs.YtipcbhodlgoflabGreat
namespace Num

/-- A sum over listed places. -/
def sumL (f : Nat → Int) : List Nat → Int
  | [] => 0
  | j :: t => f j + sumL f t

theorem sumL_congr (f g : Nat → Int) : ∀ l : List Nat, (∀ j ∈ l, f j = g j) → sumL f l = sumL g l
  | [], _ => rfl
  | j :: t, h => by
    show f j + sumL f t = g j + sumL g t
    rw [h j (by simp), sumL_congr f g t fun i hi => h i (List.mem_cons_of_mem _ hi)]

theorem sumL_zero : ∀ l : List Nat, sumL (fun _ => 0) l = 0
  | [] => rfl
  | _ :: t => by show 0 + sumL (fun _ => 0) t = 0; rw [sumL_zero t]; rfl

theorem sumL_add (f g : Nat → Int) : ∀ l : List Nat, sumL (fun j => f j + g j) l = sumL f l + sumL g l
  | [] => rfl
  | j :: t => by
    show f j + g j + sumL (fun j => f j + g j) t = f j + sumL f t + (g j + sumL g t)
    rw [sumL_add f g t]; omega

theorem sumL_mul (c : Int) (f : Nat → Int) : ∀ l : List Nat, sumL (fun j => c * f j) l = c * sumL f l
  | [] => by simp [sumL]
  | j :: t => by
    show c * f j + sumL (fun j => c * f j) t = c * (f j + sumL f t)
    rw [sumL_mul c f t, Int.mul_add]

theorem sumL_erase (f : Nat → Int) (c : Nat) : ∀ l : List Nat, c ∈ l → sumL f l = f c + sumL f (l.erase c)
  | [], h => by simp at h
  | j :: t, h => by
    by_cases hj : j = c
    · subst hj; simp [sumL]
    · rw [List.erase_cons_tail (by simpa using hj)]
      show f j + sumL f t = f c + (f j + sumL f (t.erase c))
      have ht : c ∈ t := by
        rcases List.mem_cons.1 h with h | h
        · exact absurd h.symm hj
        · exact h
      rw [sumL_erase f c t ht]
      omega

theorem sumL_range (f : Nat → Int) (n : Nat) : sumL f (List.range n) = sumN f n := by
  induction n with
  | zero => rfl
  | succ n ih =>
    have hap : ∀ (a b : List Nat), sumL f (a ++ b) = sumL f a + sumL f b := by
      intro a b
      induction a with
      | nil => simp [sumL]
      | cons x t ih => show f x + sumL f (t ++ b) = f x + sumL f t + sumL f b; rw [ih]; omega
    rw [List.range_succ, hap, ih]
    show sumN f n + (f n + 0) = sumN f n + f n
    omega

/-- Fewer rows than columns: something but nought comes to nought. -/
theorem ker (rows : List (Nat → Int)) : ∀ (cols : List Nat), cols.Nodup → rows.length < cols.length → ∃ u : Nat → Int, (∃ j ∈ cols, u j ≠ 0) ∧ ∀ r ∈ rows, sumL (fun j => r j * u j) cols = 0 := by
  suffices H : ∀ (n : Nat) (rows : List (Nat → Int)), rows.length = n → ∀ (cols : List Nat), cols.Nodup → rows.length < cols.length → ∃ u : Nat → Int, (∃ j ∈ cols, u j ≠ 0) ∧ ∀ r ∈ rows, sumL (fun j => r j * u j) cols = 0 from H rows.length rows rfl
  intro n
  induction n with
  | zero =>
    intro rows hl cols _ h
    match rows, cols, hl, h with
    | [], j :: t, _, _ => exact ⟨fun _ => 1, ⟨j, by simp, by show (1 : Int) ≠ 0; decide⟩, fun r hr => by simp at hr⟩
  | succ n ih =>
    intro rows hl cols hn h
    match rows, hl with
    | r :: rs, hl =>
      have hrs : rs.length = n := by simpa using hl
      have hlt : n + 1 < cols.length := by simp at h; omega
      by_cases hz : ∀ j ∈ cols, r j = 0
      · obtain ⟨u, hu, hr⟩ := ih rs hrs cols hn (by omega)
        refine ⟨u, hu, fun r' hr' => ?_⟩
        rcases List.mem_cons.1 hr' with rfl | hr'
        · rw [sumL_congr _ (fun _ => 0) cols fun j hj => by rw [hz j hj]; omega, sumL_zero]
        · exact hr r' hr'
      · have hc : ∃ c ∈ cols, r c ≠ 0 := by
          apply Classical.byContradiction
          intro hno
          exact hz fun j hj => Classical.byContradiction fun hne => hno ⟨j, hj, hne⟩
        obtain ⟨c, hcm, hc0⟩ := hc
        obtain ⟨u, ⟨j0, hj0, hu0⟩, hr⟩ := ih (rs.map fun r' j => r c * r' j - r' c * r j) (by rw [List.length_map]; exact hrs) (cols.erase c) (hn.erase c) (by rw [List.length_map, List.length_erase_of_mem hcm]; omega)
        have hne : ∀ j ∈ cols.erase c, j ≠ c := fun j hj => by rw [hn.mem_erase_iff] at hj; exact hj.1
        obtain ⟨S, hS⟩ : ∃ S, S = sumL (fun j => r j * u j) (cols.erase c) := ⟨_, rfl⟩
        have key : ∀ q : Nat → Int, sumL (fun j => q j * (if j = c then -S else r c * u j)) cols = q c * -S + r c * sumL (fun j => q j * u j) (cols.erase c) := by
          intro q
          rw [sumL_erase _ c cols hcm, ← sumL_mul]
          show q c * (if c = c then -S else r c * u c) + _ = _
          rw [if_pos rfl]
          congr 1
          refine sumL_congr _ _ _ fun j hj => ?_
          show q j * (if j = c then -S else r c * u j) = r c * (q j * u j)
          rw [if_neg (hne j hj)]; grind
        refine ⟨fun j => if j = c then -S else r c * u j, ⟨j0, List.mem_of_mem_erase hj0, ?_⟩, fun r' hr' => ?_⟩
        · show (if j0 = c then -S else r c * u j0) ≠ 0
          rw [if_neg (hne j0 hj0)]
          exact Int.mul_ne_zero hc0 hu0
        · rw [key r']
          rcases List.mem_cons.1 hr' with rfl | hr'
          · rw [← hS, Int.mul_neg]; omega
          · have h1 := hr _ (List.mem_map_of_mem hr')
            have h2 : sumL (fun j => (r c * r' j - r' c * r j) * u j) (cols.erase c) = r c * sumL (fun j => r' j * u j) (cols.erase c) + (-(r' c)) * sumL (fun j => r j * u j) (cols.erase c) := by
              rw [← sumL_mul, ← sumL_mul, ← sumL_add]
              exact sumL_congr _ _ _ fun j _ => by grind
            rw [h2, ← hS] at h1
            rw [Int.mul_neg, ← Int.neg_mul]
            omega

/-- Lines that are independent. -/
def IndL (n : Nat) (ls : List (List Int)) : Prop := ∀ v : Nat → Int, (∀ i, i < n → sumN (fun l => v l * at2 ls l i) n = 0) → ∀ l, l < n → v l = 0

def unitL (n q : Nat) : List Int := (List.range n).map fun i => if i = q then 1 else 0

theorem unitL_at (n q i : Nat) (hi : i < n) : (unitL n q)[i]?.getD 0 = if i = q then 1 else 0 := by unfold unitL; rw [range_getD, if_pos hi]

theorem at2_put (ls : List (List Int)) (k : Nat) (a : List Int) (l i : Nat) (hk : k < ls.length) : at2 (ls.set k a) l i = if l = k then a[i]?.getD 0 else at2 ls l i := by
  unfold at2
  rw [List.getElem?_set]
  by_cases h : k = l
  · subst h; rw [if_pos rfl, if_pos hk, if_pos rfl]; rfl
  · rw [if_neg h, if_neg (fun e => h e.symm)]

/-- One of the lines can be had as a unit line, still independent, and still without volume. -/
theorem ind_step (n : Nat) (ls : List (List Int)) (h : Sq n ls) (h1 : 1 ≤ n) (h4 : n ≤ 4) (hi : IndL n ls) (hv : vol ls none4 = 0) (k : Nat) (hk : k < n) : ∃ q, q < n ∧ Sq n (ls.set k (unitL n q)) ∧ IndL n (ls.set k (unitL n q)) ∧ vol (ls.set k (unitL n q)) none4 = 0 := by
  have hl : ls.length = n := h.1
  obtain ⟨u, ⟨q, hq, hu⟩, hr⟩ := ker (((List.range n).filter (· ≠ k)).map fun l i => at2 ls l i) (List.range n) List.nodup_range (by
    rw [List.length_map, List.length_range]
    have h1 : List.Sublist ((List.range n).filter (· ≠ k)) (List.range n) := List.filter_sublist
    have h2 := h1.length_le
    rw [List.length_range] at h2
    rcases Nat.lt_or_ge ((List.range n).filter (· ≠ k)).length n with h3 | h3
    · exact h3
    · have h5 := h1.eq_of_length (by rw [List.length_range]; omega)
      have h6 : k ∈ (List.range n).filter (· ≠ k) := by rw [h5]; exact List.mem_range.2 hk
      simp at h6)
  rw [List.mem_range] at hq
  have horth : ∀ l, l < n → l ≠ k → sumN (fun i => at2 ls l i * u i) n = 0 := by
    intro l hln hlk
    have := hr (fun i => at2 ls l i) (List.mem_map.2 ⟨l, by simp [List.mem_range, hln, hlk], rfl⟩)
    rw [sumL_range] at this
    exact this
  refine ⟨q, hq, ⟨by rw [List.length_set]; exact hl, fun r hr => ?_⟩, fun v hv2 l hln => ?_, ?_⟩
  · rcases List.mem_or_eq_of_mem_set hr with h2 | rfl
    · exact h.2 r h2
    · unfold unitL; simp
  · have hat : ∀ l i, i < n → at2 (ls.set k (unitL n q)) l i = if l = k then (if i = q then 1 else 0) else at2 ls l i := by
      intro l i hi
      rw [at2_put ls k _ l i (by omega), unitL_at n q i hi]
    -- times u: only the unit line is left
    have e1 : sumN (fun i => u i * sumN (fun l => v l * at2 (ls.set k (unitL n q)) l i) n) n = 0 := by
      have : sumN (fun i => u i * sumN (fun l => v l * at2 (ls.set k (unitL n q)) l i) n) n = sumN (fun _ => 0) n := sumN_congr _ _ _ fun i hi => by rw [hv2 i hi]; omega
      rw [this, sumN_zero]
    have e2 : sumN (fun i => u i * sumN (fun l => v l * at2 (ls.set k (unitL n q)) l i) n) n = sumN (fun l => v l * sumN (fun i => at2 (ls.set k (unitL n q)) l i * u i) n) n := by
      have a1 : sumN (fun i => u i * sumN (fun l => v l * at2 (ls.set k (unitL n q)) l i) n) n = sumN (fun i => sumN (fun l => v l * (at2 (ls.set k (unitL n q)) l i * u i)) n) n := by
        refine sumN_congr _ _ _ fun i _ => ?_
        rw [← sumN_mul]
        exact sumN_congr _ _ _ fun l _ => by grind
      rw [a1, sumN_swap]
      exact sumN_congr _ _ _ fun l _ => by rw [sumN_mul]
    have e3 : sumN (fun l => v l * sumN (fun i => at2 (ls.set k (unitL n q)) l i * u i) n) n = v k * u q := by
      rw [sumN_only _ k n hk fun l hln hlk => by
        have : sumN (fun i => at2 (ls.set k (unitL n q)) l i * u i) n = 0 := by
          rw [← horth l hln hlk]
          exact sumN_congr _ _ _ fun i hi => by rw [hat l i hi, if_neg hlk]
        show v l * _ = 0
        rw [this]; omega]
      show v k * sumN (fun i => at2 (ls.set k (unitL n q)) k i * u i) n = v k * u q
      have : sumN (fun i => at2 (ls.set k (unitL n q)) k i * u i) n = u q := by
        rw [sumN_only _ q n hq fun i hi hiq => by show at2 _ k i * u i = 0; rw [hat k i hi, if_pos rfl, if_neg hiq]; omega]
        show at2 _ k q * u q = u q
        rw [hat k q hq, if_pos rfl, if_pos rfl]; omega
      rw [this]
    have hvk : v k = 0 := by
      rw [e2, e3] at e1
      rcases Int.mul_eq_zero.1 e1 with h | h
      · exact h
      · exact absurd h hu
    refine hi v (fun i hin => ?_) l hln
    rw [← hv2 i hin]
    refine sumN_congr _ _ _ fun l' _ => ?_
    rw [hat l' i hin]
    by_cases hlk : l' = k
    · subst hlk; rw [if_pos rfl, hvk]; omega
    · rw [if_neg hlk]
  · have hs : ∀ l, l < n → (sharesL ls (unitL n q) n)[l]?.getD 0 = 0 := by
      refine hi (fun l => (sharesL ls (unitL n q) n)[l]?.getD 0) (fun i hin => ?_)
      have hc := cramer n ls (unitL n q) h (by unfold unitL; simp) h1 h4 i hin
      unfold crm at hc
      rw [dotN_sum, hv, Int.zero_mul] at hc
      rw [← hc]
      refine sumN_congr _ _ _ fun l hln => ?_
      rw [range_getD, if_pos hln]; grind
    have := hs k hk
    unfold sharesL at this
    rw [range_getD, if_pos hk] at this
    exact this

theorem perm1 : ∀ a : Fin 1, vol [unitL 1 a] none4 ≠ 0 := by decide +kernel
theorem perm2 : ∀ a b : Fin 2, a ≠ b → vol [unitL 2 a, unitL 2 b] none4 ≠ 0 := by decide +kernel
theorem perm3 : ∀ a b c : Fin 3, a ≠ b → a ≠ c → b ≠ c → vol [unitL 3 a, unitL 3 b, unitL 3 c] none4 ≠ 0 := by decide +kernel
theorem perm4 : ∀ a b c d : Fin 4, a ≠ b → a ≠ c → a ≠ d → b ≠ c → b ≠ d → c ≠ d → vol [unitL 4 a, unitL 4 b, unitL 4 c, unitL 4 d] none4 ≠ 0 := by decide +kernel

/-- Unit lines that are independent have a volume. -/
theorem units_vol (n : Nat) (h1 : 1 ≤ n) (h4 : n ≤ 4) (q : Nat → Nat) (hq : ∀ l, l < n → q l < n) (hinj : ∀ l l', l < n → l' < n → l ≠ l' → q l ≠ q l') : vol ((List.range n).map fun l => unitL n (q l)) none4 ≠ 0 := by
  match n, h1, h4 with
  | 1, _, _ => exact perm1 ⟨q 0, hq 0 (by omega)⟩
  | 2, _, _ => exact perm2 ⟨q 0, hq 0 (by omega)⟩ ⟨q 1, hq 1 (by omega)⟩ (fun e => hinj 0 1 (by omega) (by omega) (by omega) (by injection e))
  | 3, _, _ => exact perm3 ⟨q 0, hq 0 (by omega)⟩ ⟨q 1, hq 1 (by omega)⟩ ⟨q 2, hq 2 (by omega)⟩ (fun e => hinj 0 1 (by omega) (by omega) (by omega) (by injection e)) (fun e => hinj 0 2 (by omega) (by omega) (by omega) (by injection e)) (fun e => hinj 1 2 (by omega) (by omega) (by omega) (by injection e))
  | 4, _, _ => exact perm4 ⟨q 0, hq 0 (by omega)⟩ ⟨q 1, hq 1 (by omega)⟩ ⟨q 2, hq 2 (by omega)⟩ ⟨q 3, hq 3 (by omega)⟩ (fun e => hinj 0 1 (by omega) (by omega) (by omega) (by injection e)) (fun e => hinj 0 2 (by omega) (by omega) (by omega) (by injection e)) (fun e => hinj 0 3 (by omega) (by omega) (by omega) (by injection e)) (fun e => hinj 1 2 (by omega) (by omega) (by omega) (by injection e)) (fun e => hinj 1 3 (by omega) (by omega) (by omega) (by injection e)) (fun e => hinj 2 3 (by omega) (by omega) (by omega) (by injection e))

theorem ind_units (n : Nat) (ls : List (List Int)) (h : Sq n ls) (h1 : 1 ≤ n) (h4 : n ≤ 4) (hi : IndL n ls) (hv : vol ls none4 = 0) : ∀ k, k ≤ n → ∃ (ls' : List (List Int)) (q : Nat → Nat), Sq n ls' ∧ IndL n ls' ∧ vol ls' none4 = 0 ∧ ∀ l, l < k → ls'[l]? = some (unitL n (q l)) ∧ q l < n := by
  intro k
  induction k with
  | zero => intro _; exact ⟨ls, fun _ => 0, h, hi, hv, fun l hl => by omega⟩
  | succ k ih =>
    intro hk
    obtain ⟨ls', q, g1, g2, g3, g4⟩ := ih (by omega)
    obtain ⟨c, hc, f1, f2, f3⟩ := ind_step n ls' g1 h1 h4 g2 g3 k (by omega)
    refine ⟨ls'.set k (unitL n c), fun l => if l = k then c else q l, f1, f2, f3, fun l hl => ?_⟩
    by_cases hlk : l = k
    · subst hlk
      rw [List.getElem?_set_self (by have := g1.1; omega)]
      simp [hc]
    · rw [List.getElem?_set_ne (fun e => hlk e.symm)]
      simp only [hlk, if_false]
      exact g4 l (by omega)

/-- Lines that are independent have a volume. -/
theorem ind_vol (n : Nat) (ls : List (List Int)) (h : Sq n ls) (h1 : 1 ≤ n) (h4 : n ≤ 4) (hi : IndL n ls) : vol ls none4 ≠ 0 := by
  intro hv
  obtain ⟨ls', q, g1, g2, g3, g4⟩ := ind_units n ls h h1 h4 hi hv n (Nat.le_refl _)
  have he : ls' = (List.range n).map fun l => unitL n (q l) := by
    apply List.ext_getElem?
    intro l
    by_cases hl : l < n
    · rw [(g4 l hl).1, List.getElem?_map, List.getElem?_range hl]; rfl
    · rw [List.getElem?_eq_none (by have := g1.1; omega), List.getElem?_eq_none (by simp; omega)]
  have hat : ∀ l i, l < n → i < n → at2 ls' l i = if i = q l then 1 else 0 := by
    intro l i hl hin
    unfold at2
    rw [(g4 l hl).1, Option.getD_some, unitL_at n (q l) i hin]
  refine units_vol n h1 h4 q (fun l hl => (g4 l hl).2) (fun l l' hl hl' hne e => ?_) (by rw [← he]; exact g3)
  have h0 := g2 (fun x => (if x = l then 1 else 0) + (-1) * (if x = l' then 1 else 0)) (fun i hin => by
    have e1 : sumN (fun x => ((if x = l then 1 else 0) + (-1) * (if x = l' then 1 else 0)) * at2 ls' x i) n = sumN (fun x => (if x = l then 1 else 0) * at2 ls' x i + (-1) * ((if x = l' then 1 else 0) * at2 ls' x i)) n := sumN_congr _ _ _ fun x _ => by grind
    rw [e1, sumN_add, sumN_mul, sum_one (fun x => at2 ls' x i) l n hl, sum_one (fun x => at2 ls' x i) l' n hl', hat l i hl hin, hat l' i hl' hin, e]
    omega) l hl
  simp [hne] at h0

end Num
end Go.Proofs.YtipcbhodlgoflabGreat

/- Where something goes, a corner goes: in plain numbers. -/
namespace Go.Proofs.YtipcbhodlgoflabGreat
namespace Num

theorem sumL_perm (f : Nat → Int) {a b : List Nat} (h : a.Perm b) : sumL f a = sumL f b := by
  induction h with
  | nil => rfl
  | cons x _ ih => show f x + _ = f x + _; rw [ih]
  | swap x y t => show f y + (f x + sumL f t) = f x + (f y + sumL f t); omega
  | trans _ _ h1 h2 => rw [h1, h2]

theorem sumL_filter (f : Nat → Int) (P : Nat → Bool) : ∀ l : List Nat, (∀ j ∈ l, P j = false → f j = 0) → sumL f (l.filter P) = sumL f l
  | [], _ => rfl
  | j :: t, h => by
    have ih := sumL_filter f P t fun i hi => h i (List.mem_cons_of_mem _ hi)
    cases hp : P j with
    | true => rw [List.filter_cons_of_pos hp]; show f j + _ = f j + _; rw [ih]
    | false => rw [List.filter_cons_of_neg (by simp [hp]), ih]; show _ = f j + _; rw [h j (by simp) hp]; omega

/-- A sum over all places is one over those where it is not nought. -/
theorem sumL_set (f : Nat → Int) (N : Nat) (S : List Nat) (hn : S.Nodup) (hN : ∀ j ∈ S, j < N) (hz : ∀ j, j < N → j ∉ S → f j = 0) : sumN f N = sumL f S := by
  rw [← sumL_range, ← sumL_filter f (fun j => decide (j ∈ S)) (List.range N) fun j hj hp => hz j (List.mem_range.1 hj) (by simpa using hp)]
  refine sumL_perm f ((List.perm_ext_iff_of_nodup (List.Pairwise.filter _ List.nodup_range) hn).2 fun j => ?_)
  simp only [List.mem_filter, List.mem_range, decide_eq_true_eq]
  exact ⟨fun h => h.2, fun h => ⟨hN j h, h⟩⟩

/-- Columns that are independent. -/
def IndC (p : Lp) (m : Nat) (S : List Nat) : Prop := ∀ v : Nat → Int, (∀ i, i < m → sumL (fun j => hasF p j i * v j) S = 0) → ∀ j ∈ S, v j = 0

theorem sumL_sumN (f : Nat → Nat → Int) (m : Nat) : ∀ S : List Nat, sumN (fun i => sumL (fun j => f j i) S) m = sumL (fun j => sumN (fun i => f j i) m) S
  | [] => by show sumN (fun _ => 0) m = 0; exact sumN_zero m
  | j :: t => by
    show sumN (fun i => f j i + sumL (fun j => f j i) t) m = sumN (fun i => f j i) m + sumL (fun j => sumN (fun i => f j i) m) t
    rw [sumN_add, sumL_sumN f m t]

theorem has_slack (p : Lp) (n q i : Nat) (hn : n = p.costs.length) : hasF p (n + q) i = if i = q then 1 else 0 := by
  unfold hasF
  rw [if_neg (by omega)]
  by_cases h : i = q
  · rw [if_pos (by omega), if_pos h]
  · rw [if_neg (by omega), if_neg h]

/-- One more column. -/
theorem ind_more (p : Lp) (m n : Nat) (hn : n = p.costs.length) (S : List Nat) (hS : IndC p m S) (hlt : S.length < m) : ∃ q, q < m ∧ n + q ∉ S ∧ IndC p m ((n + q) :: S) := by
  obtain ⟨u, ⟨q, hq, hu⟩, hr⟩ := ker (S.map fun j i => hasF p j i) (List.range m) List.nodup_range (by rw [List.length_map, List.length_range]; exact hlt)
  rw [List.mem_range] at hq
  have horth : ∀ j ∈ S, sumN (fun i => hasF p j i * u i) m = 0 := by
    intro j hj
    have := hr (fun i => hasF p j i) (List.mem_map.2 ⟨j, hj, rfl⟩)
    rw [sumL_range] at this
    exact this
  have hc : sumN (fun i => hasF p (n + q) i * u i) m = u q := by
    rw [sumN_only _ q m hq fun i hi hiq => by show hasF p (n + q) i * u i = 0; rw [has_slack p n q i hn, if_neg hiq]; omega]
    show hasF p (n + q) q * u q = u q
    rw [has_slack p n q q hn, if_pos rfl]; omega
  refine ⟨q, hq, fun hm => hu (by rw [← hc]; exact horth _ hm), fun v hv j hj => ?_⟩
  have hv' : ∀ i, i < m → hasF p (n + q) i * v (n + q) + sumL (fun j => hasF p j i * v j) S = 0 := hv
  have e1 : sumN (fun i => u i * (hasF p (n + q) i * v (n + q) + sumL (fun j => hasF p j i * v j) S)) m = 0 := by
    have : sumN (fun i => u i * (hasF p (n + q) i * v (n + q) + sumL (fun j => hasF p j i * v j) S)) m = sumN (fun _ => 0) m := sumN_congr _ _ _ fun i hi => by rw [hv' i hi]; omega
    rw [this, sumN_zero]
  have e2 : sumN (fun i => u i * (hasF p (n + q) i * v (n + q) + sumL (fun j => hasF p j i * v j) S)) m = v (n + q) * u q := by
    have a1 : sumN (fun i => u i * (hasF p (n + q) i * v (n + q) + sumL (fun j => hasF p j i * v j) S)) m = sumN (fun i => v (n + q) * (hasF p (n + q) i * u i) + sumL (fun j => v j * (hasF p j i * u i)) S) m := by
      refine sumN_congr _ _ _ fun i _ => ?_
      rw [Int.mul_add, ← sumL_mul]
      have : sumL (fun j => u i * (hasF p j i * v j)) S = sumL (fun j => v j * (hasF p j i * u i)) S := sumL_congr _ _ _ fun j _ => by grind
      rw [this]; grind
    rw [a1, sumN_add, sumN_mul, hc, sumL_sumN (fun j i => v j * (hasF p j i * u i)) m S]
    have : sumL (fun j => sumN (fun i => v j * (hasF p j i * u i)) m) S = sumL (fun _ => 0) S := sumL_congr _ _ _ fun j hj => by rw [sumN_mul, horth j hj]; omega
    rw [this, sumL_zero]; omega
  have h0 : v (n + q) = 0 := by
    rw [e2] at e1
    rcases Int.mul_eq_zero.1 e1 with h | h
    · exact h
    · exact absurd h hu
  rcases List.mem_cons.1 hj with rfl | hj
  · exact h0
  · refine hS v (fun i hi => ?_) j hj
    have := hv' i hi
    rw [h0] at this
    omega

/-- As many as there are rows. -/
theorem ind_fill (p : Lp) (m n : Nat) (hn : n = p.costs.length) : ∀ (d : Nat) (S : List Nat), IndC p m S → S.Nodup → (∀ j ∈ S, j < n + m) → S.length + d = m → ∃ T : List Nat, IndC p m T ∧ T.Nodup ∧ (∀ j ∈ T, j < n + m) ∧ T.length = m ∧ ∀ j ∈ S, j ∈ T := by
  intro d
  induction d with
  | zero => intro S h1 h2 h3 h4; exact ⟨S, h1, h2, h3, by omega, fun j hj => hj⟩
  | succ d ih =>
    intro S h1 h2 h3 h4
    obtain ⟨q, hq, hqS, hqi⟩ := ind_more p m n hn S h1 (by omega)
    obtain ⟨T, t1, t2, t3, t4, t5⟩ := ih ((n + q) :: S) hqi (List.nodup_cons.2 ⟨hqS, h2⟩) (fun j hj => by
      rcases List.mem_cons.1 hj with rfl | hj
      · omega
      · exact h3 j hj) (by simp; omega)
    exact ⟨T, t1, t2, t3, t4, fun j hj => t5 j (List.mem_cons_of_mem _ hj)⟩

/-- The columns, rising. -/
def riseL (N : Nat) (S : List Nat) : List Int := ((List.range N).filter fun j => decide (j ∈ S)).map fun (j : Nat) => (j : Int)

theorem rise_ok (m N : Nat) (S : List Nat) (hn : S.Nodup) (hN : ∀ j ∈ S, j < N) (hl : S.length = m) : rightB (riseL N S) m N = true ∧ ∀ j, inB (riseL N S) m j = decide (j ∈ S) := by
  have hperm : ((List.range N).filter fun j => decide (j ∈ S)).Perm S := (List.perm_ext_iff_of_nodup (List.Pairwise.filter _ List.nodup_range) hn).2 fun j => by
    simp only [List.mem_filter, List.mem_range, decide_eq_true_eq]
    exact ⟨fun h => h.2, fun h => ⟨hN j h, h⟩⟩
  have hrise : ((List.range N).filter fun j => decide (j ∈ S)).Pairwise (· < ·) := List.Pairwise.filter _ List.pairwise_lt_range
  have hmem : ∀ j ∈ ((List.range N).filter fun j => decide (j ∈ S)), j < N := fun j hj => by simp only [List.mem_filter, List.mem_range] at hj; exact hj.1
  have hlen := hperm.length_eq
  have hin : ∀ j, j ∈ ((List.range N).filter fun j => decide (j ∈ S)) ↔ j ∈ S := fun j => hperm.mem_iff
  unfold riseL
  generalize (List.range N).filter (fun j => decide (j ∈ S)) = R at *
  have hval : ∀ k, k < m → (R.map fun (j : Nat) => (j : Int))[k]?.getD 0 = (R[k]?.getD 0 : Nat) := by
    intro k hk
    rw [List.getElem?_map, List.getElem?_eq_getElem (by omega)]; rfl
  have hr : rightB (R.map fun (j : Nat) => (j : Int)) m N = true := by
    refine right_of _ m N (by rw [List.length_map]; omega) fun k hk => ?_
    rw [hval k hk]
    have hkN : R[k]?.getD 0 < N := by
      rw [List.getElem?_eq_getElem (by omega)]
      exact hmem _ (List.getElem_mem _)
    refine ⟨?_, by omega⟩
    cases k with
    | zero => show (0 : Int) ≤ _; omega
    | succ k =>
      show (R.map fun (j : Nat) => (j : Int))[k]?.getD 0 + 1 ≤ _
      rw [hval k (by omega)]
      have := (List.pairwise_iff_getElem.1 hrise) k (k + 1) (by omega) (by omega) (by omega)
      rw [List.getElem?_eq_getElem (by omega), List.getElem?_eq_getElem (by omega)]
      simp only [Option.getD_some]
      omega
  refine ⟨hr, fun j => ?_⟩
  have hatF : ∀ k, k < m → atF (R.map fun (j : Nat) => (j : Int)) k = R[k]?.getD 0 := by
    intro k hk
    unfold atF
    rw [hval k hk]; simp
  by_cases hj : j ∈ S
  · rw [decide_eq_true hj]
    obtain ⟨k, hk, he⟩ := List.getElem_of_mem ((hin j).2 hj)
    refine (inB_true _ _ _).2 ⟨k, by omega, ?_⟩
    rw [hatF k (by omega), List.getElem?_eq_getElem hk]
    exact he
  · rw [decide_eq_false hj]
    refine (inB_false _ _ _).2 fun k hk e => hj ?_
    rw [hatF k hk, List.getElem?_eq_getElem (by omega)] at e
    rw [← e]
    exact (hin _).1 (List.getElem_mem _)

/-- Independent columns, as many as rows, make a corner. -/
theorem ind_den (p : Lp) (m n : Nat) (h1 : 1 ≤ m) (h4 : m ≤ 4) (S : List Nat) (hS : IndC p m S) (hn : S.Nodup) (hN : ∀ j ∈ S, j < n + m) (hl : S.length = m) : denL p (riseL (n + m) S) m ≠ 0 := by
  obtain ⟨hr, hin⟩ := rise_ok m (n + m) S hn hN hl
  generalize riseL (n + m) S = at' at *
  refine ind_vol m (chosenL p at' m) (chosen_sq p at' m) h1 h4 fun v hv l hlm => ?_
  have hsp := spread_in (n + m) at' ((List.range m).map v) m hr m (Nat.le_refl _) l hlm
  rw [range_getD, if_pos hlm] at hsp
  rw [← hsp]
  have hout : ∀ j, j ∉ S → (spreadN (n + m) at' ((List.range m).map v) m)[j]?.getD 0 = 0 := by
    intro j hj
    refine spread_not _ _ _ _ _ ((inB_false at' m j).1 ?_)
    rw [hin j]; exact decide_eq_false hj
  refine hS (fun j => (spreadN (n + m) at' ((List.range m).map v) m)[j]?.getD 0) (fun i hi => ?_) _ ?_
  · rw [← sumL_set (fun j => hasF p j i * (spreadN (n + m) at' ((List.range m).map v) m)[j]?.getD 0) (n + m) S hn hN fun j _ hj => by show hasF p j i * _ = 0; rw [hout j hj]; omega]
    rw [spread_sum (fun j => hasF p j i) (n + m) at' _ m hr m (Nat.le_refl _)]
    refine Eq.trans ?_ (hv i hi)
    refine sumN_congr _ _ _ fun k hk => ?_
    rw [range_getD, if_pos hk, chosen_at p at' m k i hk hi]; grind
  · have := (inB_true at' m (atF at' l)).2 ⟨l, hlm, rfl⟩
    rw [hin] at this
    simpa using this

end Num
end Go.Proofs.YtipcbhodlgoflabGreat

/- Where something goes, a corner goes: in plain numbers. -/
namespace Go.Proofs.YtipcbhodlgoflabGreat
namespace Num

theorem cross_le (xa va xb vb xc vc : Int) (ha : 0 < va) (hb : 0 < vb) (hc : 0 < vc) (h1 : xa * vb ≤ xb * va) (h2 : xb * vc ≤ xc * vb) : xa * vc ≤ xc * va := by
  have e1 : xa * vb * vc ≤ xb * va * vc := Int.mul_le_mul_of_nonneg_right h1 (Int.le_of_lt hc)
  have e2 : xb * vc * va ≤ xc * vb * va := Int.mul_le_mul_of_nonneg_right h2 (Int.le_of_lt ha)
  have e3 : vb * (xa * vc) ≤ vb * (xc * va) := by
    have a1 : vb * (xa * vc) = xa * vb * vc := by grind
    have a2 : xb * va * vc = xb * vc * va := by grind
    have a3 : vb * (xc * va) = xc * vb * va := by grind
    omega
  exact Int.le_of_mul_le_mul_left e3 hb

/-- The nearest of several. -/
theorem nearest (z v : Nat → Int) : ∀ l : List Nat, l ≠ [] → (∀ j ∈ l, 0 < v j) → ∃ j0 ∈ l, ∀ j ∈ l, z j0 * v j ≤ z j * v j0
  | [], h, _ => absurd rfl h
  | j :: t, _, hv => by
    by_cases ht : t = []
    · subst ht
      refine ⟨j, by simp, fun i hi => ?_⟩
      have : i = j := by simpa using hi
      subst this; exact Int.le_refl _
    · obtain ⟨k, hk, hmin⟩ := nearest z v t ht fun i hi => hv i (List.mem_cons_of_mem _ hi)
      have hvj := hv j (by simp)
      have hvk := hv k (List.mem_cons_of_mem _ hk)
      by_cases hc : z j * v k ≤ z k * v j
      · refine ⟨j, by simp, fun i hi => ?_⟩
        rcases List.mem_cons.1 hi with rfl | hi
        · exact Int.le_refl _
        · exact cross_le _ _ _ _ _ _ hvj hvk (hv i (List.mem_cons_of_mem _ hi)) hc (hmin i hi)
      · refine ⟨k, List.mem_cons_of_mem _ hk, fun i hi => ?_⟩
        rcases List.mem_cons.1 hi with rfl | hi
        · omega
        · exact hmin i hi

theorem nodup_len : ∀ (a b : List Nat), a.Nodup → (∀ x ∈ a, x ∈ b) → a.length ≤ b.length
  | [], _, _, _ => by simp
  | x :: t, b, hn, h => by
    rw [List.nodup_cons] at hn
    have hx := h x (by simp)
    have := nodup_len t (b.erase x) hn.2 fun y hy => (List.mem_erase_of_ne (fun e => hn.1 (by rw [← e]; exact hy))).2 (h y (List.mem_cons_of_mem _ hy))
    rw [List.length_erase_of_mem hx] at this
    have := List.length_pos_of_mem hx
    simp only [List.length_cons]
    omega

/-- The places that are not nought. -/
def suppL (z : Nat → Int) (N : Nat) : List Nat := (List.range N).filter fun j => decide (z j ≠ 0)

theorem supp_mem (z : Nat → Int) (N j : Nat) : j ∈ suppL z N ↔ j < N ∧ z j ≠ 0 := by
  unfold suppL
  simp only [List.mem_filter, List.mem_range, decide_eq_true_eq]

theorem supp_nodup (z : Nat → Int) (N : Nat) : (suppL z N).Nodup := List.Pairwise.filter _ List.nodup_range

theorem goes_corner (p : Lp) (m n : Nat) (hmay : p.may = true) (hm : m = p.rows.length) (hn : n = p.costs.length) : ∀ (c : Nat) (z : Nat → Int) (D : Int), 0 < D → (∀ j, j < n + m → 0 ≤ z j) → (∀ i, i < m → sumN (fun j => hasF p j i * z j) (n + m) = D * mostF p i) → (suppL z (n + m)).length ≤ c → ∃ at', Good p at' m n := by
  have h1 : 1 ≤ m := by have := (p.may_of hmay).2.2.1.1; omega
  have h4 : m ≤ 4 := by have := (p.may_of hmay).2.2.1.2; omega
  intro c
  induction c with
  | zero =>
    intro z D hD hz hs hc
    have hS : suppL z (n + m) = [] := List.length_eq_zero_iff.1 (by omega)
    have hz0 : ∀ j, j < n + m → z j = 0 := fun j hj => Classical.byContradiction fun hne => by
      have := (supp_mem z (n + m) j).2 ⟨hj, hne⟩
      rw [hS] at this; simp at this
    obtain ⟨T, t1, t2, t3, t4, _⟩ := ind_fill p m n hn m [] (fun v _ j hj => by simp at hj) List.nodup_nil (fun j hj => by simp at hj) (by simp)
    obtain ⟨hr, hin⟩ := rise_ok m (n + m) T t2 t3 t4
    have hd := ind_den p m n h1 h4 T t1 t2 t3 t4
    refine ⟨_, hr, hd, fun j => ?_⟩
    generalize riseL (n + m) T = at' at *
    by_cases hj : j < n + m
    · have h0 := within_none p at' m (n + m) hr h1 h4 hd (fun j => (xL p at' m (n + m))[j]?.getD 0) (fun j _ hb => x_not p at' m (n + m) j hb) (fun i hi => by
        rw [x_level p at' m (n + m) hr h1 h4 i hi]
        have := hs i hi
        have hz' : sumN (fun j => hasF p j i * z j) (n + m) = sumN (fun _ => 0) (n + m) := sumN_congr _ _ _ fun j hj => by rw [hz0 j hj]; omega
        rw [hz', sumN_zero] at this
        have hm0 : mostF p i = 0 := by
          rcases Int.mul_eq_zero.1 this.symm with h | h
          · omega
          · exact h
        rw [hm0]; omega) j hj
      have h0' : (xL p at' m (n + m))[j]?.getD 0 = 0 := h0
      rw [h0']; omega
    · rw [List.getElem?_eq_none (by unfold xL; rw [spread_len]; omega)]
      show 0 ≤ sgD p at' m * 0
      omega
  | succ c ih =>
    intro z D hD hz hs hc
    by_cases hind : IndC p m (suppL z (n + m))
    · have hle : (suppL z (n + m)).length ≤ m := by
        rcases Nat.lt_or_ge m (suppL z (n + m)).length with h | h
        · obtain ⟨u, ⟨j, hj, hu⟩, hr⟩ := ker ((List.range m).map fun i j => hasF p j i) (suppL z (n + m)) (supp_nodup z (n + m)) (by rw [List.length_map, List.length_range]; exact h)
          exact absurd (hind u (fun i hi => hr (fun j => hasF p j i) (List.mem_map.2 ⟨i, List.mem_range.2 hi, rfl⟩)) j hj) hu
        · exact h
      obtain ⟨T, t1, t2, t3, t4, t5⟩ := ind_fill p m n hn (m - (suppL z (n + m)).length) (suppL z (n + m)) hind (supp_nodup z (n + m)) (fun j hj => ((supp_mem z (n + m) j).1 hj).1) (by omega)
      obtain ⟨hr, hin⟩ := rise_ok m (n + m) T t2 t3 t4
      have hd := ind_den p m n h1 h4 T t1 t2 t3 t4
      refine ⟨_, hr, hd, fun j => ?_⟩
      have hzout : ∀ j, j < n + m → inB (riseL (n + m) T) m j = false → z j = 0 := by
        intro j hj hb
        apply Classical.byContradiction
        intro hne
        rw [hin j] at hb
        have := t5 j ((supp_mem z (n + m) j).2 ⟨hj, hne⟩)
        simp [this] at hb
      generalize riseL (n + m) T = at' at *
      by_cases hj : j < n + m
      · have h0 := within_none p at' m (n + m) hr h1 h4 hd (fun j => (xL p at' m (n + m))[j]?.getD 0 * D - denL p at' m * z j) (fun j hj hb => by
            show (xL p at' m (n + m))[j]?.getD 0 * D - denL p at' m * z j = 0
            rw [x_not p at' m (n + m) j hb, hzout j hj hb]; omega) (fun i hi => by
            have e : sumN (fun j => hasF p j i * ((xL p at' m (n + m))[j]?.getD 0 * D - denL p at' m * z j)) (n + m) = sumN (fun j => D * (hasF p j i * (xL p at' m (n + m))[j]?.getD 0) + (-(denL p at' m)) * (hasF p j i * z j)) (n + m) := sumN_congr _ _ _ fun j _ => by grind
            rw [e, sumN_add, sumN_mul, sumN_mul, x_level p at' m (n + m) hr h1 h4 i hi, hs i hi]; grind) j hj
        have h0' : (xL p at' m (n + m))[j]?.getD 0 * D - denL p at' m * z j = 0 := h0
        have hs1 := sgD_pos p at' m hd
        have hzj := hz j hj
        generalize (xL p at' m (n + m))[j]?.getD 0 = x at *
        generalize denL p at' m = dd at *
        generalize sgD p at' m = g at *
        have e : D * (g * x) = (g * dd) * z j := by
          have a1 : x * D = dd * z j := by omega
          have a2 : D * (g * x) = g * (x * D) := by grind
          have a3 : (g * dd) * z j = g * (dd * z j) := by grind
          rw [a2, a3, a1]
        have hp := Int.mul_nonneg (Int.le_of_lt hs1) hzj
        rw [← e] at hp
        exact (nonneg_mul_iff D (g * x) hD).1 hp
      · rw [List.getElem?_eq_none (by unfold xL; rw [spread_len]; omega)]
        show 0 ≤ sgD p at' m * 0
        omega
    · -- one column fewer
      obtain ⟨v, hv, j1, hj1, hv1⟩ : ∃ v : Nat → Int, (∀ i, i < m → sumL (fun j => hasF p j i * v j) (suppL z (n + m)) = 0) ∧ ∃ j ∈ suppL z (n + m), 0 < v j := by
        have : ∃ v : Nat → Int, (∀ i, i < m → sumL (fun j => hasF p j i * v j) (suppL z (n + m)) = 0) ∧ ∃ j ∈ suppL z (n + m), v j ≠ 0 := by
          apply Classical.byContradiction
          intro hno
          exact hind fun v hv j hj => Classical.byContradiction fun hne => hno ⟨v, hv, j, hj, hne⟩
        obtain ⟨v, hv, j, hj, hne⟩ := this
        by_cases hp : 0 < v j
        · exact ⟨v, hv, j, hj, hp⟩
        · refine ⟨fun j => -(v j), fun i hi => ?_, j, hj, by show 0 < -(v j); omega⟩
          have : sumL (fun j => hasF p j i * -(v j)) (suppL z (n + m)) = (-1) * sumL (fun j => hasF p j i * v j) (suppL z (n + m)) := by
            rw [← sumL_mul]; exact sumL_congr _ _ _ fun j _ => by grind
          rw [this, hv i hi]; omega
      obtain ⟨j0, hj0, hmin⟩ := nearest z v ((suppL z (n + m)).filter fun j => decide (0 < v j)) (List.ne_nil_of_mem (List.mem_filter.2 ⟨hj1, decide_eq_true hv1⟩)) (fun j hj => by simpa using (List.mem_filter.1 hj).2)
      have hv0 : 0 < v j0 := by simpa using (List.mem_filter.1 hj0).2
      have hj0S := (List.mem_filter.1 hj0).1
      have hj0N := ((supp_mem z (n + m) j0).1 hj0S).1
      have hz0 := hz j0 hj0N
      obtain ⟨z2, hz2⟩ : ∃ z2 : Nat → Int, z2 = fun j => v j0 * z j - z j0 * (if j ∈ suppL z (n + m) then v j else 0) := ⟨_, rfl⟩
      have hz2v : ∀ j, z2 j = v j0 * z j - z j0 * (if j ∈ suppL z (n + m) then v j else 0) := fun j => by rw [hz2]
      refine ih z2 (v j0 * D) (Int.mul_pos hv0 hD) (fun j hj => ?_) (fun i hi => ?_) ?_
      · rw [hz2v j]
        have hzj := hz j hj
        by_cases hjS : j ∈ suppL z (n + m)
        · rw [if_pos hjS]
          by_cases hvj : 0 < v j
          · have := hmin j (List.mem_filter.2 ⟨hjS, decide_eq_true hvj⟩)
            have e : v j0 * z j = z j * v j0 := Int.mul_comm _ _
            omega
          · have a1 := Int.mul_nonneg (Int.le_of_lt hv0) hzj
            have a2 := Int.mul_nonpos_of_nonneg_of_nonpos hz0 (Int.not_lt.1 hvj)
            omega
        · rw [if_neg hjS]
          have a1 := Int.mul_nonneg (Int.le_of_lt hv0) hzj
          omega
      · have e1 : sumN (fun j => hasF p j i * z2 j) (n + m) = sumN (fun j => v j0 * (hasF p j i * z j) + (-(z j0)) * (hasF p j i * (if j ∈ suppL z (n + m) then v j else 0))) (n + m) := sumN_congr _ _ _ fun j _ => by rw [hz2v j]; grind
        have e2 : sumN (fun j => hasF p j i * (if j ∈ suppL z (n + m) then v j else 0)) (n + m) = 0 := by
          rw [sumL_set (fun j => hasF p j i * (if j ∈ suppL z (n + m) then v j else 0)) (n + m) (suppL z (n + m)) (supp_nodup z (n + m)) (fun j hj => ((supp_mem z (n + m) j).1 hj).1) fun j _ hj => by show hasF p j i * (if j ∈ suppL z (n + m) then v j else 0) = 0; rw [if_neg hj]; omega]
          rw [← hv i hi]
          exact sumL_congr _ _ _ fun j hj => by rw [if_pos hj]
        rw [e1, sumN_add, sumN_mul, sumN_mul, e2, hs i hi]; grind
      · have hsub : ∀ j, j ∈ suppL z2 (n + m) → j ∈ (suppL z (n + m)).erase j0 := by
          intro j hj
          obtain ⟨hjN, hne⟩ := (supp_mem z2 (n + m) j).1 hj
          rw [hz2v j] at hne
          rw [(supp_nodup z (n + m)).mem_erase_iff]
          refine ⟨fun e => hne ?_, ?_⟩
          · subst e; rw [if_pos hj0S]; grind
          · apply Classical.byContradiction
            intro hjS
            rw [if_neg hjS] at hne
            have hzj : z j = 0 := Classical.byContradiction fun h => hjS ((supp_mem z (n + m) j).2 ⟨hjN, h⟩)
            rw [hzj] at hne
            omega
        have hlen := nodup_len _ _ (supp_nodup z2 (n + m)) hsub
        rw [List.length_erase_of_mem hj0S] at hlen
        omega

end Num
end Go.Proofs.YtipcbhodlgoflabGreat

/- In a walk no columns come twice, and the worth never falls, told by what Look answers: in plain numbers. -/
namespace Go.Proofs.YtipcbhodlgoflabGreat
namespace Num

/-- All corners of a walk go; and its kind. -/
theorem isWalk_good {p : Lp} {at' : List Int} {l : List (List Int)} {k : Int} (hmay : p.may = true) (h : IsWalk p at' l k) : (∀ i, i < l.length → Good p (l[i]?.getD []) p.rows.length p.costs.length) ∧ (k = 1 ∨ k = 2) ∧ 1 ≤ l.length := by
  obtain ⟨K, a1, a2, a3, a4, a5⟩ := h
  have hlast : Good p (l[K]?.getD []) p.rows.length p.costs.length ∧ (k = 1 ∨ k = 2) := by
    rcases next_cases p (l[K]?.getD []) p.rows.length p.costs.length hmay rfl rfl with ⟨e, he, h1, _⟩ | ⟨hg, ⟨k', hk, hk2, h1⟩ | ⟨nx, s, k', h1, _⟩⟩
    · rw [a4] at h1
      simp only [Prod.mk.injEq] at h1
      exact absurd h1.2.2.symm he
    · rw [a4] at h1
      simp only [Prod.mk.injEq, true_and, and_true] at h1
      exact ⟨hg, by rw [h1]; exact hk2⟩
    · rw [a4] at h1
      simp only [Prod.mk.injEq] at h1
      exact absurd h1.2.1 a5
  refine ⟨fun i hi => ?_, hlast.2, by omega⟩
  by_cases hiK : i < K
  · obtain ⟨_, _, _, h2⟩ := path_steps p p.rows.length p.costs.length hmay rfl rfl (fun q => l[q]?.getD []) K a3
    exact (h2 i hiK).1
  · have : i = K := by omega
    subst this
    exact hlast.1

end Num
end Go.Proofs.YtipcbhodlgoflabGreat

/- How a walk ends, in plain numbers: prices at a corner whose gains are none, or a way that rises without end. -/
namespace Go.Proofs.YtipcbhodlgoflabGreat
namespace Num

/-- What Next tells at a corner that goes. -/
theorem next_kind (p : Lp) (at' : List Int) (m n : Nat) (hmay : p.may = true) (hm : m = p.rows.length) (hn : n = p.costs.length) (hg : Good p at' m n) :
    (nextN p at' = ([], 1, 0) ∧ ∀ j : Nat, j < n + m → sgD p at' m * (gainL p at' m (n + m))[j]?.getD 0 ≤ 0) ∨
    (nextN p at' = ([], 2, 0) ∧ ∃ s, s < n + m ∧ inB at' m s = false ∧ 0 < sgD p at' m * (gainL p at' m (n + m))[s]?.getD 0 ∧ ∀ k, k < m → sgD p at' m * (wayL p at' m s)[k]?.getD 0 ≤ 0) ∨
    ∃ nx, nextN p at' = (nx, 0, 0) ∧ Good p nx m n := by
  rcases next_cases p at' m n hmay hm hn with ⟨e, he, h1, h2⟩ | ⟨_, ⟨k, hk, hk2, h1⟩ | ⟨nx, s, k, h1, _, h3, _⟩⟩
  · exact absurd hg h2
  · obtain ⟨e1, e2⟩ := (good_of p at' m n hmay hm hn).2 hg
    obtain ⟨l1, l2, l3, l4, _⟩ := first_len p at' m n hmay hm hn hg
    obtain ⟨_, _, _, _, _, gx, gg, gx0, gg0, hx, _, hgn⟩ := look_parts p at' m n hmay hm hn hg.right hg.den
    rw [h1]
    unfold nextN at h1
    rw [if_neg (by omega), if_neg (by rw [e2]; decide), l1, l2] at h1
    rcases first_ok (look p at').g (n + m) with ⟨f1, f2⟩ | ⟨s, f1, f2, f3, f4⟩
    · rw [f1, if_pos (by omega)] at h1
      simp only [Prod.mk.injEq, true_and, and_true] at h1
      refine Or.inl ⟨by rw [h1], fun j hj => ?_⟩
      rw [hgn j]
      exact Int.mul_nonpos_of_nonneg_of_nonpos (Int.le_of_lt gg0) (f2 j hj)
    · rw [f2, if_neg (by omega), Int.toNat_natCast] at h1
      have hsb := in_new p at' m n hmay hm hn hg s f3
      obtain ⟨_, _, _, gv, gv0, hv⟩ := ask_parts p at' m n s hmay hm hn hg
      rcases out_ok at' (look p at').x (look (askP p s) at').x m with ⟨o1, o2⟩ | ⟨o, o1, o2, o3, o4⟩
      · rw [o1, if_pos (by omega)] at h1
        simp only [Prod.mk.injEq, true_and, and_true] at h1
        refine Or.inr (Or.inl ⟨by rw [h1], s, f1, hsb, ?_, fun k hk => ?_⟩)
        · rw [hgn s]; exact (pos_mul_iff _ _ gg0).2 f3
        · rw [hv k hk]; exact Int.mul_nonpos_of_nonneg_of_nonpos (Int.le_of_lt gv0) (o2 k hk)
      · rw [o2, if_neg (by omega)] at h1
        simp only [Prod.mk.injEq] at h1
        omega
  · exact Or.inr (Or.inr ⟨nx, h1, h3⟩)

/-- From a corner that goes a walk goes on, and ends. -/
theorem walk_ex (p : Lp) (at' : List Int) (m n : Nat) (hmay : p.may = true) (hm : m = p.rows.length) (hn : n = p.costs.length) (hg : Good p at' m n) : ∃ l k, IsWalk p at' l k := by
  have key : ∀ d (l : List (List Int)) (now : List Int), Path p at' l now → Good p now m n → 4096 ≤ l.length + d → ∃ l k, IsWalk p at' l k := by
    intro d
    induction d with
    | zero =>
      intro l now h _ hl
      have := path_short m n hmay hm hn h
      omega
    | succ d ih =>
      intro l now h hgn hl
      rcases next_kind p now m n hmay hm hn hgn with ⟨h1, _⟩ | ⟨h1, _⟩ | ⟨nx, h1, h2⟩
      · exact ⟨_, _, h.ends h1 (by omega)⟩
      · exact ⟨_, _, h.ends h1 (by omega)⟩
      · exact ih _ _ (h.push h1) h2 (by simp; omega)
  exact key 4096 [] at' (Path.start p at') hg (by simp)

/-- A corner without gains. -/
structure Top (p : Lp) (at' : List Int) (m n : Nat) : Prop extends Good p at' m n where
  gain : ∀ j : Nat, j < n + m → sgD p at' m * (gainL p at' m (n + m))[j]?.getD 0 ≤ 0

/-- A way that rises without end. -/
structure Ray (p : Lp) (m n : Nat) (r : Nat → Int) : Prop where
  up : ∀ j, j < n + m → 0 ≤ r j
  level : ∀ i, i < m → sumN (fun j => hasF p j i * r j) (n + m) = 0
  rise : 0 < sumN (fun j => p.costs[j]?.getD 0 * r j) (n + m)

theorem gain_eq (p : Lp) (at' : List Int) (m N j : Nat) (hm : m = p.rows.length) (hj : j < N) : (gainL p at' m N)[j]?.getD 0 = p.costs[j]?.getD 0 * denL p at' m - sumN (fun i => hasF p j i * (priceL p at' m)[i]?.getD 0) m := by
  unfold gainL
  rw [range_getD, if_pos hj]
  unfold gainF
  rw [← hm, dotN_sum]
  congr 1
  exact sumN_congr _ _ _ fun i hi => by rw [range_getD, if_pos hi]

theorem dir_rise (p : Lp) (at' : List Int) (m n s : Nat) (hmay : p.may = true) (hm : m = p.rows.length) (hr : rightB at' m (n + m) = true) (hd : denL p at' m ≠ 0) (hs : s < n + m) (hsb : inB at' m s = false) :
    sumN (fun j => p.costs[j]?.getD 0 * dirF p at' m (n + m) s j) (n + m) = (gainL p at' m (n + m))[s]?.getD 0 := by
  have h1 : 1 ≤ m := by have := (p.may_of hmay).2.2.1.1; omega
  have h4 : m ≤ 4 := by have := (p.may_of hmay).2.2.1.2; omega
  have e0 : sumN (fun j => (gainL p at' m (n + m))[j]?.getD 0 * dirF p at' m (n + m) s j) (n + m) = (gainL p at' m (n + m))[s]?.getD 0 * denL p at' m := by
    rw [sumN_only _ s _ hs]
    · show _ * dirF p at' m (n + m) s s = _
      unfold dirF
      rw [if_pos rfl]
    · intro j _ hjs
      show _ * dirF p at' m (n + m) s j = 0
      cases hb : inB at' m j with
      | false => rw [dir_not p at' m (n + m) s j hb hjs]; omega
      | true =>
        obtain ⟨i, hi, rfl⟩ := (inB_true at' m j).1 hb
        rw [comes_gain p at' m n hmay hm hr i hi]; omega
  have e1 : sumN (fun j => (gainL p at' m (n + m))[j]?.getD 0 * dirF p at' m (n + m) s j) (n + m) = sumN (fun j => denL p at' m * (p.costs[j]?.getD 0 * dirF p at' m (n + m) s j) + (-1) * sumN (fun i => hasF p j i * (priceL p at' m)[i]?.getD 0 * dirF p at' m (n + m) s j) m) (n + m) := by
    refine sumN_congr _ _ _ fun j hj => ?_
    rw [gain_eq p at' m (n + m) j hm hj]
    have : sumN (fun i => hasF p j i * (priceL p at' m)[i]?.getD 0 * dirF p at' m (n + m) s j) m = dirF p at' m (n + m) s j * sumN (fun i => hasF p j i * (priceL p at' m)[i]?.getD 0) m := by
      rw [← sumN_mul]; exact sumN_congr _ _ _ fun i _ => by grind
    rw [this]; grind
  have e2 : sumN (fun j => sumN (fun i => hasF p j i * (priceL p at' m)[i]?.getD 0 * dirF p at' m (n + m) s j) m) (n + m) = 0 := by
    rw [sumN_swap]
    refine (sumN_congr _ (fun _ => 0) _ fun i hi => ?_).trans (sumN_zero m)
    have : sumN (fun j => hasF p j i * (priceL p at' m)[i]?.getD 0 * dirF p at' m (n + m) s j) (n + m) = (priceL p at' m)[i]?.getD 0 * sumN (fun j => hasF p j i * dirF p at' m (n + m) s j) (n + m) := by
      rw [← sumN_mul]; exact sumN_congr _ _ _ fun j _ => by grind
    rw [this, dir_level p at' m (n + m) s hr h1 h4 hs hsb i hi]; omega
  rw [e1, sumN_add, sumN_mul, sumN_mul, e2] at e0
  have e3 : denL p at' m * sumN (fun j => p.costs[j]?.getD 0 * dirF p at' m (n + m) s j) (n + m) = denL p at' m * (gainL p at' m (n + m))[s]?.getD 0 := by rw [Int.mul_comm (denL p at' m) ((gainL p at' m (n + m))[s]?.getD 0)]; omega
  exact Int.eq_of_mul_eq_mul_left hd e3

theorem dir_ray (p : Lp) (at' : List Int) (m n s : Nat) (hmay : p.may = true) (hm : m = p.rows.length) (hg : Good p at' m n) (hs : s < n + m) (hsb : inB at' m s = false) (h0 : 0 < sgD p at' m * (gainL p at' m (n + m))[s]?.getD 0) (hw : ∀ k, k < m → sgD p at' m * (wayL p at' m s)[k]?.getD 0 ≤ 0) :
    Ray p m n (fun j => sgD p at' m * dirF p at' m (n + m) s j) := by
  have h1 : 1 ≤ m := by have := (p.may_of hmay).2.2.1.1; omega
  have h4 : m ≤ 4 := by have := (p.may_of hmay).2.2.1.2; omega
  refine ⟨fun j hj => ?_, fun i hi => ?_, ?_⟩
  · show 0 ≤ sgD p at' m * dirF p at' m (n + m) s j
    by_cases hjs : j = s
    · subst hjs
      unfold dirF
      rw [if_pos rfl]
      exact Int.le_of_lt (sgD_pos p at' m hg.den)
    · cases hb : inB at' m j with
      | false => rw [dir_not p at' m (n + m) s j hb hjs]; omega
      | true =>
        obtain ⟨k, hk, rfl⟩ := (inB_true at' m j).1 hb
        rw [dir_in p at' m (n + m) s k hg.right hk hsb, Int.mul_neg]
        have := hw k hk
        omega
  · have e : sumN (fun j => hasF p j i * (sgD p at' m * dirF p at' m (n + m) s j)) (n + m) = sgD p at' m * sumN (fun j => hasF p j i * dirF p at' m (n + m) s j) (n + m) := by
      rw [← sumN_mul]; exact sumN_congr _ _ _ fun j _ => by grind
    show sumN (fun j => hasF p j i * (sgD p at' m * dirF p at' m (n + m) s j)) (n + m) = 0
    rw [e, dir_level p at' m (n + m) s hg.right h1 h4 hs hsb i hi]; omega
  · have e : sumN (fun j => p.costs[j]?.getD 0 * (sgD p at' m * dirF p at' m (n + m) s j)) (n + m) = sgD p at' m * sumN (fun j => p.costs[j]?.getD 0 * dirF p at' m (n + m) s j) (n + m) := by
      rw [← sumN_mul]; exact sumN_congr _ _ _ fun j _ => by grind
    show 0 < sumN (fun j => p.costs[j]?.getD 0 * (sgD p at' m * dirF p at' m (n + m) s j)) (n + m)
    rw [e, dir_rise p at' m n s hmay hm hg.right hg.den hs hsb]
    exact h0

theorem sgD_bd (p : Lp) (at' : List Int) (m : Nat) (x : Int) (h : -497664 ≤ x ∧ x ≤ 497664) : -497664 ≤ sgD p at' m * x ∧ sgD p at' m * x ≤ 497664 := by unfold sgD; split <;> omega

theorem dir_bd (p : Lp) (at' : List Int) (m n s : Nat) (hmay : p.may = true) (hm : m = p.rows.length) (hr : rightB at' m (n + m) = true) (hsb : inB at' m s = false) (j : Nat) : -497664 ≤ dirF p at' m (n + m) s j ∧ dirF p at' m (n + m) s j ≤ 497664 := by
  have h1 : 1 ≤ m := by have := (p.may_of hmay).2.2.1.1; omega
  have h4 : m ≤ 4 := by have := (p.may_of hmay).2.2.1.2; omega
  by_cases hjs : j = s
  · subst hjs
    unfold dirF
    rw [if_pos rfl]
    exact den_bd12 p at' m hmay h1 h4
  · cases hb : inB at' m j with
    | false => rw [dir_not p at' m (n + m) s j hb hjs]; omega
    | true =>
      obtain ⟨k, hk, rfl⟩ := (inB_true at' m j).1 hb
      rw [dir_in p at' m (n + m) s k hr hk hsb]
      have := shares_bd12 m (chosenL p at' m) (colF p m s) (chosen_sq p at' m) (by simp [colF]) h1 h4 (chosen_bd12 p at' m hmay) (hasF_bdx p hmay m s) k
      unfold wayL
      omega

/-- Where a corner goes, one without gains is found, or a way that rises without end. -/
theorem top_or_ray (p : Lp) (at' : List Int) (m n : Nat) (hmay : p.may = true) (hm : m = p.rows.length) (hn : n = p.costs.length) (hg : Good p at' m n) : (∃ t, Top p t m n) ∨ ∃ r, Ray p m n r ∧ ∀ j : Nat, r j ≤ 497664 := by
  obtain ⟨l, k, hw⟩ := walk_ex p at' m n hmay hm hn hg
  have hgs := (isWalk_good hmay hw).1
  obtain ⟨K, a1, a2, a3, a4, a5⟩ := hw
  have hgK := hgs K (by omega)
  rw [← hm, ← hn] at hgK
  rcases next_kind p _ m n hmay hm hn hgK with ⟨_, h2⟩ | ⟨_, s, s1, s2, s3, s4⟩ | ⟨nx, h1, _⟩
  · exact Or.inl ⟨_, hgK, h2⟩
  · exact Or.inr ⟨_, dir_ray p _ m n s hmay hm hgK s1 s2 s3 s4, fun j => (sgD_bd p _ m _ (dir_bd p _ m n s hmay hm hgK.right s2 j)).2⟩
  · rw [a4] at h1
    simp only [Prod.mk.injEq] at h1
    exact absurd h1.2.1 a5

/-- The prices at a corner without gains. -/
theorem top_prices (p : Lp) (at' : List Int) (m n : Nat) (hm : m = p.rows.length) (hn : n = p.costs.length) (h : Top p at' m n) :
    (∀ i, i < m → 0 ≤ sgD p at' m * (priceL p at' m)[i]?.getD 0) ∧ ∀ j, j < n + m → p.costs[j]?.getD 0 * (sgD p at' m * denL p at' m) ≤ sumN (fun i => hasF p j i * (sgD p at' m * (priceL p at' m)[i]?.getD 0)) m := by
  have key : ∀ j, j < n + m → p.costs[j]?.getD 0 * (sgD p at' m * denL p at' m) ≤ sumN (fun i => hasF p j i * (sgD p at' m * (priceL p at' m)[i]?.getD 0)) m := by
    intro j hj
    have := h.gain j hj
    rw [gain_eq p at' m (n + m) j hm hj, Int.mul_sub, ← sumN_mul] at this
    have e : sumN (fun i => sgD p at' m * (hasF p j i * (priceL p at' m)[i]?.getD 0)) m = sumN (fun i => hasF p j i * (sgD p at' m * (priceL p at' m)[i]?.getD 0)) m := sumN_congr _ _ _ fun i _ => by grind
    rw [e] at this
    have e2 : sgD p at' m * (p.costs[j]?.getD 0 * denL p at' m) = p.costs[j]?.getD 0 * (sgD p at' m * denL p at' m) := by grind
    omega
  refine ⟨fun i hi => ?_, key⟩
  have := key (n + i) (by omega)
  rw [List.getElem?_eq_none (by omega)] at this
  rw [sumN_only _ i m hi (fun q _ hq => by show hasF p (n + i) q * _ = 0; rw [has_slack p n i q hn, if_neg hq]; omega)] at this
  rw [has_slack p n i i hn, if_pos rfl] at this
  simpa using this

end Num
end Go.Proofs.YtipcbhodlgoflabGreat

/- Which kind of answer a program has, by all its corners: what an answer that holds is of that kind; in plain numbers. -/
namespace Go.Proofs.YtipcbhodlgoflabGreat
namespace Num

theorem pairs (h : Nat → Nat → Int) (y r : Nat → Int) (m N : Nat) : sumN (fun j => sumN (fun i => h j i * y i) m * r j) N = sumN (fun i => y i * sumN (fun j => h j i * r j) N) m := by
  have e1 : sumN (fun j => sumN (fun i => h j i * y i) m * r j) N = sumN (fun j => sumN (fun i => r j * (h j i * y i)) m) N := sumN_congr _ _ _ fun j _ => by rw [sumN_mul, Int.mul_comm]
  have e2 : sumN (fun i => y i * sumN (fun j => h j i * r j) N) m = sumN (fun i => sumN (fun j => r j * (h j i * y i)) N) m := sumN_congr _ _ _ fun i _ => by
    rw [← sumN_mul]; exact sumN_congr _ _ _ fun j _ => by grind
  rw [e1, e2, sumN_swap]

theorem has_row (p : Lp) (n j i : Nat) (hn : n = p.costs.length) (hj : j < n) : hasF p j i = (p.rows[i]?.getD ([], 0)).1[j]?.getD 0 := by
  unfold hasF
  rw [if_pos (by omega)]

theorem slack_sum (p : Lp) (m n i : Nat) (hn : n = p.costs.length) (hi : i < m) (z : Nat → Int) : sumN (fun j => hasF p j i * z j) (n + m) = sumN (fun j => (p.rows[i]?.getD ([], 0)).1[j]?.getD 0 * z j) n + z (n + i) := by
  rw [sumN_split]
  congr 1
  · exact sumN_congr _ _ _ fun j hj => by rw [has_row p n j i hn hj]
  · rw [sumN_only _ i m hi (fun q _ hq => by show hasF p (n + q) i * _ = 0; rw [has_slack p n q i hn, if_neg (by omega)]; omega)]
    show hasF p (n + i) i * _ = _
    rw [has_slack p n i i hn, if_pos rfl]; omega

theorem slack_price (p : Lp) (m n q : Nat) (hn : n = p.costs.length) (hq : q < m) (y : Nat → Int) : sumN (fun i => hasF p (n + q) i * y i) m = y q := by
  rw [sumN_only _ q m hq (fun i _ hi => by show hasF p (n + q) i * _ = 0; rw [has_slack p n q i hn, if_neg hi]; omega)]
  show hasF p (n + q) q * _ = _
  rw [has_slack p n q q hn, if_pos rfl]; omega

/-- A list told on, past its end: by what the rows leave. -/
def overF (n : Nat) (x : List Int) (f : Nat → Int) (j : Nat) : Int := if j < n then x[j]?.getD 0 else f (j - n)

theorem over_in (n : Nat) (x : List Int) (f : Nat → Int) (j : Nat) (hj : j < n) : overF n x f j = x[j]?.getD 0 := by unfold overF; rw [if_pos hj]
theorem over_out (n : Nat) (x : List Int) (f : Nat → Int) (i : Nat) : overF n x f (n + i) = f i := by unfold overF; rw [if_neg (by omega), Nat.add_sub_cancel_left]

theorem over_row (p : Lp) (m n i : Nat) (hn : n = p.costs.length) (hi : i < m) (x : List Int) (f : Nat → Int) : sumN (fun j => hasF p j i * overF n x f j) (n + m) = dotN (p.rows[i]?.getD ([], 0)).1 x n + f i := by
  rw [slack_sum p m n i hn hi, over_out, dotN_sum]
  congr 1
  exact sumN_congr _ _ _ fun j hj => by rw [over_in n x f j hj]

/-- Where a point goes, a corner goes. -/
theorem goes_good (p : Lp) (m n : Nat) (hmay : p.may = true) (hm : m = p.rows.length) (hn : n = p.costs.length) (x : List Int) (xd : Int) (h : p.goes x xd = true) : ∃ at', Good p at' m n := by
  obtain ⟨_, _, hd, _, hx, _⟩ := goes_len p x xd h
  refine goes_corner p m n hmay hm hn (n + m) (overF n x fun i => mostF p i * xd - dotN (p.rows[i]?.getD ([], 0)).1 x n) xd (by omega) (fun j hj => ?_) (fun i hi => ?_) ?_
  · by_cases hjn : j < n
    · rw [over_in _ _ _ _ hjn]; exact not_neg x hx j
    · obtain ⟨i, rfl⟩ : ∃ i, j = n + i := ⟨j - n, by omega⟩
      rw [over_out]
      have := goes_rows p x xd h i (by omega)
      rw [← hn] at this
      unfold mostF
      omega
  · rw [over_row p m n i hn hi]; grind
  · unfold suppL
    refine Nat.le_trans (List.length_filter_le _ _) (by simp)

/-- What covers the costs leaves no way that rises without end. -/
theorem ray_no (p : Lp) (m n : Nat) (r : Nat → Int) (h : Ray p m n r) (y : Nat → Int) (D : Int) (hD : 0 < D) (hc : ∀ j, j < n + m → p.costs[j]?.getD 0 * D ≤ sumN (fun i => hasF p j i * y i) m) : False := by
  have e1 := pairs (hasF p) y r m (n + m)
  have e2 : sumN (fun i => y i * sumN (fun j => hasF p j i * r j) (n + m)) m = 0 := (sumN_congr _ (fun _ => 0) _ fun i hi => by rw [h.level i hi]; omega).trans (sumN_zero m)
  have e3 : sumN (fun j => D * (p.costs[j]?.getD 0 * r j)) (n + m) ≤ sumN (fun j => sumN (fun i => hasF p j i * y i) m * r j) (n + m) := sumN_le _ _ _ fun j hj => by
    have := Int.mul_le_mul_of_nonneg_right (hc j hj) (h.up j hj)
    have e : D * (p.costs[j]?.getD 0 * r j) = p.costs[j]?.getD 0 * D * r j := by grind
    rw [e]; exact this
  rw [sumN_mul, e1, e2] at e3
  have := Int.mul_pos hD h.rise
  omega

theorem cov_of (p : Lp) (m n : Nat) (hn : n = p.costs.length) (y : List Int) (yd : Int) (c : List Int) (hc : c.length = n) (h : coversB p m y yd c = true) : ∀ j, j < n + m → c[j]?.getD 0 * yd ≤ sumN (fun i => hasF p j i * y[i]?.getD 0) m := by
  obtain ⟨k1, k2⟩ := covers_of _ _ _ _ _ h
  obtain ⟨_, _, _, hy, _⟩ := point_of _ _ _ k1
  intro j hj
  by_cases hjn : j < n
  · have := k2 j (by omega)
    rw [dotN_sum] at this
    have e : sumN (fun i => (colL p m j)[i]?.getD 0 * y[i]?.getD 0) m = sumN (fun i => hasF p j i * y[i]?.getD 0) m := sumN_congr _ _ _ fun i hi => by unfold colL; rw [range_getD, if_pos hi]
    rw [e] at this
    exact this
  · obtain ⟨q, rfl⟩ : ∃ q, j = n + q := ⟨j - n, by omega⟩
    rw [slack_price p m n q hn (by omega), List.getElem?_eq_none (by omega)]
    have := not_neg y hy q
    simp; omega

/-- The kind of answer a program has, by all its corners. -/
def KindIs (p : Lp) (m n : Nat) (k : Int) : Prop := (k = 1 ∧ ∃ t, Top p t m n) ∨ (k = 2 ∧ (¬ ∃ t, Top p t m n) ∧ ∃ g, Good p g m n) ∨ (k = 3 ∧ ¬ ∃ g, Good p g m n)

theorem endless_ray (p : Lp) (m n : Nat) (hm : m = p.rows.length) (hn : n = p.costs.length) (a : Ans) (h : endlessB p a = true) : Ray p m n (overF n a.r fun i => -dotN (p.rows[i]?.getD ([], 0)).1 a.r n) := by
  obtain ⟨_, _, _, _, hr, _, _, _, hl, h0⟩ := endless_parts2 p a h
  refine ⟨fun j hj => ?_, fun i hi => ?_, ?_⟩
  · by_cases hjn : j < n
    · rw [over_in _ _ _ _ hjn]; exact hr j
    · obtain ⟨i, rfl⟩ : ∃ i, j = n + i := ⟨j - n, by omega⟩
      rw [over_out]
      have := hl i (by omega)
      rw [← hn] at this
      omega
  · rw [over_row p m n i hn hi]; omega
  · rw [sumN_split]
    have e1 : sumN (fun j => p.costs[j]?.getD 0 * overF n a.r (fun i => -dotN (p.rows[i]?.getD ([], 0)).1 a.r n) j) n = dotN p.costs a.r n := by
      rw [dotN_sum]; exact sumN_congr _ _ _ fun j hj => by rw [over_in _ _ _ _ hj]
    have e2 : sumN (fun i => p.costs[n + i]?.getD 0 * overF n a.r (fun i => -dotN (p.rows[i]?.getD ([], 0)).1 a.r n) (n + i)) m = 0 := (sumN_congr _ (fun _ => 0) _ fun i hi => by rw [List.getElem?_eq_none (by omega)]; simp).trans (sumN_zero m)
    rw [← hn] at h0
    omega

/-- An answer that holds is of the kind that all corners tell. -/
theorem holds_kind (p : Lp) (a : Ans) (m n : Nat) (hm : m = p.rows.length) (hn : n = p.costs.length) (h : holds p a = true) : KindIs p m n a.kind := by
  cases hmay : p.may with
  | false => rw [holds_no p a hmay] at h; exact absurd h (by decide)
  | true =>
  by_cases k1 : a.kind = 1
  · rw [holds_best p a hmay k1] at h
    simp only [Bool.and_eq_true] at h
    have hb := h.2
    unfold bestB at hb
    simp only [Bool.and_eq_true] at hb
    obtain ⟨⟨⟨b1, b2⟩, _⟩, _⟩ := hb
    obtain ⟨g, hg⟩ := goes_good p m n hmay hm hn _ _ b1
    rw [← hm] at b2
    rcases top_or_ray p g m n hmay hm hn hg with ht | ⟨r, hr, _⟩
    · exact Or.inl ⟨k1, ht⟩
    · obtain ⟨c1, _⟩ := covers_of _ _ _ _ _ b2
      obtain ⟨_, hyd, _⟩ := point_of _ _ _ c1
      exact (ray_no p m n r hr _ a.yd (by omega) (cov_of p m n hn _ _ _ hn.symm b2)).elim
  · by_cases k2 : a.kind = 2
    · rw [holds_endless p a hmay k2] at h
      simp only [Bool.and_eq_true] at h
      have hr := endless_ray p m n hm hn a h.2
      have hb := h.2
      unfold endlessB at hb
      simp only [Bool.and_eq_true] at hb
      refine Or.inr (Or.inl ⟨k2, ?_, goes_good p m n hmay hm hn _ _ hb.1.1.1.1⟩)
      rintro ⟨t, ht⟩
      exact ray_no p m n _ hr _ _ (sgD_pos p t m ht.den) (top_prices p t m n hm hn ht).2
    · by_cases k3 : a.kind = 3
      · rw [holds_nothing p a hmay k3] at h
        simp only [Bool.and_eq_true] at h
        have hb := h.2
        unfold nothingB at hb
        simp only [Bool.and_eq_true, decide_eq_true_eq] at hb
        obtain ⟨⟨_, b2⟩, b3⟩ := hb
        rw [← hm, ← hn] at b2
        rw [← hm] at b3
        refine Or.inr (Or.inr ⟨k3, ?_⟩)
        rintro ⟨g, hg⟩
        have h1 : 1 ≤ m := by have := (p.may_of hmay).2.2.1.1; omega
        have h4 : m ≤ 4 := by have := (p.may_of hmay).2.2.1.2; omega
        have hc := cov_of p m n hn _ _ _ (by simp) b2
        have e1 := pairs (hasF p) (fun i => a.y[i]?.getD 0) (fun j => sgD p g m * (xL p g m (n + m))[j]?.getD 0) m (n + m)
        have e2 : 0 ≤ sumN (fun j => sumN (fun i => hasF p j i * a.y[i]?.getD 0) m * (sgD p g m * (xL p g m (n + m))[j]?.getD 0)) (n + m) := by
          refine Int.le_trans (Int.le_of_eq (sumN_zero (n + m)).symm) (sumN_le _ _ _ fun j hj => Int.mul_nonneg ?_ (hg.x j))
          have := hc j hj
          have e0 : (List.replicate n (0 : Int))[j]?.getD 0 = 0 := by
            rw [List.getElem?_replicate]; split <;> rfl
          rw [e0] at this
          omega
        have e3 : sumN (fun i => a.y[i]?.getD 0 * sumN (fun j => hasF p j i * (sgD p g m * (xL p g m (n + m))[j]?.getD 0)) (n + m)) m = (sgD p g m * denL p g m) * pricedN p m a.y := by
          unfold pricedN
          rw [dotN_sum, ← sumN_mul]
          refine sumN_congr _ _ _ fun i hi => ?_
          have e : sumN (fun j => hasF p j i * (sgD p g m * (xL p g m (n + m))[j]?.getD 0)) (n + m) = sgD p g m * sumN (fun j => hasF p j i * (xL p g m (n + m))[j]?.getD 0) (n + m) := by
            rw [← sumN_mul]; exact sumN_congr _ _ _ fun j _ => by grind
          rw [e, x_level p g m (n + m) hg.right h1 h4 i hi]
          unfold mostsL
          rw [range_getD, if_pos hi]
          grind
        rw [e1, e3] at e2
        have := Int.mul_neg_of_pos_of_neg (sgD_pos p g m hg.den) b3
        omega
      · rw [holds_none p a k1 k2 k3] at h; exact absurd h (by decide)

end Num
end Go.Proofs.YtipcbhodlgoflabGreat

/- Where no corner goes, the rows tell it: in plain numbers, by the program that asks for the prices. -/
namespace Go.Proofs.YtipcbhodlgoflabGreat
namespace Num

/-- The program that asks for prices at which nothing costs less than 0, and all is had for less than 0. -/
def dualP (p : Lp) : Lp := ⟨(List.range p.rows.length).map fun i => -mostF p i, (List.range p.costs.length).map fun j => ((List.range p.rows.length).map fun i => -hasF p j i, 0)⟩

theorem dual_costs (p : Lp) : (dualP p).costs.length = p.rows.length := by simp [dualP]
theorem dual_rows (p : Lp) : (dualP p).rows.length = p.costs.length := by simp [dualP]

theorem dual_row (p : Lp) (j : Nat) (hj : j < p.costs.length) : (dualP p).rows[j]?.getD ([], 0) = ((List.range p.rows.length).map fun i => -hasF p j i, 0) := by
  unfold dualP
  dsimp only
  rw [List.getElem?_map, List.getElem?_range hj]
  rfl

theorem most_bd (p : Lp) (hmay : p.may = true) (i : Nat) : -12 ≤ mostF p i ∧ mostF p i ≤ 12 := by
  unfold mostF
  by_cases hi : i < p.rows.length
  · exact (p.row_of hmay i hi).2.2
  · rw [List.getElem?_eq_none (l := p.rows) (by omega)]; simp

theorem dual_may (p : Lp) (hmay : p.may = true) : (dualP p).may = true := by
  obtain ⟨h1, h2, h3, h4⟩ := p.may_of hmay
  unfold Lp.may
  rw [dual_costs, dual_rows]
  simp only [Bool.and_eq_true, decide_eq_true_eq]
  refine ⟨⟨⟨⟨⟨h3.1, h3.2⟩, ?_⟩, h1.1⟩, h1.2⟩, ?_⟩
  · unfold withinB dualP
    rw [List.all_eq_true]
    intro x hx
    obtain ⟨i, _, rfl⟩ := List.mem_map.1 hx
    have := most_bd p hmay i
    simp only [Bool.and_eq_true, decide_eq_true_eq]
    omega
  · rw [List.all_eq_true]
    intro r hr
    unfold dualP at hr
    dsimp only at hr
    obtain ⟨j, hj, rfl⟩ := List.mem_map.1 hr
    unfold rowB
    have hw : withinB 12 ((List.range p.rows.length).map fun i => -hasF p j i) = true := by
      unfold withinB
      rw [List.all_eq_true]
      intro x hx
      obtain ⟨i, _, rfl⟩ := List.mem_map.1 hx
      have := hasF_bd p hmay j i
      simp only [Bool.and_eq_true, decide_eq_true_eq]
      omega
    simp [hw, withinB_one]

theorem dual_has (p : Lp) (i j : Nat) (hi : i < p.rows.length) (hj : j < p.costs.length) : hasF (dualP p) i j = -hasF p j i := by
  rw [has_row (dualP p) p.rows.length i j (dual_costs p).symm hi, dual_row p j hj, range_getD, if_pos hi]

theorem dual_most (p : Lp) (j : Nat) (hj : j < p.costs.length) : mostF (dualP p) j = 0 := by
  unfold mostF; rw [dual_row p j hj]

theorem dual_cost (p : Lp) (i : Nat) (hi : i < p.rows.length) : (dualP p).costs[i]?.getD 0 = -mostF p i := by
  unfold dualP
  dsimp only
  rw [range_getD, if_pos hi]

end Num
end Go.Proofs.YtipcbhodlgoflabGreat

/- Answers that hold, made of a corner, of a way, of how often each row is taken: in plain numbers. -/
namespace Go.Proofs.YtipcbhodlgoflabGreat
namespace Num

/-- One fraction, one lowest form. -/
theorem mk_same (n1 d1 n2 d2 : Int) (h : n1 * d2 = n2 * d1) (h1 : d1 ≠ 0) (h2 : d2 ≠ 0) (b1 : -4611686018427387904 ≤ d1 ∧ d1 ≤ 4611686018427387904) (b2 : -4611686018427387904 ≤ d2 ∧ d2 ≤ 4611686018427387904) (c1 : -4611686018427387904 ≤ n1 ∧ n1 ≤ 4611686018427387904) (c2 : -4611686018427387904 ≤ n2 ∧ n2 ≤ 4611686018427387904) : mk n1 d1 = mk n2 d2 := by
  rw [mk_in d1 n1 h1 b1 c1, mk_in d2 n2 h2 b2 c2]
  have e1 := fitsB_mul 1073741824 d2 d1 [n1] h2 h1
  have e2 := fitsB_mul 1073741824 d1 d2 [n2] h1 h2
  have g1 := byOf_mul d2 d1 [n1] h2 h1
  have g2 := byOf_mul d1 d2 [n2] h1 h2
  simp only [List.map_cons, List.map_nil] at e1 e2 g1 g2
  have hn : d2 * n1 = d1 * n2 := by rw [Int.mul_comm d2, h, Int.mul_comm]
  have hd : d2 * d1 = d1 * d2 := Int.mul_comm _ _
  rw [hn, hd] at e1 g1
  rw [← e1, ← e2, ← tdiv_mul_tdiv d2 n1 _ h2, ← tdiv_mul_tdiv d2 d1 _ h2, ← g1, ← tdiv_mul_tdiv d1 n2 _ h1, ← tdiv_mul_tdiv d1 d2 _ h1, ← g2, hn, hd]

theorem any_of (x : List Int) (h : ∀ j, j < x.length → 0 ≤ x[j]?.getD 0) : anyNeg x = false := by
  rw [anyNeg_false]
  intro j
  by_cases hj : j < x.length
  · exact h j hj
  · rw [List.getElem?_eq_none (by omega)]; simp

/-- The point of a corner that goes, in whatever terms it is told. -/
theorem good_goes (p : Lp) (at' : List Int) (m n : Nat) (hmay : p.may = true) (hm : m = p.rows.length) (hn : n = p.costs.length) (hg : Good p at' m n) (x : List Int) (xd : Int) (hl : x.length = n) (hx : mayPB xd x = true) (he : ∀ j, j < n → (xL p at' m (n + m))[j]?.getD 0 * xd = x[j]?.getD 0 * denL p at' m) : p.goes x xd = true := by
  have hD := sgD_pos p at' m hg.den
  have hx2 := hx
  unfold mayPB at hx2
  simp only [Bool.and_eq_true] at hx2
  obtain ⟨xd1, _⟩ := mayB_bd _ _ hx2.1
  unfold Lp.goes Lp.fits
  simp only [Bool.and_eq_true, Bool.not_eq_true', beq_iff_eq]
  refine ⟨⟨⟨⟨hmay, by omega⟩, hx⟩, any_of x fun j hj => ?_⟩, ?_⟩
  · have h1 := Int.mul_nonneg (hg.x j) (show 0 ≤ xd by omega)
    rw [Int.mul_assoc, he j (by omega)] at h1
    have h2 : 0 ≤ sgD p at' m * denL p at' m * x[j]?.getD 0 := by
      have : sgD p at' m * denL p at' m * x[j]?.getD 0 = sgD p at' m * (x[j]?.getD 0 * denL p at' m) := by grind
      omega
    exact (nonneg_mul_iff _ _ hD).1 h2
  · rw [List.all_eq_true]
    intro r hr
    obtain ⟨i, hi, rfl⟩ := List.getElem_of_mem hr
    unfold rowGoes
    rw [decide_eq_true_eq, hl]
    have hrow := comes_row p at' m n hmay hm hn hg.right i (by omega)
    rw [List.getElem?_eq_getElem hi, Option.getD_some] at hrow
    have hmost : mostF p i = p.rows[i].2 := by unfold mostF; rw [List.getElem?_eq_getElem hi, Option.getD_some]
    rw [hmost] at hrow
    have e : dotN p.rows[i].1 (xL p at' m (n + m)) n * xd = dotN p.rows[i].1 x n * denL p at' m := by
      rw [dotN_sum, dotN_sum, Int.mul_comm, ← sumN_mul, Int.mul_comm (sumN _ n), ← sumN_mul]
      refine sumN_congr _ _ _ fun j hj => ?_
      have := he j hj
      grind
    have hs := Int.mul_nonneg (hg.x (n + i)) (show 0 ≤ xd by omega)
    generalize dotN p.rows[i].1 x n = A at *
    generalize dotN p.rows[i].1 (xL p at' m (n + m)) n = B at *
    generalize (xL p at' m (n + m))[n + i]?.getD 0 = s at *
    generalize sgD p at' m = σ at *
    generalize denL p at' m = D at *
    have e2 : σ * D * A + σ * s * xd = σ * D * (p.rows[i].2 * xd) := by
      have : σ * ((B + s) * xd) = σ * (p.rows[i].2 * D * xd) := by rw [hrow]
      have a1 : σ * ((B + s) * xd) = σ * (B * xd) + σ * s * xd := by grind
      rw [a1, e] at this
      grind
    exact Int.le_of_mul_le_mul_left (show σ * D * A ≤ σ * D * (p.rows[i].2 * xd) by omega) hD

/-- The prices of a corner without gains, in whatever terms they are told. -/
theorem top_covers (p : Lp) (at' : List Int) (m n : Nat) (hm : m = p.rows.length) (hn : n = p.costs.length) (ht : Top p at' m n) (y : List Int) (yd : Int) (hl : y.length = m) (hy : mayPB yd y = true) (he : ∀ i, i < m → (priceL p at' m)[i]?.getD 0 * yd = y[i]?.getD 0 * denL p at' m) : coversB p m y yd p.costs = true := by
  have hD := sgD_pos p at' m ht.den
  have hy2 := hy
  unfold mayPB at hy2
  simp only [Bool.and_eq_true] at hy2
  obtain ⟨yd1, _⟩ := mayB_bd _ _ hy2.1
  obtain ⟨t1, t2⟩ := top_prices p at' m n hm hn ht
  have key : ∀ i, i < m → sgD p at' m * (priceL p at' m)[i]?.getD 0 * yd = sgD p at' m * denL p at' m * y[i]?.getD 0 := fun i hi => by
    have := he i hi
    grind
  unfold coversB pointB
  simp only [Bool.and_eq_true, Bool.not_eq_true', beq_iff_eq, List.all_eq_true]
  refine ⟨⟨⟨hl, hy⟩, any_of y fun i hi => ?_⟩, fun j hj => ?_⟩
  · have h1 := Int.mul_nonneg (t1 i (by omega)) (show 0 ≤ yd by omega)
    rw [key i (by omega)] at h1
    exact (nonneg_mul_iff _ _ hD).1 h1
  · rw [List.mem_range] at hj
    unfold costB
    rw [decide_eq_true_eq]
    have h1 := Int.mul_le_mul_of_nonneg_right (t2 j (by omega)) (show 0 ≤ yd by omega)
    have e : sumN (fun i => hasF p j i * (sgD p at' m * (priceL p at' m)[i]?.getD 0)) m * yd = sgD p at' m * denL p at' m * dotN (colL p m j) y m := by
      rw [dotN_sum, Int.mul_comm, ← sumN_mul, ← sumN_mul]
      refine sumN_congr _ _ _ fun i hi => ?_
      unfold colL
      rw [range_getD, if_pos hi]
      have := key i hi
      grind
    rw [e] at h1
    have e2 : p.costs[j]?.getD 0 * (sgD p at' m * denL p at' m) * yd = sgD p at' m * denL p at' m * (p.costs[j]?.getD 0 * yd) := by grind
    rw [e2] at h1
    exact Int.le_of_mul_le_mul_left h1 hD

/-- The worth of a corner's point, and what its prices come to, are one. -/
theorem corner_worth (p : Lp) (at' : List Int) (m n : Nat) (hmay : p.may = true) (hm : m = p.rows.length) (hn : n = p.costs.length) (hr : rightB at' m (n + m) = true) (hd : denL p at' m ≠ 0) (x y : List Int) (xd yd : Int)
    (hx : ∀ j, j < n → (xL p at' m (n + m))[j]?.getD 0 * xd = x[j]?.getD 0 * denL p at' m) (hy : ∀ i, i < m → (priceL p at' m)[i]?.getD 0 * yd = y[i]?.getD 0 * denL p at' m) :
    dotN p.costs x n * denL p at' m = dotN p.costs (xL p at' m (n + m)) n * xd ∧ dotN p.costs x n * yd = pricedN p m y * xd := by
  have e1 : dotN p.costs x n * denL p at' m = dotN p.costs (xL p at' m (n + m)) n * xd := by
    rw [dotN_sum, dotN_sum, Int.mul_comm, ← sumN_mul, Int.mul_comm (sumN _ n), ← sumN_mul]
    refine sumN_congr _ _ _ fun j hj => ?_
    have := hx j hj
    grind
  have e2 : pricedN p m y * denL p at' m = dotN (mostsL p m) (priceL p at' m) m * yd := by
    unfold pricedN
    rw [dotN_sum, dotN_sum, Int.mul_comm, ← sumN_mul, Int.mul_comm (sumN _ m), ← sumN_mul]
    refine sumN_congr _ _ _ fun i hi => ?_
    have := hy i hi
    grind
  have e3 := comes_worth p at' m n hmay hm hn hr
  refine ⟨e1, Int.eq_of_mul_eq_mul_left hd ?_⟩
  have a1 : denL p at' m * (dotN p.costs x n * yd) = dotN p.costs x n * denL p at' m * yd := by grind
  have a2 : denL p at' m * (pricedN p m y * xd) = pricedN p m y * denL p at' m * xd := by grind
  rw [a1, a2, e1, e2, e3]
  grind

/-- A corner without gains makes an answer that is best. -/
theorem top_best (p : Lp) (at' : List Int) (m n : Nat) (hmay : p.may = true) (hm : m = p.rows.length) (hn : n = p.costs.length) (ht : Top p at' m n) (a : Ans) (hxl : a.x.length = n) (hx : mayPB a.xd a.x = true) (hxe : ∀ j, j < n → (xL p at' m (n + m))[j]?.getD 0 * a.xd = a.x[j]?.getD 0 * denL p at' m)
    (hyl : a.y.length = m) (hy : mayPB a.yd a.y = true) (hye : ∀ i, i < m → (priceL p at' m)[i]?.getD 0 * a.yd = a.y[i]?.getD 0 * denL p at' m) (hw : mk (dotN p.costs a.x n) a.xd = (a.wn, a.wd, 0)) : bestB p a = true := by
  have hg := good_goes p at' m n hmay hm hn ht.toGood a.x a.xd hxl hx hxe
  have hc := top_covers p at' m n hm hn ht a.y a.yd hyl hy hye
  obtain ⟨_, hww⟩ := corner_worth p at' m n hmay hm hn ht.right ht.den a.x a.y a.xd a.yd hxe hye
  obtain ⟨_, _, hxd, hxw, _⟩ := goes_len p _ _ hg
  obtain ⟨_, hyd, hyw, _⟩ := point_of _ _ _ (covers_of _ _ _ _ _ hc).1
  have hn4 := (p.may_of hmay).1.2
  have h4 := (p.may_of hmay).2.2.1.2
  have b1 := dotN_bd p.costs a.x 400 1073741824 (withinB_iff _ _ (p.may_of hmay).2.1 (by omega)) (withinB_iff _ _ hxw (by omega)) n
  have b2 := dotN_bd (mostsL p m) a.y 400 1073741824 (mosts_bd p hmay m) (withinB_iff _ _ hyw (by omega)) m
  unfold bestB
  rw [← hm, ← hn, hg, hc, hw]
  have hs := mk_same (dotN p.costs a.x n) a.xd (pricedN p m a.y) a.yd hww (by omega) (by omega) (by omega) (by omega) (by omega) (by unfold pricedN; omega)
  rw [← hs, hw]
  simp

end Num
end Go.Proofs.YtipcbhodlgoflabGreat

/- Answers that hold, of a way that rises without end, and of how often each row is taken; each program that may be has one: in plain numbers. -/
namespace Go.Proofs.YtipcbhodlgoflabGreat
namespace Num

theorem gl_one (l : List Int) : gl 1 l = 1 := by
  have h := byOf_dvd_d 1 l
  unfold byOf at h
  rw [if_neg (by omega)] at h
  have : ((gl 1 l : Nat) : Int) ∣ ((1 : Nat) : Int) := by simpa using h
  have := Int.natCast_dvd_natCast.1 this
  exact Nat.dvd_one.1 this

theorem within_of (b : Int) (l : List Int) (h : ∀ j, j < l.length → -b ≤ l[j]?.getD 0 ∧ l[j]?.getD 0 ≤ b) : withinB b l = true := by
  unfold withinB
  rw [List.all_eq_true]
  intro x hx
  obtain ⟨j, hj, rfl⟩ := List.getElem_of_mem hx
  have := h j hj
  rw [List.getElem?_eq_getElem hj, Option.getD_some] at this
  simpa using this

theorem may_one (l : List Int) (h8 : l.length ≤ 8) (h : ∀ j, j < l.length → -1073741824 ≤ l[j]?.getD 0 ∧ l[j]?.getD 0 ≤ 1073741824) : mayPB 1 l = true := by
  unfold mayPB
  rw [mayB_g 1 l (by omega) (by rw [withinB_one]; rfl) (within_of _ l h), gl_one]
  simp [h8]

/-- A way that rises without end makes an answer that is endless. -/
theorem ray_endless (p : Lp) (m n : Nat) (hmay : p.may = true) (hm : m = p.rows.length) (hn : n = p.costs.length) (R : Nat → Int) (hR : Ray p m n R) (a : Ans) (hg : p.goes a.x a.xd = true) (hd : a.rd = 1) (hl : a.r.length = n) (hb : ∀ j, j < n → a.r[j]?.getD 0 ≤ 1073741824)
    (e h : Int) (he : 0 < e) (hh : 0 < h) (hr : ∀ j, j < n → R j * e = a.r[j]?.getD 0 * h) : endlessB p a = true := by
  have hn4 := (p.may_of hmay).1.2
  have h0 : ∀ j, j < n → 0 ≤ a.r[j]?.getD 0 := fun j hj => by
    have := Int.mul_nonneg (hR.up j (by omega)) (Int.le_of_lt he)
    rw [hr j hj, Int.mul_comm] at this
    exact (nonneg_mul_iff _ _ hh).1 this
  have key : ∀ c : Nat → Int, sumN (fun j => c j * a.r[j]?.getD 0) n * h = sumN (fun j => c j * R j) n * e := fun c => by
    rw [Int.mul_comm, ← sumN_mul, Int.mul_comm (sumN _ n), ← sumN_mul]
    refine sumN_congr _ _ _ fun j hj => ?_
    have := hr j hj
    grind
  unfold endlessB pointB
  rw [hg, hd, ← hn]
  simp only [Bool.and_eq_true, Bool.not_eq_true', beq_iff_eq, decide_eq_true_eq, true_and, List.all_eq_true]
  refine ⟨⟨⟨⟨hl, may_one a.r (by omega) fun j hj => ?_⟩, any_of _ fun j hj => h0 j (by omega)⟩, fun q hq => ?_⟩, ?_⟩
  · have := h0 j (by omega)
    have := hb j (by omega)
    omega
  · obtain ⟨i, hi, rfl⟩ := List.getElem_of_mem hq
    unfold rowLevel
    rw [decide_eq_true_eq, dotN_sum]
    have h1 := hR.level i (by omega)
    rw [slack_sum p m n i hn (by omega), List.getElem?_eq_getElem hi, Option.getD_some] at h1
    have h2 := key fun j => p.rows[i].1[j]?.getD 0
    have h3 := hR.up (n + i) (by omega)
    have h4 : sumN (fun j => p.rows[i].1[j]?.getD 0 * R j) n = -(R (n + i)) := by omega
    rw [h4] at h2
    have h5 := Int.mul_nonneg h3 (Int.le_of_lt he)
    rw [Int.neg_mul] at h2
    generalize sumN (fun j => p.rows[i].1[j]?.getD 0 * a.r[j]?.getD 0) n = z at *
    refine Int.not_lt.1 fun hz => ?_
    have := Int.mul_pos hz hh
    omega
  · rw [dotN_sum]
    have h1 := hR.rise
    rw [sumN_split] at h1
    have e2 : sumN (fun i => p.costs[n + i]?.getD 0 * R (n + i)) m = 0 := (sumN_congr _ (fun _ => 0) _ fun i hi => by rw [List.getElem?_eq_none (by omega)]; simp).trans (sumN_zero m)
    have h2 := key fun j => p.costs[j]?.getD 0
    have h3 := Int.mul_pos (show 0 < sumN (fun j => p.costs[j]?.getD 0 * R j) n by omega) he
    rw [← h2, Int.mul_comm] at h3
    exact (pos_mul_iff _ _ hh).1 h3

/-- How often each row is taken, where nothing goes. -/
structure Never (p : Lp) (m n : Nat) (y : Nat → Int) : Prop where
  up : ∀ i, i < m → 0 ≤ y i
  cover : ∀ j, j < n → 0 ≤ sumN (fun i => hasF p j i * y i) m
  falls : sumN (fun i => mostF p i * y i) m < 0

theorem never_nothing (p : Lp) (m n : Nat) (hmay : p.may = true) (hm : m = p.rows.length) (hn : n = p.costs.length) (Y : Nat → Int) (hY : Never p m n Y) (a : Ans) (hd : a.yd = 1) (hl : a.y.length = m) (hb : ∀ i, i < m → a.y[i]?.getD 0 ≤ 1073741824)
    (e h : Int) (he : 0 < e) (hh : 0 < h) (hy : ∀ i, i < m → Y i * e = a.y[i]?.getD 0 * h) : nothingB p a = true := by
  have h4 := (p.may_of hmay).2.2.1.2
  have h0 : ∀ i, i < m → 0 ≤ a.y[i]?.getD 0 := fun i hi => by
    have := Int.mul_nonneg (hY.up i hi) (Int.le_of_lt he)
    rw [hy i hi, Int.mul_comm] at this
    exact (nonneg_mul_iff _ _ hh).1 this
  have key : ∀ c : Nat → Int, sumN (fun i => c i * a.y[i]?.getD 0) m * h = sumN (fun i => c i * Y i) m * e := fun c => by
    rw [Int.mul_comm, ← sumN_mul, Int.mul_comm (sumN _ m), ← sumN_mul]
    refine sumN_congr _ _ _ fun i hi => ?_
    have := hy i hi
    grind
  unfold nothingB coversB pointB
  rw [hd, ← hm, ← hn]
  simp only [Bool.and_eq_true, Bool.not_eq_true', beq_iff_eq, decide_eq_true_eq, List.all_eq_true]
  refine ⟨⟨by decide, ⟨⟨hl, may_one a.y (by omega) fun i hi => ?_⟩, any_of _ fun i hi => h0 i (by omega)⟩, fun j hj => ?_⟩, ?_⟩
  · have := h0 i (by omega)
    have := hb i (by omega)
    omega
  · simp only [List.length_replicate, List.mem_range] at hj
    unfold costB
    rw [decide_eq_true_eq, dotN_sum]
    have e0 : (List.replicate n (0 : Int))[j]?.getD 0 = 0 := by
      rw [List.getElem?_replicate]; split <;> rfl
    have e1 : sumN (fun i => (colL p m j)[i]?.getD 0 * a.y[i]?.getD 0) m = sumN (fun i => hasF p j i * a.y[i]?.getD 0) m := sumN_congr _ _ _ fun i hi => by unfold colL; rw [range_getD, if_pos hi]
    rw [e0, e1]
    have h2 := key fun i => hasF p j i
    have h3 := Int.mul_nonneg (hY.cover j hj) (Int.le_of_lt he)
    rw [← h2, Int.mul_comm] at h3
    have := (nonneg_mul_iff _ _ hh).1 h3
    omega
  · unfold pricedN
    rw [dotN_sum]
    have e1 : sumN (fun i => (mostsL p m)[i]?.getD 0 * a.y[i]?.getD 0) m = sumN (fun i => mostF p i * a.y[i]?.getD 0) m := sumN_congr _ _ _ fun i hi => by unfold mostsL; rw [range_getD, if_pos hi]
    rw [e1]
    have h2 := key fun i => mostF p i
    have h3 := Int.mul_neg_of_neg_of_pos hY.falls he
    rw [← h2] at h3
    refine Int.not_le.1 fun hz => ?_
    have := Int.mul_nonneg hz (Int.le_of_lt hh)
    omega

/-- The lowest terms of numbers that are not too great may be. -/
theorem pt_may (l : List Int) (d : Int) (hd : d ≠ 0) (hdb : -1073741824 ≤ d ∧ d ≤ 1073741824) (hl : ∀ j : Nat, -1073741824 ≤ l[j]?.getD 0 ∧ l[j]?.getD 0 ≤ 1073741824) (h8 : l.length ≤ 8) :
    ∃ x xd, pt l d = (x, xd, 0) ∧ x.length = l.length ∧ mayPB xd x = true ∧ ∀ j : Nat, l[j]?.getD 0 * xd = x[j]?.getD 0 * d := by
  obtain ⟨g, g0, h1, h2, h3, h4, h5, _⟩ := pt_ok l d hd hdb hl h8
  have hw : withinB 4611686018427387904 l = true := within_of _ l fun j _ => by have := hl j; omega
  have hw2 : withinB 4611686018427387904 [d] = true := by rw [withinB_one]; simp; omega
  have hp := pt_in l d hd hw hw2
  refine ⟨(pt l d).1, (pt l d).2.1, by rw [← h1], h2, ?_, fun j => ?_⟩
  · cases hmp : mayPB (d.tdiv (byOf d l)) (l.map fun n => n.tdiv (byOf d l)) with
    | false =>
      rw [hmp] at hp
      rw [hp] at h1
      simp at h1
    | true =>
      rw [hmp] at hp
      rw [hp]
      simpa using hmp
  · rw [h3 j]
    generalize (pt l d).1[j]?.getD 0 = x at *
    generalize (pt l d).2.1 = xd at *
    rw [h4]; grind

end Num
end Go.Proofs.YtipcbhodlgoflabGreat

/- Where no corner goes, a corner refuses: it has a column below 0 that no other one lifts; in plain numbers. -/
namespace Go.Proofs.YtipcbhodlgoflabGreat
namespace Num

/-- A best corner of the program that asks for the prices makes a corner that goes. -/
theorem dual_top_goes (p : Lp) (m n : Nat) (hmay : p.may = true) (hm : m = p.rows.length) (hn : n = p.costs.length) (t : List Int) (ht : Top (dualP p) t n m) : ∃ g, Good p g m n := by
  have dc : m = (dualP p).costs.length := by rw [dual_costs]; exact hm
  have dr : n = (dualP p).rows.length := by rw [dual_rows]; exact hn
  obtain ⟨t1, t2⟩ := top_prices (dualP p) t n m dr dc ht
  have hD := sgD_pos (dualP p) t n ht.den
  generalize sgD (dualP p) t n * denL (dualP p) t n = D at *
  refine goes_corner p m n hmay hm hn (n + m) (fun j => if j < n then sgD (dualP p) t n * (priceL (dualP p) t n)[j]?.getD 0 else mostF p (j - n) * D - sumN (fun q => hasF p q (j - n) * (sgD (dualP p) t n * (priceL (dualP p) t n)[q]?.getD 0)) n) D hD (fun j hj => ?_) (fun i hi => ?_) ?_
  · show 0 ≤ (if j < n then _ else _)
    by_cases hjn : j < n
    · rw [if_pos hjn]; exact t1 j hjn
    · rw [if_neg hjn]
      have := t2 (j - n) (by omega)
      rw [dual_cost p (j - n) (by omega)] at this
      have e : sumN (fun q => hasF (dualP p) (j - n) q * (sgD (dualP p) t n * (priceL (dualP p) t n)[q]?.getD 0)) n = -1 * sumN (fun q => hasF p q (j - n) * (sgD (dualP p) t n * (priceL (dualP p) t n)[q]?.getD 0)) n := by
        rw [← sumN_mul]
        exact sumN_congr _ _ _ fun q hq => by rw [dual_has p (j - n) q (by omega) (by omega)]; grind
      rw [e, Int.neg_mul] at this
      omega
  · rw [slack_sum p m n i hn hi]
    have e : sumN (fun j => (p.rows[i]?.getD ([], 0)).1[j]?.getD 0 * (if j < n then sgD (dualP p) t n * (priceL (dualP p) t n)[j]?.getD 0 else mostF p (j - n) * D - sumN (fun q => hasF p q (j - n) * (sgD (dualP p) t n * (priceL (dualP p) t n)[q]?.getD 0)) n)) n = sumN (fun q => hasF p q i * (sgD (dualP p) t n * (priceL (dualP p) t n)[q]?.getD 0)) n :=
      sumN_congr _ _ _ fun j hj => by rw [if_pos hj, has_row p n j i hn hj]
    rw [e, if_neg (by omega), Nat.add_sub_cancel_left, Int.mul_comm D]
    omega
  · unfold suppL
    exact Nat.le_trans (List.length_filter_le _ _) (by simp)

/-- The column of the program that belongs to one of the program that asks for the prices, and back. -/
def phi (m n q : Nat) : Nat := if q < m then n + q else q - m
def psi (m n j : Nat) : Nat := if j < n then m + j else j - n

theorem psi_phi (m n q : Nat) (h : q < m + n) : psi m n (phi m n q) = q := by
  unfold psi phi
  split
  · rw [if_neg (by omega)]; omega
  · rw [if_pos (by omega)]; omega
theorem phi_lt (m n q : Nat) (h : q < m + n) : phi m n q < n + m := by unfold phi; split <;> omega

/-- What a column costs at prices that are level in the other program. -/
theorem dual_col (p : Lp) (m n : Nat) (hm : m = p.rows.length) (hn : n = p.costs.length) (z : Nat → Int) (hz : ∀ j, j < n → sumN (fun q => hasF (dualP p) q j * z q) (m + n) = 0) (j : Nat) (hj : j < n + m) : sumN (fun i => hasF p j i * z i) m = z (psi m n j) := by
  have dc : m = (dualP p).costs.length := by rw [dual_costs]; exact hm
  by_cases hjn : j < n
  · unfold psi
    rw [if_pos hjn]
    have := hz j hjn
    rw [sumN_split] at this
    have e1 : sumN (fun i => hasF (dualP p) i j * z i) m = -1 * sumN (fun i => hasF p j i * z i) m := by
      rw [← sumN_mul]
      exact sumN_congr _ _ _ fun i hi => by rw [dual_has p i j (by omega) (by omega)]; grind
    have e2 : sumN (fun q => hasF (dualP p) (m + q) j * z (m + q)) n = z (m + j) := by
      rw [sumN_only _ j n hjn (fun q _ hq => by show hasF (dualP p) (m + q) j * _ = 0; rw [has_slack (dualP p) m q j dc, if_neg (by omega)]; omega)]
      show hasF (dualP p) (m + j) j * _ = _
      rw [has_slack (dualP p) m j j dc, if_pos rfl]; omega
    rw [e1, e2] at this
    omega
  · obtain ⟨q, rfl⟩ : ∃ q, j = n + q := ⟨j - n, by omega⟩
    unfold psi
    rw [if_neg hjn, slack_price p m n q hn (by omega), Nat.add_sub_cancel_left]

theorem sumL_only (f : Nat → Int) (c : Nat) (l : List Nat) (hn : l.Nodup) (hc : c ∈ l) (h : ∀ j ∈ l, j ≠ c → f j = 0) : sumL f l = f c := by
  rw [sumL_erase f c l hc, sumL_congr f (fun _ => 0) (l.erase c) fun j hj => ?_, sumL_zero]
  · omega
  · rw [hn.mem_erase_iff] at hj
    exact h j hj.2 hj.1

/-- The columns beside those of g. -/
def restL (m n : Nat) (g : List Int) : List Nat := ((List.range (m + n)).filter fun q => !inB g n q).map (phi m n)

theorem rest_mem (m n : Nat) (g : List Int) (j : Nat) : j ∈ restL m n g ↔ ∃ q, q < m + n ∧ inB g n q = false ∧ phi m n q = j := by
  unfold restL
  simp only [List.mem_map, List.mem_filter, List.mem_range, Bool.not_eq_true']
  exact ⟨fun ⟨q, ⟨h1, h2⟩, h3⟩ => ⟨q, h1, h2, h3⟩, fun ⟨q, h1, h2, h3⟩ => ⟨q, ⟨h1, h2⟩, h3⟩⟩

theorem rest_nodup (m n : Nat) (g : List Int) : (restL m n g).Nodup := by
  unfold restL
  have h : ((List.range (m + n)).filter fun q => !inB g n q).Nodup := List.Pairwise.filter _ List.nodup_range
  refine List.pairwise_map.2 (List.Pairwise.imp_of_mem (fun {a b} ha hb hab e => hab ?_) h)
  have ha' := List.mem_range.1 (List.mem_filter.1 ha).1
  have hb' := List.mem_range.1 (List.mem_filter.1 hb).1
  rw [← psi_phi m n a ha', e, psi_phi m n b hb']

theorem rest_len (m n : Nat) (g : List Int) (hr : rightB g n (m + n) = true) : (restL m n g).length = m := by
  unfold restL
  rw [List.length_map]
  have hnd : ((List.range n).map (atF g)).Nodup := by
    refine List.pairwise_map.2 (List.Pairwise.imp_of_mem (fun {a b} ha hb hab => ?_) List.pairwise_lt_range)
    have := atF_rise g (m + n) n hr b (List.mem_range.1 hb) a hab
    omega
  have hp : ((List.range (m + n)).filter fun q => inB g n q).Perm ((List.range n).map (atF g)) := (List.perm_ext_iff_of_nodup (List.Pairwise.filter _ List.nodup_range) hnd).2 fun q => by
    simp only [List.mem_filter, List.mem_range, List.mem_map]
    rw [inB_true]
    exact ⟨fun h => h.2, fun ⟨i, hi, he⟩ => ⟨by rw [← he]; exact atF_lt g (m + n) n hr i hi, i, hi, he⟩⟩
  have hl := hp.length_eq
  rw [List.length_map, List.length_range] at hl
  have hc := List.length_eq_countP_add_countP (fun q => inB g n q) (l := List.range (m + n))
  rw [List.length_range, List.countP_eq_length_filter, List.countP_eq_length_filter] at hc
  have he : ((List.range (m + n)).filter fun q => decide ¬(inB g n q) = true) = (List.range (m + n)).filter fun q => !inB g n q := by
    congr 1
    funext q
    cases inB g n q <;> rfl
  rw [he] at hc
  omega

/-- The columns beside a corner of the other program are independent. -/
theorem rest_ind (p : Lp) (m n : Nat) (hmay : p.may = true) (hm : m = p.rows.length) (hn : n = p.costs.length) (g : List Int) (hr : rightB g n (m + n) = true) (hd : denL (dualP p) g n ≠ 0) : IndC p m (restL m n g) := by
  have h1 : 1 ≤ n := by have := (p.may_of hmay).1.1; omega
  have h4 : n ≤ 4 := by have := (p.may_of hmay).1.2; omega
  intro v hv j hj
  obtain ⟨s, hs, hsb, rfl⟩ := (rest_mem m n g j).1 hj
  have e1 : sumN (fun i => dirF (dualP p) g n (m + n) s i * sumL (fun j => hasF p j i * v j) (restL m n g)) m = 0 := (sumN_congr _ (fun _ => 0) _ fun i hi => by rw [hv i hi]; omega).trans (sumN_zero m)
  have e2 : sumN (fun i => dirF (dualP p) g n (m + n) s i * sumL (fun j => hasF p j i * v j) (restL m n g)) m = sumN (fun i => sumL (fun j => v j * (hasF p j i * dirF (dualP p) g n (m + n) s i)) (restL m n g)) m := sumN_congr _ _ _ fun i _ => by
    rw [← sumL_mul]
    exact sumL_congr _ _ _ fun j _ => by grind
  rw [e2, sumL_sumN] at e1
  have e3 : ∀ j, j < n + m → sumN (fun i => v j * (hasF p j i * dirF (dualP p) g n (m + n) s i)) m = v j * dirF (dualP p) g n (m + n) s (psi m n j) := fun j hj => by
    rw [sumN_mul, dual_col p m n hm hn (dirF (dualP p) g n (m + n) s) (fun j hj => dir_level (dualP p) g n (m + n) s hr h1 h4 hs hsb j hj) j hj]
  rw [sumL_only _ (phi m n s) (restL m n g) (rest_nodup m n g) hj fun j hj hne => ?_] at e1
  · rw [e3 _ (phi_lt m n s hs), psi_phi m n s hs] at e1
    unfold dirF at e1
    rw [if_pos rfl] at e1
    rcases Int.mul_eq_zero.1 e1 with h | h
    · exact h
    · exact absurd h hd
  · obtain ⟨q, hq, hqb, rfl⟩ := (rest_mem m n g j).1 hj
    show sumN (fun i => v (phi m n q) * (hasF p (phi m n q) i * dirF (dualP p) g n (m + n) s i)) m = 0
    rw [e3 _ (phi_lt m n q hq), psi_phi m n q hq, dir_not (dualP p) g n (m + n) s q hqb (fun e => hne (by rw [e]))]
    omega

/-- A corner that refuses, by its column c, with how often each row is taken. -/
structure Refuses (p : Lp) (at' : List Int) (m n c : Nat) (y : Nat → Int) (D : Int) : Prop where
  right : rightB at' m (n + m) = true
  den : denL p at' m ≠ 0
  col : inB at' m c = true
  below : sgD p at' m * (xL p at' m (n + m))[c]?.getD 0 < 0
  never : Never p m n y
  pos : 0 < D
  own : ∀ j, inB at' m j = true → sumN (fun i => hasF p j i * y i) m = if j = c then D else 0

/-- A corner goes, or one refuses. -/
theorem goes_or_refuses (p : Lp) (m n : Nat) (hmay : p.may = true) (hm : m = p.rows.length) (hn : n = p.costs.length) : (∃ g, Good p g m n) ∨ ∃ at' c y D, Refuses p at' m n c y D := by
  have dm := dual_may p hmay
  have dc : m = (dualP p).costs.length := by rw [dual_costs]; exact hm
  have dr : n = (dualP p).rows.length := by rw [dual_rows]; exact hn
  have h1 : 1 ≤ m := by have := (p.may_of hmay).2.2.1.1; omega
  have h4 : m ≤ 4 := by have := (p.may_of hmay).2.2.1.2; omega
  obtain ⟨g0, hg0⟩ : ∃ g, Good (dualP p) g n m := goes_corner (dualP p) n m dm dr dc (m + n) (fun _ => 0) 1 (by omega) (fun _ _ => Int.le_refl _) (fun j hj => by
    rw [dual_most p j (by omega)]
    exact (sumN_congr _ (fun _ => 0) _ fun _ _ => by omega).trans (sumN_zero _)) (by unfold suppL; exact Nat.le_trans (List.length_filter_le _ _) (by simp))
  obtain ⟨l, k, hw⟩ := walk_ex (dualP p) g0 n m dm dr dc hg0
  have hgs := (isWalk_good dm hw).1
  obtain ⟨K, a1, a2, a3, a4, a5⟩ := hw
  have hg := hgs K (by omega)
  rw [← dr, ← dc] at hg
  generalize l[K]?.getD [] = g at *
  rcases next_kind (dualP p) g n m dm dr dc hg with ⟨_, h2⟩ | ⟨_, s, s1, s2, s3, s4⟩ | ⟨nx, hx, _⟩
  · exact Or.inl (dual_top_goes p m n hmay hm hn g ⟨hg, h2⟩)
  · refine Or.inr ?_
    have hR := dir_ray (dualP p) g n m s dm dr hg s1 s2 s3 s4
    have hind := rest_ind p m n hmay hm hn g hg.right hg.den
    have hnd := rest_nodup m n g
    have hlen := rest_len m n g hg.right
    have hltN : ∀ j ∈ restL m n g, j < n + m := fun j hj => by
      obtain ⟨q, hq, _, rfl⟩ := (rest_mem m n g j).1 hj
      exact phi_lt m n q hq
    obtain ⟨hr, hin⟩ := rise_ok m (n + m) (restL m n g) hnd hltN hlen
    have hd := ind_den p m n h1 h4 (restL m n g) hind hnd hltN hlen
    generalize riseL (n + m) (restL m n g) = at' at *
    have hD := sgD_pos (dualP p) g n hg.den
    have hcol : ∀ j, j < n + m → sumN (fun i => hasF p j i * (sgD (dualP p) g n * dirF (dualP p) g n (m + n) s i)) m = sgD (dualP p) g n * dirF (dualP p) g n (m + n) s (psi m n j) := fun j hj => dual_col p m n hm hn (fun i => sgD (dualP p) g n * dirF (dualP p) g n (m + n) s i) (fun j hj => hR.level j hj) j hj
    have hcS : phi m n s ∈ restL m n g := (rest_mem m n g _).2 ⟨s, s1, s2, rfl⟩
    have hnev : Never p m n (fun i => sgD (dualP p) g n * dirF (dualP p) g n (m + n) s i) := by
      refine ⟨fun i hi => hR.up i (by omega), fun j hj => ?_, ?_⟩
      · rw [hcol j (by omega)]
        exact hR.up _ (by unfold psi; rw [if_pos hj]; omega)
      · have := hR.rise
        rw [sumN_split] at this
        have e1 : sumN (fun i => (dualP p).costs[i]?.getD 0 * (sgD (dualP p) g n * dirF (dualP p) g n (m + n) s i)) m = -1 * sumN (fun i => mostF p i * (sgD (dualP p) g n * dirF (dualP p) g n (m + n) s i)) m := by
          rw [← sumN_mul]
          exact sumN_congr _ _ _ fun i hi => by rw [dual_cost p i (by omega)]; grind
        have e2 : sumN (fun q => (dualP p).costs[m + q]?.getD 0 * (sgD (dualP p) g n * dirF (dualP p) g n (m + n) s (m + q))) n = 0 := (sumN_congr _ (fun _ => 0) _ fun i hi => by rw [List.getElem?_eq_none (by omega)]; simp).trans (sumN_zero n)
        rw [e1, e2] at this
        omega
    have hown : ∀ j, inB at' m j = true → sumN (fun i => hasF p j i * (sgD (dualP p) g n * dirF (dualP p) g n (m + n) s i)) m = if j = phi m n s then sgD (dualP p) g n * denL (dualP p) g n else 0 := by
      intro j hj
      rw [hin j, decide_eq_true_eq] at hj
      rw [hcol j (hltN j hj)]
      obtain ⟨q, hq, hqb, rfl⟩ := (rest_mem m n g j).1 hj
      rw [psi_phi m n q hq]
      by_cases hqs : q = s
      · subst hqs
        rw [if_pos rfl]
        unfold dirF
        rw [if_pos rfl]
      · rw [if_neg (fun e => hqs (by rw [← psi_phi m n q hq, e, psi_phi m n s s1])), dir_not (dualP p) g n (m + n) s q hqb hqs]; omega
    refine ⟨at', phi m n s, fun i => sgD (dualP p) g n * dirF (dualP p) g n (m + n) s i, sgD (dualP p) g n * denL (dualP p) g n, hr, hd, by rw [hin, decide_eq_true_eq]; exact hcS, ?_, hnev, hD, hown⟩
    have hf := hnev.falls
    have e1 := pairs (hasF p) (fun i => sgD (dualP p) g n * dirF (dualP p) g n (m + n) s i) (fun j => (xL p at' m (n + m))[j]?.getD 0) m (n + m)
    generalize hy : (fun i => sgD (dualP p) g n * dirF (dualP p) g n (m + n) s i) = y at *
    have hyv : ∀ i, sgD (dualP p) g n * dirF (dualP p) g n (m + n) s i = y i := fun i => by rw [← hy]
    simp only [hyv] at e1 hf hown
    have e2 : sumN (fun i => y i * sumN (fun j => hasF p j i * (xL p at' m (n + m))[j]?.getD 0) (n + m)) m = denL p at' m * sumN (fun i => mostF p i * y i) m := by
      rw [← sumN_mul]
      exact sumN_congr _ _ _ fun i hi => by rw [x_level p at' m (n + m) hr h1 h4 i hi]; grind
    have e3 : sumN (fun j => sumN (fun i => hasF p j i * y i) m * (xL p at' m (n + m))[j]?.getD 0) (n + m) = sgD (dualP p) g n * denL (dualP p) g n * (xL p at' m (n + m))[phi m n s]?.getD 0 := by
      rw [sumN_only _ (phi m n s) (n + m) (phi_lt m n s s1) fun j _ hne => ?_]
      · show sumN (fun i => hasF p (phi m n s) i * y i) m * _ = _
        rw [hown _ (by rw [hin, decide_eq_true_eq]; exact hcS), if_pos rfl]
      · show sumN (fun i => hasF p j i * y i) m * (xL p at' m (n + m))[j]?.getD 0 = 0
        cases hb : inB at' m j with
        | false => rw [x_not p at' m (n + m) j hb]; omega
        | true => rw [hown j hb, if_neg hne]; omega
    rw [e3, e2] at e1
    have hDp := sgD_pos p at' m hd
    generalize sumN (fun i => mostF p i * y i) m = Fv at *
    generalize (xL p at' m (n + m))[phi m n s]?.getD 0 = x at *
    generalize sgD (dualP p) g n * denL (dualP p) g n = D at *
    have h5 : sgD p at' m * x * D = sgD p at' m * denL p at' m * Fv := by
      have : sgD p at' m * (D * x) = sgD p at' m * (denL p at' m * Fv) := by rw [e1]
      grind
    have h6 := Int.mul_neg_of_pos_of_neg hDp hf
    rw [← h5] at h6
    refine Int.not_le.1 fun h7 => ?_
    have := Int.mul_nonneg h7 (Int.le_of_lt hD)
    omega
  · rw [a4] at hx
    simp only [Prod.mk.injEq] at hx
    exact absurd hx.2.1 a5

/-- Prices at which no chosen column costs anything are none. -/
theorem left_none (p : Lp) (at' : List Int) (m : Nat) (h1 : 1 ≤ m) (h4 : m ≤ 4) (hd : denL p at' m ≠ 0) (z : Nat → Int) (hz : ∀ k, k < m → sumN (fun i => hasF p (atF at' k) i * z i) m = 0) (q : Nat) (hq : q < m) : z q = 0 := by
  have hc : ∀ i, i < m → sumN (fun k => hasF p (atF at' k) i * (sharesL (chosenL p at' m) (unitL m q) m)[k]?.getD 0) m = denL p at' m * (if i = q then 1 else 0) := by
    intro i hi
    have := cramer m (chosenL p at' m) (unitL m q) (chosen_sq p at' m) (by unfold unitL; simp) h1 h4 i hi
    unfold crm at this
    rw [dotN_sum, unitL_at m q i hi] at this
    rw [show vol (chosenL p at' m) none4 = denL p at' m from rfl] at this
    rw [← this]
    exact sumN_congr _ _ _ fun k hk => by rw [range_getD, if_pos hk, chosen_at p at' m k i hk hi, Int.mul_comm]
  generalize (sharesL (chosenL p at' m) (unitL m q) m) = u at *
  have e1 : sumN (fun i => z i * sumN (fun k => hasF p (atF at' k) i * u[k]?.getD 0) m) m = denL p at' m * z q := by
    rw [sumN_only _ q m hq fun i hi hne => by show z i * _ = 0; rw [hc i hi, if_neg hne]; omega]
    show z q * sumN _ m = _
    rw [hc q hq, if_pos rfl]; grind
  have e2 : sumN (fun i => z i * sumN (fun k => hasF p (atF at' k) i * u[k]?.getD 0) m) m = sumN (fun k => u[k]?.getD 0 * sumN (fun i => hasF p (atF at' k) i * z i) m) m := by
    have a1 : sumN (fun i => z i * sumN (fun k => hasF p (atF at' k) i * u[k]?.getD 0) m) m = sumN (fun i => sumN (fun k => u[k]?.getD 0 * (hasF p (atF at' k) i * z i)) m) m := sumN_congr _ _ _ fun i _ => by
      rw [← sumN_mul]; exact sumN_congr _ _ _ fun k _ => by grind
    rw [a1, sumN_swap]
    exact sumN_congr _ _ _ fun k _ => by rw [sumN_mul]
  have e3 : sumN (fun k => u[k]?.getD 0 * sumN (fun i => hasF p (atF at' k) i * z i) m) m = 0 := (sumN_congr _ (fun _ => 0) _ fun k hk => by rw [hz k hk]; omega).trans (sumN_zero m)
  rw [e2, e3] at e1
  rcases Int.mul_eq_zero.1 e1.symm with h | h
  · exact absurd h hd
  · exact h

/-- The program with the costs by which the variables are worth what the column c comes to. -/
def valP (p : Lp) (c : Nat) : Lp := ⟨(List.range p.costs.length).map fun k => if c < p.costs.length then (if k = c then 1 else 0) else -((p.rows[c - p.costs.length]?.getD ([], 0)).1[k]?.getD 0), p.rows⟩

/-- What solve.prices answers. -/
def pricesN (p : Lp) (at' : List Int) (c : Nat) : List Int :=
  if c < p.costs.length then (look (valP p c) at').y
  else (look (valP p c) at').y.set (c - p.costs.length) ((look (valP p c) at').y[c - p.costs.length]?.getD 0 + (look (valP p c) at').yd)

theorem val_costs (p : Lp) (c : Nat) : (valP p c).costs.length = p.costs.length := by simp [valP]

theorem val_has (p : Lp) (c j i : Nat) : hasF (valP p c) j i = hasF p j i := by
  unfold hasF
  rw [val_costs]
  rfl

theorem val_cost (p : Lp) (n c j : Nat) (hn : n = p.costs.length) : (valP p c).costs[j]?.getD 0 = if c < n then (if j = c then 1 else 0) else (if j < n then -hasF p j (c - n) else 0) := by
  show ((List.range p.costs.length).map _)[j]?.getD 0 = _
  rw [range_getD, ← hn]
  by_cases hj : j < n
  · rw [if_pos hj]
    split
    · rfl
    · rw [has_row p n j (c - n) hn hj]
  · rw [if_neg hj]
    split
    · rw [if_neg (by omega)]
    · rfl

theorem val_may (p : Lp) (c : Nat) (hmay : p.may = true) : (valP p c).may = true := by
  obtain ⟨h1, h2, h3, h4⟩ := p.may_of hmay
  unfold Lp.may at hmay ⊢
  rw [val_costs]
  simp only [Bool.and_eq_true, decide_eq_true_eq] at hmay ⊢
  refine ⟨⟨⟨⟨⟨h1.1, h1.2⟩, ?_⟩, h3.1⟩, h3.2⟩, hmay.2⟩
  unfold withinB valP
  rw [List.all_eq_true]
  intro x hx
  obtain ⟨k, hk, rfl⟩ := List.mem_map.1 hx
  have hk' := List.mem_range.1 hk
  simp only [Bool.and_eq_true, decide_eq_true_eq]
  split
  · split <;> omega
  · have hb : -12 ≤ (p.rows[c - p.costs.length]?.getD ([], 0)).1[k]?.getD 0 ∧ (p.rows[c - p.costs.length]?.getD ([], 0)).1[k]?.getD 0 ≤ 12 := by
      by_cases hq : c - p.costs.length < p.rows.length
      · exact withinB_iff _ _ (p.row_of (by unfold Lp.may; simp only [Bool.and_eq_true, decide_eq_true_eq]; exact hmay) _ hq).2.1 (by omega) k
      · rw [List.getElem?_eq_none (l := p.rows) (by omega)]; simp
    omega

theorem chosen_val (p : Lp) (c : Nat) (at' : List Int) (m : Nat) : chosenL (valP p c) at' m = chosenL p at' m := by
  unfold chosenL
  refine List.map_congr_left fun k _ => ?_
  exact List.map_congr_left fun i _ => val_has p c _ i

theorem val_den (p : Lp) (c : Nat) (at' : List Int) (m : Nat) : denL (valP p c) at' m = denL p at' m := by
  unfold denL
  rw [chosen_val]

/-- What the prices come to. -/
theorem prices_ok (p : Lp) (at' : List Int) (m n c : Nat) (hmay : p.may = true) (hm : m = p.rows.length) (hn : n = p.costs.length) (hr : rightB at' m (n + m) = true) (hd : denL p at' m ≠ 0) (hc : c < n + m) :
    (pricesN p at' c).length = m ∧ (∀ i : Nat, (pricesN p at' c)[i]?.getD 0 ≤ 1073741824) ∧ ∃ e : Int, 0 < e ∧ ∀ k, k < m → sumN (fun i => hasF p (atF at' k) i * (pricesN p at' c)[i]?.getD 0) m = if atF at' k = c then e else 0 := by
  have h1 : 1 ≤ m := by have := (p.may_of hmay).2.2.1.1; omega
  have h4 : m ≤ 4 := by have := (p.may_of hmay).2.2.1.2; omega
  have vm := val_may p c hmay
  have vr : m = (valP p c).rows.length := hm
  have vn : n = (valP p c).costs.length := by rw [val_costs]; exact hn
  have hd' : denL (valP p c) at' m ≠ 0 := by rw [val_den]; exact hd
  have hb := den_bd12 (valP p c) at' m vm h1 h4
  have pb := price_bd2 (valP p c) at' m vm vr
  obtain ⟨g, g0, q1, q2, q3, q4, q5, q6, q7⟩ := pt_ok (priceL (valP p c) at' m) (denL (valP p c) at' m) hd' (by omega) (fun j => by have := pb j; omega) (by unfold priceL sharesL; simp; omega)
  have hy : (look (valP p c) at').y = (pt (priceL (valP p c) at' m) (denL (valP p c) at' m)).1 ∧ (look (valP p c) at').yd = (pt (priceL (valP p c) at' m) (denL (valP p c) at' m)).2.1 := by
    unfold look
    rw [if_neg (by simp [vm]), if_neg (by rw [← vr, ← vn, hr]; decide), if_neg (by rw [← vr]; exact hd'), ← vr]
    exact ⟨rfl, rfl⟩
  have hyl : (look (valP p c) at').y.length = m := by rw [hy.1, q2]; unfold priceL sharesL; simp
  have hyd : 1 ≤ (look (valP p c) at').yd ∧ (look (valP p c) at').yd ≤ 497664 := by rw [hy.2]; omega
  have hyb : ∀ i : Nat, (look (valP p c) at').y[i]?.getD 0 ≤ 796262400 := fun i => by
    rw [hy.1]
    have := q7 i
    have := pb i
    omega
  have hcost : ∀ k, k < m → sumN (fun i => hasF p (atF at' k) i * (look (valP p c) at').y[i]?.getD 0) m = (valP p c).costs[atF at' k]?.getD 0 * (look (valP p c) at').yd := by
    intro k hk
    have hg := comes_gain (valP p c) at' m n vm vr hr k hk
    rw [gain_eq (valP p c) at' m (n + m) _ vr (atF_lt at' (n + m) m hr k hk)] at hg
    refine Int.eq_of_mul_eq_mul_left g0 ?_
    rw [← sumN_mul]
    have e1 : sumN (fun i => g * (hasF p (atF at' k) i * (look (valP p c) at').y[i]?.getD 0)) m = sumN (fun i => hasF (valP p c) (atF at' k) i * (priceL (valP p c) at' m)[i]?.getD 0) m := sumN_congr _ _ _ fun i _ => by
      rw [val_has, q3 i, hy.1]; grind
    rw [e1]
    have e2 : g * ((valP p c).costs[atF at' k]?.getD 0 * (look (valP p c) at').yd) = (valP p c).costs[atF at' k]?.getD 0 * denL (valP p c) at' m := by
      rw [q4, hy.2]; grind
    omega
  have hpn : pricesN p at' c = if c < n then (look (valP p c) at').y else (look (valP p c) at').y.set (c - n) ((look (valP p c) at').y[c - n]?.getD 0 + (look (valP p c) at').yd) := by unfold pricesN; rw [← hn]
  rw [hpn]
  clear hpn hy q1 q2 q3 q4 q5 q6 q7
  generalize (look (valP p c) at').y = y at *
  generalize (look (valP p c) at').yd = yd at *
  by_cases hcn : c < n
  · rw [if_pos hcn]
    refine ⟨hyl, fun i => by have := hyb i; omega, yd, by omega, fun k hk => ?_⟩
    rw [hcost k hk, val_cost p n c _ hn, if_pos hcn]
    split <;> omega
  · rw [if_neg hcn]
    have hset : ∀ i : Nat, i < m → (y.set (c - n) (y[c - n]?.getD 0 + yd))[i]?.getD 0 = y[i]?.getD 0 + (if i = c - n then yd else 0) := by
      intro i hi
      rw [List.getElem?_set]
      by_cases hic : c - n = i
      · subst hic
        rw [if_pos rfl, if_pos (by omega), if_pos rfl]; rfl
      · rw [if_neg hic, if_neg (fun e => hic e.symm)]; omega
    refine ⟨by rw [List.length_set]; exact hyl, fun i => ?_, yd, by omega, fun k hk => ?_⟩
    · by_cases hi : i < m
      · rw [hset i hi]
        have := hyb i
        split <;> omega
      · rw [List.getElem?_eq_none (by rw [List.length_set]; omega)]; simp
    · have e1 : sumN (fun i => hasF p (atF at' k) i * (y.set (c - n) (y[c - n]?.getD 0 + yd))[i]?.getD 0) m = sumN (fun i => hasF p (atF at' k) i * y[i]?.getD 0 + hasF p (atF at' k) i * (if i = c - n then yd else 0)) m := sumN_congr _ _ _ fun i hi => by rw [hset i hi]; grind
      have e2 : sumN (fun i => hasF p (atF at' k) i * (if i = c - n then yd else 0)) m = hasF p (atF at' k) (c - n) * yd := by
        rw [sumN_only _ (c - n) m (by omega) fun i _ hne => by show hasF p (atF at' k) i * (if i = c - n then yd else 0) = 0; rw [if_neg hne]; omega]
        show hasF p (atF at' k) (c - n) * (if c - n = c - n then yd else 0) = _
        rw [if_pos rfl]
      rw [e1, sumN_add, e2, hcost k hk, val_cost p n c _ hn, if_neg hcn]
      generalize atF at' k = j
      by_cases hj : j < n
      · rw [if_pos hj, if_neg (by omega)]; grind
      · obtain ⟨q, rfl⟩ : ∃ q, j = n + q := ⟨j - n, by omega⟩
        rw [if_neg hj, has_slack p n q (c - n) hn]
        by_cases hq : n + q = c
        · rw [if_pos hq, if_pos (by omega)]; omega
        · rw [if_neg hq, if_neg (by omega)]; omega

/-- The answer that refused holds for proved. -/
def noAns (p : Lp) (at' : List Int) (c : Nat) : Ans := ⟨3, [], 0, pricesN p at' c, 1, [], 0, 0, 0⟩

/-- Where a corner refuses, the prices of its column prove it. -/
theorem refuses_holds (p : Lp) (at' : List Int) (m n c : Nat) (y : Nat → Int) (D : Int) (hmay : p.may = true) (hm : m = p.rows.length) (hn : n = p.costs.length) (h : Refuses p at' m n c y D) : holds p (noAns p at' c) = true := by
  have h1 : 1 ≤ m := by have := (p.may_of hmay).2.2.1.1; omega
  have h4 : m ≤ 4 := by have := (p.may_of hmay).2.2.1.2; omega
  obtain ⟨k0, hk0, hkc⟩ := (inB_true at' m c).1 h.col
  have hcN : c < n + m := by rw [← hkc]; exact atF_lt at' (n + m) m h.right k0 hk0
  obtain ⟨p1, p2, e, he, p3⟩ := prices_ok p at' m n c hmay hm hn h.right h.den hcN
  have hprop : ∀ i, i < m → y i * e = (pricesN p at' c)[i]?.getD 0 * D := by
    intro i hi
    have := left_none p at' m h1 h4 h.den (fun i => y i * e - (pricesN p at' c)[i]?.getD 0 * D) (fun k hk => by
      have a1 : sumN (fun i => hasF p (atF at' k) i * (y i * e - (pricesN p at' c)[i]?.getD 0 * D)) m = sumN (fun i => e * (hasF p (atF at' k) i * y i) + (-D) * (hasF p (atF at' k) i * (pricesN p at' c)[i]?.getD 0)) m := sumN_congr _ _ _ fun i _ => by grind
      rw [a1, sumN_add, sumN_mul, sumN_mul, p3 k hk, h.own _ ((inB_true at' m _).2 ⟨k, hk, rfl⟩)]
      split <;> grind) i hi
    have this' : y i * e - (pricesN p at' c)[i]?.getD 0 * D = 0 := this
    omega
  rw [holds_nothing p _ hmay rfl]
  simp only [Bool.and_eq_true]
  refine ⟨?_, never_nothing p m n hmay hm hn y h.never (noAns p at' c) rfl p1 (fun i _ => p2 i) e D he h.pos hprop⟩
  exact ⟨⟨rfl, rfl⟩, rfl⟩

end Num
end Go.Proofs.YtipcbhodlgoflabGreat
