/- What columns come to, in plain numbers: Cramer's rule for up to four lines. -/
import Derived.Test.YtipcbhodlgoflabCornRC
import Derived.Test.YtipcbhodlgoflabPrfN
import Derived.Test.YtipcbhodlgoflabCornL
namespace Go.Proofs.Ytipcbhodlgoflab
namespace Num

/-- How often the lines are taken, each times its number at place i, comes to what is wanted there, as often as their volume says. -/
def crm (ls : List (List Int)) (want : List Int) (n i : Nat) : Int := dotN (sharesL ls want n) ((List.range n).map fun k => at2 ls k i) n

/-- The numbers of a, each times the price at its place. -/
def prc (ls : List (List Int)) (w a : List Int) (n : Nat) : Int := dotN a (sharesL (turnL ls) w n) n

theorem cr1 (a x : Int) : crm [[a]] [x] 1 0 = vol [[a]] none4 * x := by
  simp [crm, dotN, sharesL, List.range_succ, vol, volSum, none4, at2]
  grind

theorem cr2 (a b c d x y : Int) (i : Nat) (hi : i < 2) : crm [[a, b], [c, d]] [x, y] 2 i = vol [[a, b], [c, d]] none4 * [x, y][i]?.getD 0 := by
  match i, hi with
  | 0, _ => simp [crm, dotN, sharesL, List.range_succ, vol, volSum, none4, mark, at2]; grind
  | 1, _ => simp [crm, dotN, sharesL, List.range_succ, vol, volSum, none4, mark, at2]; grind

theorem cr3 (a b c d e f g h j x y z : Int) (i : Nat) (hi : i < 3) : crm [[a, b, c], [d, e, f], [g, h, j]] [x, y, z] 3 i = vol [[a, b, c], [d, e, f], [g, h, j]] none4 * [x, y, z][i]?.getD 0 := by
  match i, hi with
  | 0, _ => simp [crm, dotN, sharesL, List.range_succ, vol, volSum, none4, mark, at2]; grind
  | 1, _ => simp [crm, dotN, sharesL, List.range_succ, vol, volSum, none4, mark, at2]; grind
  | 2, _ => simp [crm, dotN, sharesL, List.range_succ, vol, volSum, none4, mark, at2]; grind

set_option maxHeartbeats 4000000 in
theorem cr4 (a b c d e f g h j k l m n o p q x y z u : Int) (i : Nat) (hi : i < 4) : crm [[a, b, c, d], [e, f, g, h], [j, k, l, m], [n, o, p, q]] [x, y, z, u] 4 i = vol [[a, b, c, d], [e, f, g, h], [j, k, l, m], [n, o, p, q]] none4 * [x, y, z, u][i]?.getD 0 := by
  match i, hi with
  | 0, _ => simp [crm, dotN, sharesL, List.range_succ, vol, volSum, none4, mark, at2]; grind
  | 1, _ => simp [crm, dotN, sharesL, List.range_succ, vol, volSum, none4, mark, at2]; grind
  | 2, _ => simp [crm, dotN, sharesL, List.range_succ, vol, volSum, none4, mark, at2]; grind
  | 3, _ => simp [crm, dotN, sharesL, List.range_succ, vol, volSum, none4, mark, at2]; grind

theorem cramer (n : Nat) (ls : List (List Int)) (want : List Int) (h : Sq n ls) (hw : want.length = n) (h1 : 1 ≤ n) (h4 : n ≤ 4) (i : Nat) (hi : i < n) : crm ls want n i = vol ls none4 * want[i]?.getD 0 := by
  obtain ⟨hl, ha⟩ := h
  match n, h1, h4 with
  | 1, _, _ =>
    obtain ⟨x, rfl⟩ := len1 ls hl
    obtain ⟨a, rfl⟩ := len1 x (ha x (by simp))
    obtain ⟨w, rfl⟩ := len1 want hw
    obtain rfl : i = 0 := by omega
    exact cr1 a w
  | 2, _, _ =>
    obtain ⟨x, y, rfl⟩ := len2 ls hl
    obtain ⟨a, b, rfl⟩ := len2 x (ha x (by simp))
    obtain ⟨c, d, rfl⟩ := len2 y (ha y (by simp))
    obtain ⟨w, w', rfl⟩ := len2 want hw
    exact cr2 _ _ _ _ _ _ i hi
  | 3, _, _ =>
    obtain ⟨x, y, z, rfl⟩ := len3 ls hl
    obtain ⟨a, b, c, rfl⟩ := len3 x (ha x (by simp))
    obtain ⟨d, e, f, rfl⟩ := len3 y (ha y (by simp))
    obtain ⟨g, h, j, rfl⟩ := len3 z (ha z (by simp))
    obtain ⟨w, w', w'', rfl⟩ := len3 want hw
    exact cr3 _ _ _ _ _ _ _ _ _ _ _ _ i hi
  | 4, _, _ =>
    obtain ⟨x, y, z, u, rfl⟩ := len4 ls hl
    obtain ⟨a, b, c, d, rfl⟩ := len4 x (ha x (by simp))
    obtain ⟨e, f, g, h, rfl⟩ := len4 y (ha y (by simp))
    obtain ⟨j, k, l, m, rfl⟩ := len4 z (ha z (by simp))
    obtain ⟨n, o, p, q, rfl⟩ := len4 u (ha u (by simp))
    obtain ⟨w, w', w'', w3, rfl⟩ := len4 want hw
    exact cr4 _ _ _ _ _ _ _ _ _ _ _ _ _ _ _ _ _ _ _ _ i hi

end Num
end Go.Proofs.Ytipcbhodlgoflab

/- What columns come to, in plain numbers: prices, and how great all that is. -/
namespace Go.Proofs.Ytipcbhodlgoflab
namespace Num

theorem pr1 (a w x : Int) : prc [[a]] [w] [x] 1 = dotN [w] (sharesL [[a]] [x] 1) 1 := by
  simp [prc, dotN, sharesL, turnL, List.range_succ, vol, volSum, none4]
  grind

theorem pr2 (a b c d w v x y : Int) : prc [[a, b], [c, d]] [w, v] [x, y] 2 = dotN [w, v] (sharesL [[a, b], [c, d]] [x, y] 2) 2 := by
  simp [prc, dotN, sharesL, turnL, List.range_succ, vol, volSum, none4, mark, at2]
  grind

theorem pr3 (a b c d e f g h j w v u x y z : Int) : prc [[a, b, c], [d, e, f], [g, h, j]] [w, v, u] [x, y, z] 3 = dotN [w, v, u] (sharesL [[a, b, c], [d, e, f], [g, h, j]] [x, y, z] 3) 3 := by
  simp [prc, dotN, sharesL, turnL, List.range_succ, vol, volSum, none4, mark, at2]
  grind

set_option maxHeartbeats 4000000 in
theorem pr4 (a b c d e f g h j k l m n o p q w v u t x y z s : Int) : prc [[a, b, c, d], [e, f, g, h], [j, k, l, m], [n, o, p, q]] [w, v, u, t] [x, y, z, s] 4 = dotN [w, v, u, t] (sharesL [[a, b, c, d], [e, f, g, h], [j, k, l, m], [n, o, p, q]] [x, y, z, s] 4) 4 := by
  simp [prc, dotN, sharesL, turnL, List.range_succ, vol, volSum, none4, mark, at2]
  grind

theorem vt2 (a b c d : Int) : vol (turnL [[a, b], [c, d]]) none4 = vol [[a, b], [c, d]] none4 := by
  simp [turnL, List.range_succ, vol, volSum, none4, mark, at2]
  grind

theorem vt3 (a b c d e f g h j : Int) : vol (turnL [[a, b, c], [d, e, f], [g, h, j]]) none4 = vol [[a, b, c], [d, e, f], [g, h, j]] none4 := by
  simp [turnL, List.range_succ, vol, volSum, none4, mark, at2]
  grind

set_option maxHeartbeats 4000000 in
theorem vt4 (a b c d e f g h j k l m n o p q : Int) : vol (turnL [[a, b, c, d], [e, f, g, h], [j, k, l, m], [n, o, p, q]]) none4 = vol [[a, b, c, d], [e, f, g, h], [j, k, l, m], [n, o, p, q]] none4 := by
  simp [turnL, List.range_succ, vol, volSum, none4, mark, at2]
  grind

theorem prices (n : Nat) (ls : List (List Int)) (w vv : List Int) (h : Sq n ls) (hw : w.length = n) (ha' : vv.length = n) (h1 : 1 ≤ n) (h4 : n ≤ 4) : dotN vv (sharesL (turnL ls) w n) n = dotN w (sharesL ls vv n) n := by
  obtain ⟨hl, ha⟩ := h
  match n, h1, h4 with
  | 1, _, _ =>
    obtain ⟨x, rfl⟩ := len1 ls hl
    obtain ⟨b, rfl⟩ := len1 x (ha x (by simp))
    obtain ⟨w, rfl⟩ := len1 w hw
    obtain ⟨a, rfl⟩ := len1 vv ha'
    exact pr1 _ _ _
  | 2, _, _ =>
    obtain ⟨x, y, rfl⟩ := len2 ls hl
    obtain ⟨a, b, rfl⟩ := len2 x (ha x (by simp))
    obtain ⟨c, d, rfl⟩ := len2 y (ha y (by simp))
    obtain ⟨w, w', rfl⟩ := len2 w hw
    obtain ⟨a, a', rfl⟩ := len2 vv ha'
    exact pr2 _ _ _ _ _ _ _ _
  | 3, _, _ =>
    obtain ⟨x, y, z, rfl⟩ := len3 ls hl
    obtain ⟨a, b, c, rfl⟩ := len3 x (ha x (by simp))
    obtain ⟨d, e, f, rfl⟩ := len3 y (ha y (by simp))
    obtain ⟨g, h, j, rfl⟩ := len3 z (ha z (by simp))
    obtain ⟨w, w', w'', rfl⟩ := len3 w hw
    obtain ⟨a, a', a'', rfl⟩ := len3 vv ha'
    exact pr3 _ _ _ _ _ _ _ _ _ _ _ _ _ _ _
  | 4, _, _ =>
    obtain ⟨x, y, z, u, rfl⟩ := len4 ls hl
    obtain ⟨a, b, c, d, rfl⟩ := len4 x (ha x (by simp))
    obtain ⟨e, f, g, h, rfl⟩ := len4 y (ha y (by simp))
    obtain ⟨j, k, l, m, rfl⟩ := len4 z (ha z (by simp))
    obtain ⟨n, o, p, q, rfl⟩ := len4 u (ha u (by simp))
    obtain ⟨w, w', w'', w3, rfl⟩ := len4 w hw
    obtain ⟨a, a', a'', a3, rfl⟩ := len4 vv ha'
    exact pr4 _ _ _ _ _ _ _ _ _ _ _ _ _ _ _ _ _ _ _ _ _ _ _ _

theorem vol_turn (n : Nat) (ls : List (List Int)) (h : Sq n ls) (h1 : 1 ≤ n) (h4 : n ≤ 4) : vol (turnL ls) none4 = vol ls none4 := by
  obtain ⟨hl, ha⟩ := h
  match n, h1, h4 with
  | 1, _, _ =>
    obtain ⟨x, rfl⟩ := len1 ls hl
    obtain ⟨b, rfl⟩ := len1 x (ha x (by simp))
    simp [turnL, List.range_succ, at2]
  | 2, _, _ =>
    obtain ⟨x, y, rfl⟩ := len2 ls hl
    obtain ⟨a, b, rfl⟩ := len2 x (ha x (by simp))
    obtain ⟨c, d, rfl⟩ := len2 y (ha y (by simp))
    exact vt2 _ _ _ _
  | 3, _, _ =>
    obtain ⟨x, y, z, rfl⟩ := len3 ls hl
    obtain ⟨a, b, c, rfl⟩ := len3 x (ha x (by simp))
    obtain ⟨d, e, f, rfl⟩ := len3 y (ha y (by simp))
    obtain ⟨g, h, j, rfl⟩ := len3 z (ha z (by simp))
    exact vt3 _ _ _ _ _ _ _ _ _
  | 4, _, _ =>
    obtain ⟨x, y, z, u, rfl⟩ := len4 ls hl
    obtain ⟨a, b, c, d, rfl⟩ := len4 x (ha x (by simp))
    obtain ⟨e, f, g, h, rfl⟩ := len4 y (ha y (by simp))
    obtain ⟨j, k, l, m, rfl⟩ := len4 z (ha z (by simp))
    obtain ⟨n, o, p, q, rfl⟩ := len4 u (ha u (by simp))
    exact vt4 _ _ _ _ _ _ _ _ _ _ _ _ _ _ _ _

/-- How great a determinant of numbers up to 12 can be. -/
def bd12 : Nat → Int
  | 0 => 1
  | n + 1 => 12 * bd12 n * (n + 1)

theorem detN_bd12 (n : Nat) (ls : List (List Int)) (h : BdL 12 ls) : -(bd12 n) ≤ detN n ls ∧ detN n ls ≤ bd12 n := by
  induction n generalizing ls with
  | zero => simp [detN, bd12]
  | succ n ih =>
    have hf : ∀ k : Nat, -(bd12 n) ≤ detN n ((ls.drop 1).map (del k)) ∧ detN n ((ls.drop 1).map (del k)) ≤ bd12 n := fun k => ih _ (h.minor (by omega) k)
    have hs := volSum_bd (fun k => detN n ((ls.drop 1).map (del k))) (ls[0]?.getD []) none4 12 (bd12 n) (h 0) hf (n + 1)
    unfold detN bd12
    simpa using hs

theorem vol_bd12 (n : Nat) (ls : List (List Int)) (h : Sq n ls) (h1 : 1 ≤ n) (h4 : n ≤ 4) (hb : BdL 12 ls) : -497664 ≤ vol ls none4 ∧ vol ls none4 ≤ 497664 := by
  have := detN_bd12 n (turnL ls) (turn_bd _ _ hb)
  rw [vol_det n ls h h1 h4]
  match n, h1, h4 with
  | 1, _, _ => simp [bd12] at this; omega
  | 2, _, _ => simp [bd12] at this; omega
  | 3, _, _ => simp [bd12] at this; omega
  | 4, _, _ => simp [bd12] at this; omega

theorem shares_bd12 (n : Nat) (ls : List (List Int)) (a : List Int) (h : Sq n ls) (ha : a.length = n) (h1 : 1 ≤ n) (h4 : n ≤ 4) (hb : BdL 12 ls) (hab : ∀ j : Nat, -12 ≤ a[j]?.getD 0 ∧ a[j]?.getD 0 ≤ 12) :
    ∀ j : Nat, -497664 ≤ (sharesL ls a n)[j]?.getD 0 ∧ (sharesL ls a n)[j]?.getD 0 ≤ 497664 := by
  intro j
  unfold sharesL
  rw [range_getD]
  split
  · exact vol_bd12 n _ (set_sq ls n j a h ha) h1 h4 (hb.set j a hab)
  · omega

end Num
end Go.Proofs.Ytipcbhodlgoflab

/- What a corner comes to, in plain numbers. -/
namespace Go.Proofs.Ytipcbhodlgoflab
namespace Num

/-- Numbers that are not too great have a point: each is its own, times one number. -/
theorem pt_ok (l : List Int) (d : Int) (hd : d ≠ 0) (hdb : -1073741824 ≤ d ∧ d ≤ 1073741824) (hl : ∀ j : Nat, -1073741824 ≤ l[j]?.getD 0 ∧ l[j]?.getD 0 ≤ 1073741824) (h8 : l.length ≤ 8) :
    ∃ g, g ≠ 0 ∧ (pt l d).2.2 = 0 ∧ (pt l d).1.length = l.length ∧ (∀ j : Nat, l[j]?.getD 0 = g * (pt l d).1[j]?.getD 0) ∧ d = g * (pt l d).2.1 ∧ 1 ≤ (pt l d).2.1 ∧ (pt l d).2.1.natAbs ≤ d.natAbs ∧ (∀ j : Nat, ((pt l d).1[j]?.getD 0).natAbs ≤ (l[j]?.getD 0).natAbs) := by
  have hw : withinB 1073741824 l = true := by
    unfold withinB
    rw [List.all_eq_true]
    intro n hn
    obtain ⟨j, hj, rfl⟩ := List.getElem_of_mem hn
    have := hl j
    rw [List.getElem?_eq_getElem hj, Option.getD_some] at this
    simpa using this
  have hw2 : withinB 4611686018427387904 l = true := by
    unfold withinB at hw ⊢
    rw [List.all_eq_true] at hw ⊢
    intro n hn
    have := hw n hn
    simp only [Bool.and_eq_true, decide_eq_true_eq] at this ⊢
    omega
  have hf : fitsB 1073741824 d l = true := by
    unfold fitsB
    have t1 := tdiv_abs d (byOf d l)
    simp only [Bool.and_eq_true, decide_eq_true_eq]
    refine ⟨by omega, ?_⟩
    unfold withinB
    rw [List.all_eq_true]
    intro n hn
    obtain ⟨m, hm, rfl⟩ := List.mem_map.1 hn
    unfold withinB at hw
    rw [List.all_eq_true] at hw
    have h1 := hw m hm
    have h2 := tdiv_abs m (byOf d l)
    simp only [Bool.and_eq_true, decide_eq_true_eq] at h1 ⊢
    omega
  have hlow : (low d l).2 = 0 := by
    unfold low
    rw [if_neg, if_neg (by omega), if_pos hf]
    rw [withinB_one]
    simp [hd, hw2]
    omega
  have hpt : pt l d = (l.map fun n => n.tdiv (byOf d l), d.tdiv (byOf d l), 0) := by unfold pt; rw [if_pos hlow]
  rw [hpt]
  refine ⟨byOf d l, (byOf_bd d l hd (by omega) (by omega)).1, rfl, by simp, fun j => ?_, (Int.mul_tdiv_cancel' (byOf_dvd_d d l)).symm, low_den_pos d l hd, tdiv_abs _ _, fun j => ?_⟩
  · rw [map_getD _ (by simp)]
    by_cases hj : j < l.length
    · rw [List.getElem?_eq_getElem hj, Option.getD_some]
      exact (Int.mul_tdiv_cancel' (byOf_dvd_l d l _ (List.getElem_mem hj))).symm
    · rw [List.getElem?_eq_none (by omega)]; simp
  · rw [map_getD _ (by simp)]
    exact tdiv_abs _ _

theorem atF_lt (at' : List Int) (N m : Nat) (h : rightB at' m N = true) (k : Nat) (hk : k < m) : atF at' k < N := by
  have := (right_all at' m N h).2 k hk
  unfold atF
  omega

theorem atF_rise (at' : List Int) (N m : Nat) (h : rightB at' m N = true) (k : Nat) (hk : k < m) : ∀ i, i < k → atF at' i < atF at' k := by
  unfold rightB at h
  simp only [Bool.and_eq_true, beq_iff_eq] at h
  induction k with
  | zero => intro i hi; omega
  | succ k ih =>
    intro i hi
    have h1 := okN_all at' N m h.2 (k + 1) hk
    have h2 := okN_all at' N m h.2 k (by omega)
    have h3 := leastN_nonneg at' N m h.2 k (by omega)
    have e : leastN at' (k + 1) = at'[k]?.getD 0 + 1 := rfl
    have : atF at' k < atF at' (k + 1) := by unfold atF; omega
    by_cases hik : i = k
    · subst hik; exact this
    · have := ih (by omega) i (by omega)
      omega

theorem spread_len (N : Nat) (at' s : List Int) (k : Nat) : (spreadN N at' s k).length = N := by
  induction k with
  | zero => simp [spreadN]
  | succ k ih => unfold spreadN; simpa using ih

theorem spread_not (N : Nat) (at' s : List Int) (k : Nat) (j : Nat) (h : ∀ i, i < k → atF at' i ≠ j) : (spreadN N at' s k)[j]?.getD 0 = 0 := by
  induction k with
  | zero => unfold spreadN; rw [List.getElem?_replicate]; split <;> simp
  | succ k ih =>
    unfold spreadN
    rw [List.getElem?_set, if_neg (h k (by omega))]
    exact ih fun i hi => h i (by omega)

theorem sum_set (f : Nat → Int) (l : List Int) (q : Nat) (v : Int) (n : Nat) (hq : q < l.length) (h0 : l[q]?.getD 0 = 0) : sumN (fun j => f j * (l.set q v)[j]?.getD 0) n = sumN (fun j => f j * l[j]?.getD 0) n + (if q < n then f q * v else 0) := by
  induction n with
  | zero => simp [sumN]
  | succ n ih =>
    unfold sumN
    rw [ih]
    by_cases hqn : q = n
    · subst hqn
      rw [if_neg (by omega), if_pos (by omega), List.getElem?_set, if_pos rfl, if_pos hq, Option.getD_some, h0]
      omega
    · rw [List.getElem?_set, if_neg hqn]
      by_cases h1 : q < n
      · rw [if_pos h1, if_pos (by omega)]; omega
      · rw [if_neg h1, if_neg (by omega)]; omega

theorem spread_sum (f : Nat → Int) (N : Nat) (at' s : List Int) (m : Nat) (hr : rightB at' m N = true) : ∀ k, k ≤ m → sumN (fun j => f j * (spreadN N at' s k)[j]?.getD 0) N = sumN (fun i => f (atF at' i) * s[i]?.getD 0) k := by
  intro k hk
  induction k with
  | zero =>
    refine Eq.trans (sumN_congr _ (fun _ => 0) _ fun j _ => ?_) (sumN_zero _)
    rw [spread_not N at' s 0 j fun i hi => absurd hi (Nat.not_lt_zero _)]; simp
  | succ k ih =>
    have hlt := atF_lt at' N m hr k (by omega)
    have e : sumN (fun j => f j * (spreadN N at' s (k + 1))[j]?.getD 0) N = sumN (fun j => f j * ((spreadN N at' s k).set (atF at' k) (s[k]?.getD 0))[j]?.getD 0) N := rfl
    rw [e, sum_set f _ _ _ _ (by rw [spread_len]; exact hlt) (spread_not N at' s k _ fun i hi => by have := atF_rise at' N m hr k (by omega) i hi; omega), if_pos hlt, ih (by omega)]
    rfl

theorem sumN_split (f : Nat → Int) (a b : Nat) : sumN f (a + b) = sumN f a + sumN (fun i => f (a + i)) b := by
  induction b with
  | zero => simp [sumN]
  | succ b ih =>
    show sumN f (a + b) + f (a + b) = sumN f a + (sumN (fun i => f (a + i)) b + f (a + b))
    rw [ih]; omega

theorem sum_one (g : Nat → Int) (i n : Nat) (hi : i < n) : sumN (fun j => (if j = i then 1 else 0) * g j) n = g i := by
  induction n with
  | zero => omega
  | succ n ih =>
    unfold sumN
    by_cases h : i = n
    · subst h
      rw [if_pos rfl, Int.one_mul]
      have : sumN (fun j => (if j = i then 1 else 0) * g j) i = 0 := Eq.trans (sumN_congr _ (fun _ => 0) _ fun j hj => by rw [if_neg (by omega)]; simp) (sumN_zero _)
      omega
    · rw [ih (by omega), if_neg (by omega)]; omega

theorem getD_lt0 (l : List Int) (n j : Nat) (h : l.length = n) (hj : ¬ j < n) : l[j]?.getD 0 = 0 := by rw [List.getElem?_eq_none (by omega)]; rfl

theorem chosen_bd12 (p : Lp) (at' : List Int) (m : Nat) (hmay : p.may = true) : BdL 12 (chosenL p at' m) := by
  intro i j
  unfold chosenL
  rw [at2_range]
  split
  · rw [range_getD]
    split
    · exact hasF_bd p hmay (atF at' i) j
    · omega
  · omega

/-- What all columns are, each times what it has in row i, comes to the row's most. -/
theorem comes_row (p : Lp) (at' : List Int) (m n : Nat) (hmay : p.may = true) (hm : m = p.rows.length) (hn : n = p.costs.length) (hr : rightB at' m (n + m) = true) (i : Nat) (hi : i < m) : dotN (p.rows[i]?.getD ([], 0)).1 (xL p at' m (n + m)) n + (xL p at' m (n + m))[n + i]?.getD 0 = mostF p i * denL p at' m := by
  have h1 : 1 ≤ m := by have := (p.may_of hmay).2.2.1.1; omega
  have h4 : m ≤ 4 := by have := (p.may_of hmay).2.2.1.2; omega
  have hc := cramer m (chosenL p at' m) (mostsL p m) (chosen_sq p at' m) (by simp [mostsL]) h1 h4 i hi
  have e0 : (mostsL p m)[i]?.getD 0 = mostF p i := by unfold mostsL; rw [range_getD, if_pos hi]
  rw [e0] at hc
  unfold crm at hc
  rw [dotN_sum] at hc
  have hs := spread_sum (fun j => hasF p j i) (n + m) at' (sharesL (chosenL p at' m) (mostsL p m) m) m hr m (Nat.le_refl _)
  have e1 : sumN (fun k => (sharesL (chosenL p at' m) (mostsL p m) m)[k]?.getD 0 * ((List.range m).map fun k => at2 (chosenL p at' m) k i)[k]?.getD 0) m = sumN (fun k => hasF p (atF at' k) i * (sharesL (chosenL p at' m) (mostsL p m) m)[k]?.getD 0) m := by
    refine sumN_congr _ _ _ fun k hk => ?_
    rw [range_getD, if_pos hk, Int.mul_comm]
    congr 1
    unfold chosenL
    exact at2_grid (fun k i => hasF p (atF at' k) i) m k i hk hi
  rw [e1, ← hs, sumN_split] at hc
  have e2 : sumN (fun j => hasF p j i * (xL p at' m (n + m))[j]?.getD 0) n = dotN (p.rows[i]?.getD ([], 0)).1 (xL p at' m (n + m)) n := by
    rw [dotN_sum]
    exact sumN_congr _ _ _ fun j hj => by rw [hasF_in p j i _ rfl (by omega)]
  have e3 : sumN (fun k => hasF p (n + k) i * (xL p at' m (n + m))[n + k]?.getD 0) m = (xL p at' m (n + m))[n + i]?.getD 0 := by
    rw [← sum_one (fun k => (xL p at' m (n + m))[n + k]?.getD 0) i m hi]
    refine sumN_congr _ _ _ fun k _ => ?_
    by_cases h : k = i
    · subst h; rw [if_pos rfl, hasF_one p (n + k) k (by omega)]
    · rw [if_neg h, hasF_zero p (n + k) i (by omega) (by omega)]
  rw [← e2, ← e3]
  show _ = mostF p i * vol (chosenL p at' m) none4
  rw [Int.mul_comm]
  exact hc

/-- What the variables are worth is what the rows are. -/
theorem comes_worth (p : Lp) (at' : List Int) (m n : Nat) (hmay : p.may = true) (hm : m = p.rows.length) (hn : n = p.costs.length) (hr : rightB at' m (n + m) = true) : dotN p.costs (xL p at' m (n + m)) n = dotN (mostsL p m) (priceL p at' m) m := by
  have h1 : 1 ≤ m := by have := (p.may_of hmay).2.2.1.1; omega
  have h4 : m ≤ 4 := by have := (p.may_of hmay).2.2.1.2; omega
  have hp := prices m (chosenL p at' m) (worthsL p at' m) (mostsL p m) (chosen_sq p at' m) (by simp [worthsL]) (by simp [mostsL]) h1 h4
  have hs := spread_sum (fun j => p.costs[j]?.getD 0) (n + m) at' (sharesL (chosenL p at' m) (mostsL p m) m) m hr m (Nat.le_refl _)
  rw [sumN_split] at hs
  have e2 : sumN (fun k => p.costs[n + k]?.getD 0 * (spreadN (n + m) at' (sharesL (chosenL p at' m) (mostsL p m) m) m)[n + k]?.getD 0) m = 0 := by
    refine Eq.trans (sumN_congr _ (fun _ => 0) _ fun k _ => ?_) (sumN_zero _)
    rw [getD_lt0 p.costs n (n + k) hn.symm (by omega)]; simp
  rw [e2, Int.add_zero, ← dotN_sum] at hs
  have e3 : dotN (worthsL p at' m) (sharesL (chosenL p at' m) (mostsL p m) m) m = sumN (fun i => p.costs[atF at' i]?.getD 0 * (sharesL (chosenL p at' m) (mostsL p m) m)[i]?.getD 0) m := by
    rw [dotN_sum]
    exact sumN_congr _ _ _ fun k hk => by unfold worthsL; rw [range_getD, if_pos hk]
  show dotN p.costs (spreadN (n + m) at' (sharesL (chosenL p at' m) (mostsL p m) m) m) n = dotN (mostsL p m) (sharesL (turnL (chosenL p at' m)) (worthsL p at' m) m) m
  rw [hs, hp, e3]

/-- The columns that are chosen gain nothing. -/
theorem comes_gain (p : Lp) (at' : List Int) (m n : Nat) (hmay : p.may = true) (hm : m = p.rows.length) (hr : rightB at' m (n + m) = true) (k : Nat) (hk : k < m) : (gainL p at' m (n + m))[atF at' k]?.getD 0 = 0 := by
  have h1 : 1 ≤ m := by have := (p.may_of hmay).2.2.1.1; omega
  have h4 : m ≤ 4 := by have := (p.may_of hmay).2.2.1.2; omega
  have hsq := turn_sq _ m (chosen_sq p at' m)
  have hc := cramer m (turnL (chosenL p at' m)) (worthsL p at' m) hsq (by simp [worthsL]) h1 h4 k hk
  rw [vol_turn m _ (chosen_sq p at' m) h1 h4] at hc
  have e0 : (worthsL p at' m)[k]?.getD 0 = p.costs[atF at' k]?.getD 0 := by unfold worthsL; rw [range_getD, if_pos hk]
  rw [e0] at hc
  unfold gainL
  rw [range_getD, if_pos (atF_lt at' (n + m) m hr k hk)]
  unfold gainF
  rw [← hm]
  have e1 : dotN ((List.range m).map (hasF p (atF at' k))) (priceL p at' m) m = crm (turnL (chosenL p at' m)) (worthsL p at' m) m k := by
    unfold crm
    rw [dotN_sum, dotN_sum]
    refine sumN_congr _ _ _ fun i hi => ?_
    rw [range_getD, if_pos hi, range_getD, if_pos hi, Int.mul_comm]
    congr 1
    rw [← down_turn]
    exact (at2_grid (fun i k => hasF p (atF at' k) i) m i k hi hk).symm
  rw [e1, hc]
  show p.costs[atF at' k]?.getD 0 * vol (chosenL p at' m) none4 - vol (chosenL p at' m) none4 * p.costs[atF at' k]?.getD 0 = 0
  rw [Int.mul_comm]; omega

theorem hasF_bdx (p : Lp) (hmay : p.may = true) (m j : Nat) : ∀ i : Nat, -12 ≤ ((List.range m).map (hasF p j))[i]?.getD 0 ∧ ((List.range m).map (hasF p j))[i]?.getD 0 ≤ 12 := by
  intro i
  rw [range_getD]
  split
  · exact hasF_bd p hmay j i
  · omega

theorem den_bd12 (p : Lp) (at' : List Int) (m : Nat) (hmay : p.may = true) (h1 : 1 ≤ m) (h4 : m ≤ 4) : -497664 ≤ denL p at' m ∧ denL p at' m ≤ 497664 :=
  vol_bd12 m _ (chosen_sq p at' m) h1 h4 (chosen_bd12 p at' m hmay)

/-- Sums of costs, each times a share of numbers up to 12. -/
theorem worth_shares_bd (p : Lp) (at' : List Int) (m : Nat) (hmay : p.may = true) (h1 : 1 ≤ m) (h4 : m ≤ 4) (a : List Int) (ha : a.length = m) (hab : ∀ j : Nat, -12 ≤ a[j]?.getD 0 ∧ a[j]?.getD 0 ≤ 12) :
    -796262400 ≤ dotN (worthsL p at' m) (sharesL (chosenL p at' m) a m) m ∧ dotN (worthsL p at' m) (sharesL (chosenL p at' m) a m) m ≤ 796262400 := by
  have := dotN_bd (worthsL p at' m) (sharesL (chosenL p at' m) a m) 400 497664 (worths_bd p hmay at' m) (shares_bd12 m _ a (chosen_sq p at' m) ha h1 h4 (chosen_bd12 p at' m hmay) hab) m
  omega

theorem gain_bd (p : Lp) (at' : List Int) (m N : Nat) (hmay : p.may = true) (hm : m = p.rows.length) : ∀ j : Nat, -1073741824 ≤ (gainL p at' m N)[j]?.getD 0 ∧ (gainL p at' m N)[j]?.getD 0 ≤ 1073741824 := by
  intro j
  have h1 : 1 ≤ m := by have := (p.may_of hmay).2.2.1.1; omega
  have h4 : m ≤ 4 := by have := (p.may_of hmay).2.2.1.2; omega
  unfold gainL
  rw [range_getD]
  split
  · unfold gainF
    rw [← hm]
    have hp := prices m (chosenL p at' m) (worthsL p at' m) ((List.range m).map (hasF p j)) (chosen_sq p at' m) (by simp [worthsL]) (by simp) h1 h4
    have hb := worth_shares_bd p at' m hmay h1 h4 ((List.range m).map (hasF p j)) (by simp) (hasF_bdx p hmay m j)
    rw [← hp] at hb
    have hc := mul_bd2 _ _ _ _ (withinB_iff _ _ (p.may_of hmay).2.1 (by omega) j) (den_bd12 p at' m hmay h1 h4)
    show -1073741824 ≤ p.costs[j]?.getD 0 * denL p at' m - dotN ((List.range m).map (hasF p j)) (sharesL (turnL (chosenL p at' m)) (worthsL p at' m) m) m ∧ p.costs[j]?.getD 0 * denL p at' m - dotN ((List.range m).map (hasF p j)) (sharesL (turnL (chosenL p at' m)) (worthsL p at' m) m) m ≤ 1073741824
    omega
  · omega

theorem unit_bd (m k : Nat) : ∀ j : Nat, -12 ≤ ((List.range m).map fun i => if i = k then (1 : Int) else 0)[j]?.getD 0 ∧ ((List.range m).map fun i => if i = k then (1 : Int) else 0)[j]?.getD 0 ≤ 12 := by
  intro j
  rw [range_getD]
  split
  · split <;> omega
  · omega

theorem price_bd2 (p : Lp) (at' : List Int) (m : Nat) (hmay : p.may = true) (hm : m = p.rows.length) : ∀ j : Nat, -796262400 ≤ (priceL p at' m)[j]?.getD 0 ∧ (priceL p at' m)[j]?.getD 0 ≤ 796262400 := by
  intro j
  have h1 : 1 ≤ m := by have := (p.may_of hmay).2.2.1.1; omega
  have h4 : m ≤ 4 := by have := (p.may_of hmay).2.2.1.2; omega
  by_cases hj : j < m
  · have hp := prices m (chosenL p at' m) (worthsL p at' m) ((List.range m).map fun i => if i = j then (1 : Int) else 0) (chosen_sq p at' m) (by simp [worthsL]) (by simp) h1 h4
    have hb := worth_shares_bd p at' m hmay h1 h4 ((List.range m).map fun i => if i = j then (1 : Int) else 0) (by simp) (unit_bd m j)
    rw [← hp, dotN_sum] at hb
    have e : sumN (fun i => ((List.range m).map fun i => if i = j then (1 : Int) else 0)[i]?.getD 0 * (sharesL (turnL (chosenL p at' m)) (worthsL p at' m) m)[i]?.getD 0) m = (priceL p at' m)[j]?.getD 0 := by
      rw [← sum_one (fun i => (priceL p at' m)[i]?.getD 0) j m hj]
      exact sumN_congr _ _ _ fun i hi => by rw [range_getD, if_pos hi]; rfl
    rw [e] at hb
    exact hb
  · rw [getD_lt0 (priceL p at' m) m j (by unfold priceL sharesL; simp) hj]; omega

theorem x_bd (p : Lp) (at' : List Int) (m N : Nat) (hmay : p.may = true) (hm : m = p.rows.length) : ∀ j : Nat, -497664 ≤ (xL p at' m N)[j]?.getD 0 ∧ (xL p at' m N)[j]?.getD 0 ≤ 497664 := by
  have h1 : 1 ≤ m := by have := (p.may_of hmay).2.2.1.1; omega
  have h4 : m ≤ 4 := by have := (p.may_of hmay).2.2.1.2; omega
  have hs := shares_bd12 m (chosenL p at' m) (mostsL p m) (chosen_sq p at' m) (by simp [mostsL]) h1 h4 (chosen_bd12 p at' m hmay) (fun j => by
    unfold mostsL
    rw [range_getD]
    split
    · rename_i hj
      exact (p.row_of hmay j (by omega)).2.2
    · omega)
  unfold xL
  generalize sharesL (chosenL p at' m) (mostsL p m) m = s at *
  have key : ∀ k, ∀ j : Nat, -497664 ≤ (spreadN N at' s k)[j]?.getD 0 ∧ (spreadN N at' s k)[j]?.getD 0 ≤ 497664 := by
    intro k
    induction k with
    | zero => intro j; unfold spreadN; rw [List.getElem?_replicate]; split <;> simp
    | succ k ih =>
      intro j
      unfold spreadN
      rw [List.getElem?_set]
      split
      · split
        · exact hs k
        · simp
      · exact ih j
  exact key m

/-- A corner that has one way: its three points, each of its own numbers times one number, and what they come to. -/
theorem look_comes (p : Lp) (at' : List Int) (m n : Nat) (hmay : p.may = true) (hm : m = p.rows.length) (hn : n = p.costs.length) (hr : rightB at' m (n + m) = true) (hd : denL p at' m ≠ 0) :
    (look p at').err = 0 ∧ (look p at').x.length = n + m ∧ (look p at').y.length = m ∧ (look p at').g.length = n + m ∧
    (1 ≤ (look p at').xd ∧ (look p at').xd ≤ 497664) ∧ (1 ≤ (look p at').yd ∧ (look p at').yd ≤ 497664) ∧
    (∀ j : Nat, -497664 ≤ (look p at').x[j]?.getD 0 ∧ (look p at').x[j]?.getD 0 ≤ 497664) ∧ (∀ j : Nat, -796262400 ≤ (look p at').y[j]?.getD 0 ∧ (look p at').y[j]?.getD 0 ≤ 796262400) ∧
    (∀ i, i < m → dotN (p.rows[i]?.getD ([], 0)).1 (look p at').x n + (look p at').x[n + i]?.getD 0 = (p.rows[i]?.getD ([], 0)).2 * (look p at').xd) ∧
    (∀ k, k < m → (look p at').g[atF at' k]?.getD 0 = 0) ∧
    dotN p.costs (look p at').x n * (look p at').yd = dotN (mostsL p m) (look p at').y m * (look p at').xd := by
  have h1 : 1 ≤ m := by have := (p.may_of hmay).2.2.1.1; omega
  have h4 : m ≤ 4 := by have := (p.may_of hmay).2.2.1.2; omega
  have hn4 : n ≤ 4 := by have := (p.may_of hmay).1.2; omega
  have hden := den_bd12 p at' m hmay h1 h4
  have xb := x_bd p at' m (n + m) hmay hm
  have yb := price_bd2 p at' m hmay hm
  have gb := gain_bd p at' m (n + m) hmay hm
  obtain ⟨gx, gx0, _, xlen, xeq, xdeq, xd1, xdb, xab⟩ := pt_ok (xL p at' m (n + m)) (denL p at' m) hd (by omega) (fun j => by have := xb j; omega) (by unfold xL; rw [spread_len]; omega)
  obtain ⟨gy, gy0, _, ylen, yeq, ydeq, yd1, ydb, yab⟩ := pt_ok (priceL p at' m) (denL p at' m) hd (by omega) (fun j => by have := yb j; omega) (by unfold priceL sharesL; simp; omega)
  obtain ⟨gg, gg0, _, glen, geq, _, _, _, _⟩ := pt_ok (gainL p at' m (n + m)) (denL p at' m) hd (by omega) gb (by unfold gainL; simp; omega)
  have hl := look_some p at' hmay (by rw [← hm, ← hn]; exact hr) (by rw [← hm]; exact hd) m (n + m) hm (by rw [← hm, ← hn])
  have hrow := comes_row p at' m n hmay hm hn hr
  have hworth := comes_worth p at' m n hmay hm hn hr
  have hgain := comes_gain p at' m n hmay hm hr
  rw [hl]
  dsimp only
  generalize (pt (xL p at' m (n + m)) (denL p at' m)).1 = X at *
  generalize (pt (xL p at' m (n + m)) (denL p at' m)).2.1 = XD at *
  generalize (pt (priceL p at' m) (denL p at' m)).1 = Y at *
  generalize (pt (priceL p at' m) (denL p at' m)).2.1 = YD at *
  generalize (pt (gainL p at' m (n + m)) (denL p at' m)).1 = G at *
  have hxl : (xL p at' m (n + m)).length = n + m := by unfold xL; exact spread_len _ _ _ _
  have hyl : (priceL p at' m).length = m := by unfold priceL sharesL; simp
  have hgl : (gainL p at' m (n + m)).length = n + m := by unfold gainL; simp
  have dotx : ∀ (c : List Int) (k : Nat), dotN c (xL p at' m (n + m)) k = gx * dotN c X k := by
    intro c k
    rw [dotN_sum, dotN_sum, ← sumN_mul]
    exact sumN_congr _ _ _ fun i _ => by rw [xeq i]; simp only [Int.mul_left_comm]
  have doty : ∀ (c : List Int) (k : Nat), dotN c (priceL p at' m) k = gy * dotN c Y k := by
    intro c k
    rw [dotN_sum, dotN_sum, ← sumN_mul]
    exact sumN_congr _ _ _ fun i _ => by rw [yeq i]; simp only [Int.mul_left_comm]
  refine ⟨rfl, by omega, by omega, by omega, ⟨xd1, by omega⟩, ⟨yd1, by omega⟩, fun j => ?_, fun j => ?_, fun i hi => ?_, fun k hk => ?_, ?_⟩
  · have := xb j; have := xab j; omega
  · have := yb j; have := yab j; omega
  · have h := hrow i hi
    rw [dotx, xeq (n + i), xdeq] at h
    have e : gx * (dotN (p.rows[i]?.getD ([], 0)).1 X n + X[n + i]?.getD 0) = gx * ((p.rows[i]?.getD ([], 0)).2 * XD) := by
      rw [Int.mul_add, h]
      show mostF p i * (gx * XD) = gx * (mostF p i * XD)
      simp only [Int.mul_left_comm]
    exact Int.eq_of_mul_eq_mul_left gx0 e
  · have h := hgain k hk
    rw [geq] at h
    rcases Int.mul_eq_zero.1 h with h | h
    · exact absurd h gg0
    · exact h
  · rw [dotx, doty] at hworth
    generalize dotN p.costs X n = A at *
    generalize dotN (mostsL p m) Y m = B at *
    -- gx * A = gy * B, gx * XD = gy * YD
    have hdd : gx * XD = gy * YD := xdeq.symm.trans ydeq
    have e : (gx * gy) * (A * YD) = (gx * gy) * (B * XD) := by
      have e1 : (gx * gy) * (A * YD) = (gx * A) * (gy * YD) := by simp only [Int.mul_comm, Int.mul_left_comm]
      have e2 : (gx * gy) * (B * XD) = (gy * B) * (gx * XD) := by simp only [Int.mul_comm, Int.mul_left_comm]
      rw [e1, e2, hworth, hdd]
    exact Int.eq_of_mul_eq_mul_left (Int.mul_ne_zero gx0 gy0) e

end Num
end Go.Proofs.Ytipcbhodlgoflab

/- A walk whose entering column is the least that gains, and whose leaving column is the least among the nearest, never comes back: in plain numbers. -/
namespace Go.Proofs.Ytipcbhodlgoflab
namespace Num

/-- Steps 0 to K - 1 of a walk: the columns in (B), the numbers of the corner (x over X), the gains (g over G, with prices y), the way along which the entering column s grows (d), the leaving column o. -/
structure Steps (N m : Nat) (c : Nat → Int) (a : Nat → Nat → Int) (B : Nat → Nat → Bool) (x : Nat → Nat → Int) (X : Nat → Int) (g : Nat → Nat → Int) (G : Nat → Int) (y : Nat → Nat → Int) (d : Nat → Nat → Int) (s o : Nat → Nat) (K : Nat) : Prop where
  X0 : ∀ k, k ≤ K → 0 < X k
  G0 : ∀ k, k < K → 0 < G k
  xb : ∀ k j, k ≤ K → 0 ≤ x k j
  gb : ∀ k j, k < K → B k j = true → g k j = 0
  gy : ∀ k j, k < K → j < N → g k j = G k * c j - sumN (fun i => y k i * a i j) m
  dz : ∀ k i, k < K → i < m → sumN (fun j => a i j * d k j) N = 0
  db : ∀ k j, k < K → B k j = false → j ≠ s k → d k j = 0
  ds : ∀ k, k < K → 0 < d k (s k)
  sN : ∀ k, k < K → s k < N
  sg : ∀ k, k < K → 0 < g k (s k)
  sl : ∀ k j, k < K → j < s k → g k j ≤ 0
  oN : ∀ k, k < K → o k < N
  ob : ∀ k, k < K → B k (o k) = true
  od : ∀ k, k < K → d k (o k) < 0
  ol : ∀ k j, k < K → B k j = true → d k j < 0 → x k (o k) * (-(d k j)) = x k j * (-(d k (o k))) → o k ≤ j
  bs : ∀ k j, k < K → B (k + 1) j = (if j = s k then true else if j = o k then false else B k j)
  xs : ∀ k j, k < K → j < N → x (k + 1) j * X k * (-(d k (o k))) = X (k + 1) * (x k j * (-(d k (o k))) + x k (o k) * d k j)

theorem sumN_only (f : Nat → Int) (q n : Nat) (hq : q < n) (h : ∀ j, j < n → j ≠ q → f j = 0) : sumN f n = f q := by
  induction n with
  | zero => omega
  | succ n ih =>
    show sumN f n + f n = f q
    by_cases hn : q = n
    · subst hn
      have : sumN f q = sumN (fun _ => 0) q := sumN_congr _ _ _ fun i hi => h i (by omega) (by omega)
      rw [this, sumN_zero]; omega
    · rw [ih (by omega) fun j hj hne => h j (by omega) hne, h n (by omega) (by omega)]; omega

theorem sumN_pos_some (f : Nat → Int) (n : Nat) (h : 0 < sumN f n) : ∃ j, j < n ∧ 0 < f j := by
  induction n with
  | zero => simp [sumN] at h
  | succ n ih =>
    by_cases hp : 0 < f n
    · exact ⟨n, by omega, hp⟩
    · have h' : 0 < sumN f n + f n := h
      obtain ⟨j, hj, hf⟩ := ih (by omega)
      exact ⟨j, by omega, hf⟩

theorem most_at (f : Nat → Nat) (a : Nat) : ∀ b, a < b → ∃ q, a ≤ q ∧ q < b ∧ ∀ r, a ≤ r → r < b → f r ≤ f q := by
  intro b
  induction b with
  | zero => intro h; omega
  | succ b ih =>
    intro h
    by_cases hab : a < b
    · obtain ⟨q, h1, h2, h3⟩ := ih hab
      by_cases hf : f b ≤ f q
      · refine ⟨q, h1, by omega, fun r hr hr2 => ?_⟩
        by_cases hrb : r = b
        · subst hrb; exact hf
        · exact h3 r hr (by omega)
      · refine ⟨b, by omega, by omega, fun r hr hr2 => ?_⟩
        by_cases hrb : r = b
        · subst hrb; omega
        · have := h3 r hr (by omega); omega
    · refine ⟨a, by omega, by omega, fun r hr hr2 => ?_⟩
      have : r = a := by omega
      subst this; omega

namespace Steps
variable {N m : Nat} {c : Nat → Int} {a : Nat → Nat → Int} {B : Nat → Nat → Bool} {x : Nat → Nat → Int} {X : Nat → Int} {g : Nat → Nat → Int} {G : Nat → Int} {y : Nat → Nat → Int} {d : Nat → Nat → Int} {s o : Nat → Nat} {K : Nat}

theorem cross (h : Steps N m c a B x X g G y d s o K) (k l : Nat) (hk : k < K) (hl : l < K) : sumN (fun j => g k j * d l j) N = G k * sumN (fun j => c j * d l j) N := by
  have e1 : sumN (fun j => g k j * d l j) N = sumN (fun j => G k * (c j * d l j) + (-1) * sumN (fun i => y k i * (a i j * d l j)) m) N := by
    refine sumN_congr _ _ _ fun j hj => ?_
    have e2 : sumN (fun i => y k i * (a i j * d l j)) m = d l j * sumN (fun i => y k i * a i j) m := by
      rw [← sumN_mul]; exact sumN_congr _ _ _ fun i _ => by grind
    rw [e2, h.gy k j hk hj]; grind
  have e3 : sumN (fun j => sumN (fun i => y k i * (a i j * d l j)) m) N = 0 := by
    rw [sumN_swap]
    have : sumN (fun i => sumN (fun j => y k i * (a i j * d l j)) N) m = sumN (fun _ => 0) m := by
      refine sumN_congr _ _ _ fun i hi => ?_
      rw [sumN_mul, h.dz l i hl hi]; grind
    rw [this, sumN_zero]
  rw [e1, sumN_add, sumN_mul, sumN_mul, e3]; omega

theorem rise (h : Steps N m c a B x X g G y d s o K) (k : Nat) (hk : k < K) : 0 < sumN (fun j => c j * d k j) N := by
  have h1 := h.cross k k hk hk
  rw [sumN_only (fun j => g k j * d k j) (s k) N (h.sN k hk) fun j _ hne => by
    cases hB : B k j with
    | true => show g k j * d k j = 0; rw [h.gb k j hk hB]; omega
    | false => show g k j * d k j = 0; rw [h.db k j hk hB hne]; omega] at h1
  have h2 : 0 < g k (s k) * d k (s k) := Int.mul_pos (h.sg k hk) (h.ds k hk)
  have h3 := h.G0 k hk
  generalize sumN (fun j => c j * d k j) N = W at *
  by_cases hW : 0 < W
  · exact hW
  · have : G k * W ≤ 0 := Int.mul_nonpos_of_nonneg_of_nonpos (by omega) (by omega)
    have h1' : g k (s k) * d k (s k) = G k * W := h1
    omega

theorem worth (h : Steps N m c a B x X g G y d s o K) (k : Nat) (hk : k < K) : sumN (fun j => c j * x (k + 1) j) N * X k * (-(d k (o k))) = X (k + 1) * (sumN (fun j => c j * x k j) N * (-(d k (o k))) + x k (o k) * sumN (fun j => c j * d k j) N) := by
  have e : sumN (fun j => (X k * (-(d k (o k)))) * (c j * x (k + 1) j)) N = sumN (fun j => (X (k + 1) * (-(d k (o k)))) * (c j * x k j) + (X (k + 1) * x k (o k)) * (c j * d k j)) N := by
    refine sumN_congr _ _ _ fun j hj => ?_
    have := h.xs k j hk hj
    grind
  rw [sumN_mul, sumN_add, sumN_mul, sumN_mul] at e
  grind

theorem not_less (h : Steps N m c a B x X g G y d s o K) (k : Nat) (hk : k < K) : sumN (fun j => c j * x k j) N * X (k + 1) ≤ sumN (fun j => c j * x (k + 1) j) N * X k ∧ (0 < x k (o k) → sumN (fun j => c j * x k j) N * X (k + 1) < sumN (fun j => c j * x (k + 1) j) N * X k) := by
  have h1 := h.worth k hk
  have h2 := h.rise k hk
  have h3 := h.od k hk
  have h4 := h.X0 (k + 1) hk
  have h5 := h.xb k (o k) (by omega)
  generalize sumN (fun j => c j * d k j) N = W at *
  generalize sumN (fun j => c j * x k j) N = z at *
  generalize sumN (fun j => c j * x (k + 1) j) N = z' at *
  generalize hD : -(d k (o k)) = D at *
  have hDp : 0 < D := by omega
  have e : (z' * X k - z * X (k + 1)) * D = X (k + 1) * (x k (o k) * W) := by grind
  have p0 : 0 ≤ X (k + 1) * (x k (o k) * W) := Int.mul_nonneg (by omega) (Int.mul_nonneg h5 (by omega))
  refine ⟨?_, fun hx => ?_⟩
  · by_cases hn : 0 ≤ z' * X k - z * X (k + 1)
    · omega
    · have : (z' * X k - z * X (k + 1)) * D < 0 := Int.mul_neg_of_neg_of_pos (by omega) hDp
      omega
  · have p1 : 0 < X (k + 1) * (x k (o k) * W) := Int.mul_pos h4 (Int.mul_pos hx h2)
    by_cases hn : 0 < z' * X k - z * X (k + 1)
    · omega
    · have : (z' * X k - z * X (k + 1)) * D ≤ 0 := Int.mul_nonpos_of_nonpos_of_nonneg (by omega) (by omega)
      omega

end Steps

theorem frac_trans (z1 X1 z2 X2 z3 X3 : Int) (h1 : 0 < X1) (h2 : 0 < X2) (h3 : 0 < X3) (ha : z1 * X2 ≤ z2 * X1) (hb : z2 * X3 ≤ z3 * X2) : z1 * X3 ≤ z3 * X1 ∧ (z1 * X2 < z2 * X1 ∨ z2 * X3 < z3 * X2 → z1 * X3 < z3 * X1) := by
  have e : (z3 * X1 - z1 * X3) * X2 = (z3 * X2 - z2 * X3) * X1 + (z2 * X1 - z1 * X2) * X3 := by grind
  have p1 : 0 ≤ (z3 * X2 - z2 * X3) * X1 := Int.mul_nonneg (by omega) (by omega)
  have p2 : 0 ≤ (z2 * X1 - z1 * X2) * X3 := Int.mul_nonneg (by omega) (by omega)
  refine ⟨?_, fun hs => ?_⟩
  · by_cases hn : 0 ≤ z3 * X1 - z1 * X3
    · omega
    · have : (z3 * X1 - z1 * X3) * X2 < 0 := Int.mul_neg_of_neg_of_pos (by omega) h2
      omega
  · have p3 : 0 < (z3 * X2 - z2 * X3) * X1 + (z2 * X1 - z1 * X2) * X3 := by
      rcases hs with hs | hs
      · have : 0 < (z2 * X1 - z1 * X2) * X3 := Int.mul_pos (by omega) h3
        omega
      · have : 0 < (z3 * X2 - z2 * X3) * X1 := Int.mul_pos (by omega) h1
        omega
    by_cases hn : 0 < z3 * X1 - z1 * X3
    · omega
    · have : (z3 * X1 - z1 * X3) * X2 ≤ 0 := Int.mul_nonpos_of_nonpos_of_nonneg (by omega) (by omega)
      omega

namespace Steps
variable {N m : Nat} {c : Nat → Int} {a : Nat → Nat → Int} {B : Nat → Nat → Bool} {x : Nat → Nat → Int} {X : Nat → Int} {g : Nat → Nat → Int} {G : Nat → Int} {y : Nat → Nat → Int} {d : Nat → Nat → Int} {s o : Nat → Nat} {K : Nat}

theorem chain (h : Steps N m c a B x X g G y d s o K) (k : Nat) : ∀ l, k ≤ l → l ≤ K → sumN (fun j => c j * x k j) N * X l ≤ sumN (fun j => c j * x l j) N * X k ∧ ((∃ q, k ≤ q ∧ q < l ∧ 0 < x q (o q)) → sumN (fun j => c j * x k j) N * X l < sumN (fun j => c j * x l j) N * X k) := by
  intro l
  induction l with
  | zero =>
    intro hkl _
    obtain rfl : k = 0 := by omega
    exact ⟨by omega, fun ⟨q, _, hq, _⟩ => by omega⟩
  | succ l ih =>
    intro hkl hlK
    by_cases he : k = l + 1
    · subst he; exact ⟨by omega, fun ⟨q, hq1, hq, _⟩ => by omega⟩
    · obtain ⟨i1, i2⟩ := ih (by omega) (by omega)
      obtain ⟨n1, n2⟩ := h.not_less l (by omega)
      obtain ⟨t1, t2⟩ := frac_trans _ _ _ _ _ _ (h.X0 k (by omega)) (h.X0 l (by omega)) (h.X0 (l + 1) hlK) i1 n1
      refine ⟨t1, fun ⟨q, hq1, hq2, hq3⟩ => t2 ?_⟩
      by_cases hql : q = l
      · subst hql; exact Or.inr (n2 hq3)
      · exact Or.inl (i2 ⟨q, hq1, by omega, hq3⟩)

theorem still (h : Steps N m c a B x X g G y d s o K) (p q : Nat) (hq : q ≤ K) (he : sumN (fun j => c j * x p j) N * X q = sumN (fun j => c j * x q j) N * X p) (k : Nat) (hk : p ≤ k) (hk2 : k < q) : x k (o k) = 0 := by
  have h1 := (h.chain p q (by omega) hq).2
  have h2 := h.xb k (o k) (by omega)
  by_cases h0 : x k (o k) = 0
  · exact h0
  · have := h1 ⟨k, hk, hk2, by omega⟩
    omega

theorem zero_step (h : Steps N m c a B x X g G y d s o K) (k j : Nat) (hk : k < K) (hj : j < N) (h0 : x k (o k) = 0) : x (k + 1) j = 0 ↔ x k j = 0 := by
  have h1 := h.xs k j hk hj
  have h2 := h.X0 k (by omega)
  have h3 := h.X0 (k + 1) hk
  have h4 := h.od k hk
  rw [h0] at h1
  have h5 : x (k + 1) j * (X k * (-(d k (o k)))) = x k j * (X (k + 1) * (-(d k (o k)))) := by grind
  have p1 : 0 < X k * (-(d k (o k))) := Int.mul_pos h2 (by omega)
  have p2 : 0 < X (k + 1) * (-(d k (o k))) := Int.mul_pos h3 (by omega)
  generalize X k * (-(d k (o k))) = P at *
  generalize X (k + 1) * (-(d k (o k))) = Q at *
  constructor
  · intro hz; rw [hz, Int.zero_mul] at h5; exact (Int.mul_eq_zero.1 h5.symm).resolve_right (by omega)
  · intro hz; rw [hz, Int.zero_mul] at h5; exact (Int.mul_eq_zero.1 h5).resolve_right (by omega)

theorem zero_all (h : Steps N m c a B x X g G y d s o K) (p q : Nat) (hq : q ≤ K) (hs : ∀ k, p ≤ k → k < q → x k (o k) = 0) (j : Nat) (hj : j < N) : ∀ k, p ≤ k → k ≤ q → (x k j = 0 ↔ x p j = 0) := by
  intro k
  induction k with
  | zero => intro h1 _; obtain rfl : p = 0 := (by omega); exact Iff.rfl
  | succ k ih =>
    intro h1 h2
    by_cases he : p = k + 1
    · subst he; exact Iff.rfl
    · rw [h.zero_step k j (by omega) hj (hs k (by omega) (by omega))]
      exact ih (by omega) (by omega)

theorem goes_out (h : Steps N m c a B x X g G y d s o K) (j k : Nat) (hB : B k j = true) : ∀ l, k ≤ l → l ≤ K → B l j = false → ∃ q, k ≤ q ∧ q < l ∧ o q = j := by
  intro l
  induction l with
  | zero => intro h1 _ h3; obtain rfl : k = 0 := (by omega); rw [hB] at h3; cases h3
  | succ l ih =>
    intro h1 h2 h3
    by_cases he : k = l + 1
    · subst he; rw [hB] at h3; cases h3
    · cases hl : B l j with
      | false => obtain ⟨q, q1, q2, q3⟩ := ih (by omega) (by omega) hl; exact ⟨q, q1, by omega, q3⟩
      | true =>
        rw [h.bs l j (by omega)] at h3
        by_cases hs : j = s l
        · rw [if_pos hs] at h3; cases h3
        · rw [if_neg hs] at h3
          by_cases ho : j = o l
          · exact ⟨l, by omega, by omega, ho.symm⟩
          · rw [if_neg ho, hl] at h3; cases h3

theorem goes_in (h : Steps N m c a B x X g G y d s o K) (j k : Nat) (hB : B k j = false) : ∀ l, k ≤ l → l ≤ K → B l j = true → ∃ q, k ≤ q ∧ q < l ∧ s q = j := by
  intro l
  induction l with
  | zero => intro h1 _ h3; obtain rfl : k = 0 := (by omega); rw [hB] at h3; cases h3
  | succ l ih =>
    intro h1 h2 h3
    by_cases he : k = l + 1
    · subst he; rw [hB] at h3; cases h3
    · cases hl : B l j with
      | true => obtain ⟨q, q1, q2, q3⟩ := ih (by omega) (by omega) hl; exact ⟨q, q1, by omega, q3⟩
      | false =>
        rw [h.bs l j (by omega)] at h3
        by_cases hs : j = s l
        · exact ⟨l, by omega, by omega, hs.symm⟩
        · rw [if_neg hs] at h3
          by_cases ho : j = o l
          · rw [if_pos ho] at h3; cases h3
          · rw [if_neg ho, hl] at h3; cases h3

/-- A column that is in at one time and out at another goes out at some time, if the ends are the same. -/
theorem fickle (h : Steps N m c a B x X g G y d s o K) (p q : Nat) (hq : q ≤ K) (he : ∀ j, B p j = B q j) (j k l : Nat) (hk : p ≤ k) (hk2 : k ≤ q) (hl : p ≤ l) (hl2 : l ≤ q) (h1 : B k j = true) (h2 : B l j = false) : ∃ r, p ≤ r ∧ r < q ∧ o r = j := by
  by_cases hkl : k ≤ l
  · obtain ⟨r, r1, r2, r3⟩ := h.goes_out j k h1 l hkl (by omega) h2
    exact ⟨r, by omega, by omega, r3⟩
  · cases hb : B q j with
    | false =>
      obtain ⟨r, r1, r2, r3⟩ := h.goes_out j k h1 q hk2 hq hb
      exact ⟨r, by omega, by omega, r3⟩
    | true =>
      obtain ⟨r, r1, r2, r3⟩ := h.goes_out j p (by rw [he j]; exact hb) l hl (by omega) h2
      exact ⟨r, by omega, by omega, r3⟩

theorem never_back (h : Steps N m c a B x X g G y d s o K) (p q : Nat) (hpq : p < q) (hq : q ≤ K) (he : ∀ j, B p j = B q j) (hx : ∀ j, j < N → x p j * X q = x q j * X p) : False := by
  have hz : sumN (fun j => c j * x p j) N * X q = sumN (fun j => c j * x q j) N * X p := by
    have e : sumN (fun j => X q * (c j * x p j)) N = sumN (fun j => X p * (c j * x q j)) N := by
      refine sumN_congr _ _ _ fun j hj => ?_
      have := hx j hj
      grind
    rw [sumN_mul, sumN_mul] at e
    grind
  have hs := h.still p q hq hz
  have hza := h.zero_all p q hq hs
  have hf0 : ∀ r, p ≤ r → r < q → ∀ k, p ≤ k → k ≤ q → x k (o r) = 0 := by
    intro r r1 r2 k k1 k2
    have hN := h.oN r (by omega)
    rw [hza (o r) hN k k1 k2, ← hza (o r) hN r r1 (by omega)]
    exact hs r r1 r2
  obtain ⟨k1, a1, a2, hmax⟩ := most_at o p q hpq
  have hso : o k1 ≠ s k1 := by
    intro e
    have := h.gb k1 (o k1) (by omega) (h.ob k1 (by omega))
    have := h.sg k1 (by omega)
    rw [← e] at this
    omega
  have hsB : ∀ k, k < K → B k (s k) = false := by
    intro k hk
    cases hb : B k (s k) with
    | false => rfl
    | true => have := h.gb k (s k) hk hb; have := h.sg k hk; omega
  have hafter : B (k1 + 1) (o k1) = false := by rw [h.bs k1 _ (by omega), if_neg hso, if_pos rfl]
  obtain ⟨k2, b1, b2, b3⟩ : ∃ k2, p ≤ k2 ∧ k2 < q ∧ s k2 = o k1 := by
    cases hb : B q (o k1) with
    | true =>
      obtain ⟨r, r1, r2, r3⟩ := h.goes_in (o k1) (k1 + 1) hafter q (by omega) hq hb
      exact ⟨r, by omega, r2, r3⟩
    | false =>
      obtain ⟨r, r1, r2, r3⟩ := h.goes_in (o k1) p (by rw [he]; exact hb) k1 a1 (by omega) (h.ob k1 (by omega))
      exact ⟨r, r1, by omega, r3⟩
  have hpos : 0 < sumN (fun j => g k2 j * d k1 j) N := by
    rw [h.cross k2 k1 (by omega) (by omega)]
    exact Int.mul_pos (h.G0 k2 (by omega)) (h.rise k1 (by omega))
  obtain ⟨j, hj, hgd⟩ := sumN_pos_some _ _ hpos
  have hg0 : g k2 j ≠ 0 := by intro e; rw [e] at hgd; omega
  have hd0 : d k1 j ≠ 0 := by intro e; rw [e] at hgd; omega
  have hB2 : B k2 j = false := by
    cases hb : B k2 j with
    | false => rfl
    | true => exact absurd (h.gb k2 j (by omega) hb) hg0
  by_cases hjs : j = s k1
  · subst hjs
    have hB1 : B (k1 + 1) (s k1) = true := by rw [h.bs k1 _ (by omega), if_pos rfl]
    obtain ⟨r, r1, r2, r3⟩ := h.fickle p q hq he (s k1) (k1 + 1) k1 (by omega) (by omega) a1 (by omega) hB1 (hsB k1 (by omega))
    have hle := hmax r r1 r2
    have hdp := h.ds k1 (by omega)
    by_cases hlt : s k1 < s k2
    · have hgn := h.sl k2 (s k1) (by omega) hlt
      have : g k2 (s k1) * d k1 (s k1) ≤ 0 := Int.mul_nonpos_of_nonpos_of_nonneg hgn (by omega)
      omega
    · omega
  · have hB1 : B k1 j = true := by
      cases hb : B k1 j with
      | true => rfl
      | false => exact absurd (h.db k1 j (by omega) hb hjs) hd0
    obtain ⟨r, r1, r2, r3⟩ := h.fickle p q hq he j k1 k2 a1 (by omega) b1 (by omega) hB1 hB2
    have hle := hmax r r1 r2
    rw [r3] at hle
    by_cases hjt : j = o k1
    · subst hjt
      have h1 := h.sg k2 (by omega)
      rw [b3] at h1
      have h2 := h.od k1 (by omega)
      have : g k2 (o k1) * d k1 (o k1) < 0 := Int.mul_neg_of_pos_of_neg h1 h2
      omega
    · have hgn := h.sl k2 j (by omega) (by omega)
      have hdn : d k1 j < 0 := by
        by_cases hn : d k1 j < 0
        · exact hn
        · have : g k2 j * d k1 j ≤ 0 := Int.mul_nonpos_of_nonpos_of_nonneg hgn (by omega)
          omega
      have hx0 : x k1 j = 0 := by rw [← r3]; exact hf0 r r1 r2 k1 a1 (by omega)
      have ho0 := hs k1 a1 a2
      have := h.ol k1 j (by omega) hB1 hdn (by rw [hx0, ho0]; omega)
      omega

end Steps
end Num
end Go.Proofs.Ytipcbhodlgoflab

/- What the columns of a corner say of ways, in plain numbers: no way stays within them, and a line moved to another place turns the volume's sign at most. -/
namespace Go.Proofs.Ytipcbhodlgoflab
namespace Num

theorem indep (n : Nat) (ls : List (List Int)) (h : Sq n ls) (h1 : 1 ≤ n) (h4 : n ≤ 4) (v : Nat → Int) (hv : ∀ i, i < n → sumN (fun l => v l * at2 ls l i) n = 0) (k : Nat) (hk : k < n) : vol ls none4 * v k = 0 := by
  have hl : ls.length = n := h.1
  have hT : Sq n (turnL ls) := by
    refine ⟨by unfold turnL; simp [hl], fun r hr => ?_⟩
    unfold turnL at hr
    simp only [List.mem_map] at hr
    obtain ⟨i, _, rfl⟩ := hr
    simp [hl]
  have e0 : ∀ i l, i < n → l < n → at2 (turnL ls) i l = at2 ls l i := by
    intro i l hi hll
    unfold turnL
    rw [at2_range, if_pos (by omega), range_getD, if_pos (by omega)]
  obtain ⟨e, he⟩ : ∃ e : List Int, e = (List.range n).map fun i => if i = k then (1 : Int) else 0 := ⟨_, rfl⟩
  have hel : e.length = n := by rw [he]; simp
  obtain ⟨u, hu⟩ : ∃ u, u = sharesL (turnL ls) e n := ⟨_, rfl⟩
  have hc : ∀ l, l < n → sumN (fun i => u[i]?.getD 0 * at2 ls l i) n = vol ls none4 * (if l = k then 1 else 0) := by
    intro l hl2
    have := cramer n (turnL ls) e hT hel h1 h4 l hl2
    rw [vol_turn n ls h h1 h4] at this
    unfold crm at this
    rw [dotN_sum, ← hu] at this
    have e1 : e[l]?.getD 0 = if l = k then 1 else 0 := by rw [he, range_getD, if_pos hl2]
    rw [e1] at this
    rw [← this]
    refine sumN_congr _ _ _ fun i hi => ?_
    rw [range_getD, if_pos hi, e0 i l hi hl2]
  have t1 : sumN (fun l => v l * sumN (fun i => u[i]?.getD 0 * at2 ls l i) n) n = vol ls none4 * v k := by
    rw [sumN_only _ k n hk fun l hl2 hne => by show v l * _ = 0; rw [hc l hl2, if_neg hne]; omega]
    show v k * _ = _
    rw [hc k hk, if_pos rfl]; grind
  have t2 : sumN (fun l => v l * sumN (fun i => u[i]?.getD 0 * at2 ls l i) n) n = sumN (fun i => u[i]?.getD 0 * sumN (fun l => v l * at2 ls l i) n) n := by
    have a1 : sumN (fun l => v l * sumN (fun i => u[i]?.getD 0 * at2 ls l i) n) n = sumN (fun l => sumN (fun i => u[i]?.getD 0 * (v l * at2 ls l i)) n) n := by
      refine sumN_congr _ _ _ fun l _ => ?_
      rw [← sumN_mul]
      exact sumN_congr _ _ _ fun i _ => by grind
    rw [a1, sumN_swap]
    exact sumN_congr _ _ _ fun i _ => by rw [sumN_mul]
  have t3 : sumN (fun i => u[i]?.getD 0 * sumN (fun l => v l * at2 ls l i) n) n = 0 := by
    have : sumN (fun i => u[i]?.getD 0 * sumN (fun l => v l * at2 ls l i) n) n = sumN (fun _ => 0) n := sumN_congr _ _ _ fun i hi => by rw [hv i hi]; omega
    rw [this, sumN_zero]
  rw [← t1, t2, t3]

/-- The line at k, moved to place k'. -/
def mvL (ls : List (List Int)) (k k' : Nat) : List (List Int) := (ls.eraseIdx k).insertIdx k' (ls[k]?.getD [])

def sgn (n : Nat) : Int := if n % 2 = 0 then 1 else -1

theorem mv1 (a : Int) (i i' : Nat) (hi : i < 1) (hi' : i' < 1) : vol (mvL [[a]] i i') none4 = sgn (i + i') * vol [[a]] none4 := by
  match i, i', hi, hi' with
  | 0, 0, _, _ => simp [mvL, sgn, vol, volSum, none4] <;> grind

theorem mv2 (a b c d : Int) (i i' : Nat) (hi : i < 2) (hi' : i' < 2) : vol (mvL [[a, b], [c, d]] i i') none4 = sgn (i + i') * vol [[a, b], [c, d]] none4 := by
  match i, i', hi, hi' with
  | 0, 0, _, _ => simp [mvL, sgn, vol, volSum, none4, mark] <;> grind
  | 0, 1, _, _ => simp [mvL, sgn, vol, volSum, none4, mark] <;> grind
  | 1, 0, _, _ => simp [mvL, sgn, vol, volSum, none4, mark] <;> grind
  | 1, 1, _, _ => simp [mvL, sgn, vol, volSum, none4, mark] <;> grind

theorem mv3 (a b c d e f g h j : Int) (i i' : Nat) (hi : i < 3) (hi' : i' < 3) : vol (mvL [[a, b, c], [d, e, f], [g, h, j]] i i') none4 = sgn (i + i') * vol [[a, b, c], [d, e, f], [g, h, j]] none4 := by
  match i, i', hi, hi' with
  | 0, 0, _, _ => simp [mvL, sgn, vol, volSum, none4, mark] <;> grind
  | 0, 1, _, _ => simp [mvL, sgn, vol, volSum, none4, mark] <;> grind
  | 0, 2, _, _ => simp [mvL, sgn, vol, volSum, none4, mark] <;> grind
  | 1, 0, _, _ => simp [mvL, sgn, vol, volSum, none4, mark] <;> grind
  | 1, 1, _, _ => simp [mvL, sgn, vol, volSum, none4, mark] <;> grind
  | 1, 2, _, _ => simp [mvL, sgn, vol, volSum, none4, mark] <;> grind
  | 2, 0, _, _ => simp [mvL, sgn, vol, volSum, none4, mark] <;> grind
  | 2, 1, _, _ => simp [mvL, sgn, vol, volSum, none4, mark] <;> grind
  | 2, 2, _, _ => simp [mvL, sgn, vol, volSum, none4, mark] <;> grind

set_option maxHeartbeats 8000000 in
theorem mv4 (a b c d e f g h j k l m n o p q : Int) (i i' : Nat) (hi : i < 4) (hi' : i' < 4) : vol (mvL [[a, b, c, d], [e, f, g, h], [j, k, l, m], [n, o, p, q]] i i') none4 = sgn (i + i') * vol [[a, b, c, d], [e, f, g, h], [j, k, l, m], [n, o, p, q]] none4 := by
  match i, i', hi, hi' with
  | 0, 0, _, _ => simp [mvL, sgn, vol, volSum, none4, mark] <;> grind
  | 0, 1, _, _ => simp [mvL, sgn, vol, volSum, none4, mark] <;> grind
  | 0, 2, _, _ => simp [mvL, sgn, vol, volSum, none4, mark] <;> grind
  | 0, 3, _, _ => simp [mvL, sgn, vol, volSum, none4, mark] <;> grind
  | 1, 0, _, _ => simp [mvL, sgn, vol, volSum, none4, mark] <;> grind
  | 1, 1, _, _ => simp [mvL, sgn, vol, volSum, none4, mark] <;> grind
  | 1, 2, _, _ => simp [mvL, sgn, vol, volSum, none4, mark] <;> grind
  | 1, 3, _, _ => simp [mvL, sgn, vol, volSum, none4, mark] <;> grind
  | 2, 0, _, _ => simp [mvL, sgn, vol, volSum, none4, mark] <;> grind
  | 2, 1, _, _ => simp [mvL, sgn, vol, volSum, none4, mark] <;> grind
  | 2, 2, _, _ => simp [mvL, sgn, vol, volSum, none4, mark] <;> grind
  | 2, 3, _, _ => simp [mvL, sgn, vol, volSum, none4, mark] <;> grind
  | 3, 0, _, _ => simp [mvL, sgn, vol, volSum, none4, mark] <;> grind
  | 3, 1, _, _ => simp [mvL, sgn, vol, volSum, none4, mark] <;> grind
  | 3, 2, _, _ => simp [mvL, sgn, vol, volSum, none4, mark] <;> grind
  | 3, 3, _, _ => simp [mvL, sgn, vol, volSum, none4, mark] <;> grind

theorem moved (n : Nat) (ls : List (List Int)) (h : Sq n ls) (h1 : 1 ≤ n) (h4 : n ≤ 4) (i i' : Nat) (hi : i < n) (hi' : i' < n) : vol (mvL ls i i') none4 = sgn (i + i') * vol ls none4 := by
  obtain ⟨hl, ha⟩ := h
  match n, h1, h4 with
  | 1, _, _ =>
    obtain ⟨x, rfl⟩ := len1 ls hl
    obtain ⟨a, rfl⟩ := len1 x (ha x (by simp))
    exact mv1 a i i' hi hi'
  | 2, _, _ =>
    obtain ⟨x, y, rfl⟩ := len2 ls hl
    obtain ⟨a, b, rfl⟩ := len2 x (ha x (by simp))
    obtain ⟨c, d, rfl⟩ := len2 y (ha y (by simp))
    exact mv2 _ _ _ _ i i' hi hi'
  | 3, _, _ =>
    obtain ⟨x, y, z, rfl⟩ := len3 ls hl
    obtain ⟨a, b, c, rfl⟩ := len3 x (ha x (by simp))
    obtain ⟨d, e, f, rfl⟩ := len3 y (ha y (by simp))
    obtain ⟨g, h, j, rfl⟩ := len3 z (ha z (by simp))
    exact mv3 _ _ _ _ _ _ _ _ _ i i' hi hi'
  | 4, _, _ =>
    obtain ⟨x, y, z, u, rfl⟩ := len4 ls hl
    obtain ⟨a, b, c, d, rfl⟩ := len4 x (ha x (by simp))
    obtain ⟨e, f, g, h, rfl⟩ := len4 y (ha y (by simp))
    obtain ⟨j, k, l, m, rfl⟩ := len4 z (ha z (by simp))
    obtain ⟨n', o, p, q, rfl⟩ := len4 u (ha u (by simp))
    exact mv4 _ _ _ _ _ _ _ _ _ _ _ _ _ _ _ _ i i' hi hi'

end Num
end Go.Proofs.Ytipcbhodlgoflab

/- One column out, another in: what becomes of a corner, in plain numbers. -/
namespace Go.Proofs.Ytipcbhodlgoflab
namespace Num

theorem spread_in (N : Nat) (at' s : List Int) (m : Nat) (hr : rightB at' m N = true) : ∀ k, k ≤ m → ∀ i, i < k → (spreadN N at' s k)[atF at' i]?.getD 0 = s[i]?.getD 0 := by
  intro k
  induction k with
  | zero => intro _ i hi; omega
  | succ k ih =>
    intro hk i hi
    unfold spreadN
    by_cases hik : i = k
    · subst hik
      rw [List.getElem?_set_self (by rw [spread_len]; exact atF_lt at' N m hr i (by omega)), Option.getD_some]
    · have := atF_rise at' N m hr k (by omega) i (by omega)
      rw [List.getElem?_set, if_neg (by omega)]
      exact ih (by omega) i (by omega)

/-- Is column j among those of at? -/
def inB (at' : List Int) (m j : Nat) : Bool := (List.range m).any fun i => atF at' i == j

theorem inB_true (at' : List Int) (m j : Nat) : inB at' m j = true ↔ ∃ i, i < m ∧ atF at' i = j := by
  unfold inB
  simp [List.any_eq_true, List.mem_range]

theorem inB_false (at' : List Int) (m j : Nat) : inB at' m j = false ↔ ∀ i, i < m → atF at' i ≠ j := by
  unfold inB
  simp [List.any_eq_false, List.mem_range]

theorem sum_on (f : Nat → Int) (N : Nat) (at' : List Int) (m : Nat) (hr : rightB at' m N = true) (h : ∀ j, j < N → inB at' m j = false → f j = 0) : sumN f N = sumN (fun l => f (atF at' l)) m := by
  have e := spread_sum f N at' ((List.range m).map fun _ => 1) m hr m (Nat.le_refl _)
  have e1 : sumN (fun j => f j * (spreadN N at' ((List.range m).map fun _ => 1) m)[j]?.getD 0) N = sumN f N := by
    refine sumN_congr _ _ _ fun j hj => ?_
    cases hb : inB at' m j with
    | false => rw [h j hj hb]; omega
    | true =>
      obtain ⟨i, hi, rfl⟩ := (inB_true at' m j).1 hb
      rw [spread_in N at' _ m hr m (Nat.le_refl _) i hi, range_getD, if_pos hi]; omega
  rw [← e1, e]
  refine sumN_congr _ _ _ fun i hi => ?_
  rw [range_getD, if_pos hi]; omega

def colF (p : Lp) (m j : Nat) : List Int := (List.range m).map (hasF p j)

theorem chosen_at (p : Lp) (at' : List Int) (m l i : Nat) (hl : l < m) (hi : i < m) : at2 (chosenL p at' m) l i = hasF p (atF at' l) i := by
  unfold chosenL
  rw [at2_range, if_pos hl, range_getD, if_pos hi]

theorem chosen_map (p : Lp) (at' : List Int) (m : Nat) (h : at'.length = m) : chosenL p at' m = at'.map fun z => colF p m z.toNat := by
  unfold chosenL
  apply List.ext_getElem
  · simp [h]
  · intro i h1 h2
    simp only [List.length_map, List.length_range] at h1
    simp only [List.getElem_map, List.getElem_range, colF, atF]
    rw [List.getElem?_eq_getElem (by omega)]
    rfl

/-- Nothing but nought stays within a corner's columns. -/
theorem within_none (p : Lp) (at' : List Int) (m N : Nat) (hr : rightB at' m N = true) (h1 : 1 ≤ m) (h4 : m ≤ 4) (hd : denL p at' m ≠ 0) (v : Nat → Int) (hv : ∀ j, j < N → inB at' m j = false → v j = 0) (ha : ∀ i, i < m → sumN (fun j => hasF p j i * v j) N = 0) (j : Nat) (hj : j < N) : v j = 0 := by
  cases hb : inB at' m j with
  | false => exact hv j hj hb
  | true =>
    obtain ⟨k, hk, rfl⟩ := (inB_true at' m j).1 hb
    have h0 := indep m (chosenL p at' m) (chosen_sq p at' m) h1 h4 (fun l => v (atF at' l)) (fun i hi => by
      have := ha i hi
      rw [sum_on (fun j => hasF p j i * v j) N at' m hr fun j hj hb => by show hasF p j i * v j = 0; rw [hv j hj hb]; omega] at this
      rw [← this]
      refine sumN_congr _ _ _ fun l hl => ?_
      rw [chosen_at p at' m l i hl hi]; grind) k hk
    exact (Int.mul_eq_zero.1 h0).resolve_left hd

/-- How the columns of a corner make another column up, as often as their volume says. -/
def wayL (p : Lp) (at' : List Int) (m s : Nat) : List Int := sharesL (chosenL p at' m) (colF p m s) m

/-- The way along which column s grows. -/
def dirF (p : Lp) (at' : List Int) (m N s j : Nat) : Int := if j = s then denL p at' m else -(spreadN N at' (wayL p at' m s) m)[j]?.getD 0

theorem dir_level (p : Lp) (at' : List Int) (m N s : Nat) (hr : rightB at' m N = true) (h1 : 1 ≤ m) (h4 : m ≤ 4) (hs : s < N) (hsb : inB at' m s = false) (i : Nat) (hi : i < m) : sumN (fun j => hasF p j i * dirF p at' m N s j) N = 0 := by
  have hc := cramer m (chosenL p at' m) (colF p m s) (chosen_sq p at' m) (by unfold colF; simp) h1 h4 i hi
  unfold crm at hc
  rw [dotN_sum] at hc
  have e1 : (colF p m s)[i]?.getD 0 = hasF p s i := by unfold colF; rw [range_getD, if_pos hi]
  rw [e1] at hc
  have hsp := spread_sum (fun j => hasF p j i) N at' (wayL p at' m s) m hr m (Nat.le_refl _)
  have e2 : sumN (fun l => hasF p (atF at' l) i * (wayL p at' m s)[l]?.getD 0) m = vol (chosenL p at' m) none4 * hasF p s i := by
    rw [← hc]
    refine sumN_congr _ _ _ fun l hl => ?_
    rw [range_getD, if_pos hl, chosen_at p at' m l i hl hi]
    unfold wayL; grind
  have h0 : (spreadN N at' (wayL p at' m s) m)[s]?.getD 0 = 0 := spread_not _ _ _ _ _ ((inB_false at' m s).1 hsb)
  have e3 : sumN (fun j => hasF p j i * dirF p at' m N s j) N = sumN (fun j => (-1) * (hasF p j i * (spreadN N at' (wayL p at' m s) m)[j]?.getD 0) + (if j = s then 1 else 0) * (hasF p j i * denL p at' m)) N := by
    refine sumN_congr _ _ _ fun j hj => ?_
    unfold dirF
    by_cases hjs : j = s
    · subst hjs; rw [if_pos rfl, if_pos rfl, h0]; grind
    · rw [if_neg hjs, if_neg hjs]; grind
  rw [e3, sumN_add, sumN_mul, hsp, e2, sum_one (fun j => hasF p j i * denL p at' m) s N hs]
  unfold denL; grind

/-- The column at place k out, column s in at place k'. -/
def swapI (at' : List Int) (k k' : Nat) (s : Nat) : List Int := (at'.eraseIdx k).insertIdx k' (s : Int)

theorem map_insertIdx {α β : Type} (f : α → β) (l : List α) (k : Nat) (a : α) : (l.insertIdx k a).map f = (l.map f).insertIdx k (f a) := by
  induction l generalizing k with
  | nil => cases k <;> simp
  | cons b l ih => cases k with
    | zero => simp
    | succ k => simp [ih]

theorem map_eraseIdx {α β : Type} (f : α → β) (l : List α) (k : Nat) : (l.eraseIdx k).map f = (l.map f).eraseIdx k := by
  induction l generalizing k with
  | nil => simp
  | cons b l ih => cases k with
    | zero => simp
    | succ k => simp [ih]

theorem eraseIdx_set {α : Type} (l : List α) (k : Nat) (a : α) : (l.set k a).eraseIdx k = l.eraseIdx k := by
  induction l generalizing k with
  | nil => simp
  | cons b l ih => cases k with
    | zero => simp
    | succ k => simp [ih]

theorem swap_len (at' : List Int) (k k' s m : Nat) (h : at'.length = m) (hk : k < m) (hk' : k' < m) : (swapI at' k k' s).length = m := by
  unfold swapI
  rw [List.length_insertIdx, List.length_eraseIdx]
  split <;> split <;> omega

theorem den_swap (p : Lp) (at' : List Int) (k k' s m : Nat) (h : at'.length = m) (h1 : 1 ≤ m) (h4 : m ≤ 4) (hk : k < m) (hk' : k' < m) : denL p (swapI at' k k' s) m = sgn (k + k') * (wayL p at' m s)[k]?.getD 0 := by
  have e : chosenL p (swapI at' k k' s) m = mvL ((chosenL p at' m).set k (colF p m s)) k k' := by
    rw [chosen_map p _ m (swap_len at' k k' s m h hk hk'), chosen_map p at' m h]
    unfold swapI mvL
    rw [map_insertIdx, map_eraseIdx, eraseIdx_set, List.getElem?_set_self (by simp; omega)]
    rfl
  have hq : Sq m ((chosenL p at' m).set k (colF p m s)) := by
    have hs := chosen_sq p at' m
    refine ⟨by rw [List.length_set]; exact hs.1, fun l hl => ?_⟩
    rcases List.mem_or_eq_of_mem_set hl with h | rfl
    · exact hs.2 l h
    · unfold colF; simp
  unfold denL
  rw [e, moved m _ hq h1 h4 k k' hk hk']
  unfold wayL sharesL
  rw [range_getD, if_pos hk]

end Num
end Go.Proofs.Ytipcbhodlgoflab

/- What a corner's numbers become as one column goes out and another in, in plain numbers. -/
namespace Go.Proofs.Ytipcbhodlgoflab
namespace Num

theorem x_level (p : Lp) (at' : List Int) (m N : Nat) (hr : rightB at' m N = true) (h1 : 1 ≤ m) (h4 : m ≤ 4) (i : Nat) (hi : i < m) : sumN (fun j => hasF p j i * (xL p at' m N)[j]?.getD 0) N = denL p at' m * mostF p i := by
  have hc := cramer m (chosenL p at' m) (mostsL p m) (chosen_sq p at' m) (by unfold mostsL; simp) h1 h4 i hi
  unfold crm at hc
  rw [dotN_sum] at hc
  have e1 : (mostsL p m)[i]?.getD 0 = mostF p i := by unfold mostsL; rw [range_getD, if_pos hi]
  rw [e1] at hc
  unfold xL
  rw [spread_sum (fun j => hasF p j i) N at' _ m hr m (Nat.le_refl _)]
  unfold denL
  rw [← hc]
  refine sumN_congr _ _ _ fun l hl => ?_
  rw [range_getD, if_pos hl, chosen_at p at' m l i hl hi]
  grind

theorem x_not (p : Lp) (at' : List Int) (m N j : Nat) (h : inB at' m j = false) : (xL p at' m N)[j]?.getD 0 = 0 := spread_not _ _ _ _ _ ((inB_false at' m j).1 h)

theorem dir_not (p : Lp) (at' : List Int) (m N s j : Nat) (h : inB at' m j = false) (hs : j ≠ s) : dirF p at' m N s j = 0 := by
  unfold dirF
  rw [if_neg hs, spread_not _ _ _ _ _ ((inB_false at' m j).1 h)]; rfl

theorem dir_in (p : Lp) (at' : List Int) (m N s k : Nat) (hr : rightB at' m N = true) (hk : k < m) (hs : inB at' m s = false) : dirF p at' m N s (atF at' k) = -(wayL p at' m s)[k]?.getD 0 := by
  unfold dirF
  rw [if_neg ((inB_false at' m s).1 hs k hk), spread_in N at' _ m hr m (Nat.le_refl _) k hk]

/-- The numbers of the next corner. -/
theorem exchange (p : Lp) (at' at2' : List Int) (m N s k : Nat) (hr : rightB at' m N = true) (hr2 : rightB at2' m N = true) (h1 : 1 ≤ m) (h4 : m ≤ 4) (hs : s < N) (hsb : inB at' m s = false) (hk : k < m)
    (hin : ∀ j, inB at2' m j = (if j = s then true else if j = atF at' k then false else inB at' m j)) (hd2 : denL p at2' m ≠ 0) (j : Nat) (hj : j < N) :
    (xL p at2' m N)[j]?.getD 0 * denL p at' m * (wayL p at' m s)[k]?.getD 0 = denL p at2' m * ((xL p at' m N)[j]?.getD 0 * (wayL p at' m s)[k]?.getD 0 + (xL p at' m N)[atF at' k]?.getD 0 * dirF p at' m N s j) := by
  have hdk := dir_in p at' m N s k hr hk hsb
  generalize hw : (wayL p at' m s)[k]?.getD 0 = w at *
  generalize hxo : (xL p at' m N)[atF at' k]?.getD 0 = xo at *
  have h0 := within_none p at2' m N hr2 h1 h4 hd2 (fun j => (xL p at2' m N)[j]?.getD 0 * denL p at' m * w - denL p at2' m * ((xL p at' m N)[j]?.getD 0 * w + xo * dirF p at' m N s j))
    (fun j hj hb => by
      show (xL p at2' m N)[j]?.getD 0 * denL p at' m * w - denL p at2' m * ((xL p at' m N)[j]?.getD 0 * w + xo * dirF p at' m N s j) = 0
      rw [x_not p at2' m N j hb]
      rw [hin j] at hb
      by_cases hjs : j = s
      · rw [if_pos hjs] at hb; cases hb
      · rw [if_neg hjs] at hb
        by_cases hjo : j = atF at' k
        · subst hjo; rw [hxo, hdk]; grind
        · rw [if_neg hjo] at hb
          rw [x_not p at' m N j hb, dir_not p at' m N s j hb hjs]; grind)
    (fun i hi => by
      have a1 := x_level p at' m N hr h1 h4 i hi
      have a2 := x_level p at2' m N hr2 h1 h4 i hi
      have a3 := dir_level p at' m N s hr h1 h4 hs hsb i hi
      have e : sumN (fun j => hasF p j i * ((xL p at2' m N)[j]?.getD 0 * denL p at' m * w - denL p at2' m * ((xL p at' m N)[j]?.getD 0 * w + xo * dirF p at' m N s j))) N
          = sumN (fun j => (denL p at' m * w) * (hasF p j i * (xL p at2' m N)[j]?.getD 0) + ((-(denL p at2' m * w)) * (hasF p j i * (xL p at' m N)[j]?.getD 0) + (-(denL p at2' m * xo)) * (hasF p j i * dirF p at' m N s j))) N :=
        sumN_congr _ _ _ fun j _ => by grind
      rw [e, sumN_add, sumN_add, sumN_mul, sumN_mul, sumN_mul, a1, a2, a3]
      grind) j hj
  have h0' : (xL p at2' m N)[j]?.getD 0 * denL p at' m * w - denL p at2' m * ((xL p at' m N)[j]?.getD 0 * w + xo * dirF p at' m N s j) = 0 := h0
  omega

end Num
end Go.Proofs.Ytipcbhodlgoflab

/- A walk from corner to corner never comes back to the same columns, and its worth never falls: in plain numbers. -/
namespace Go.Proofs.Ytipcbhodlgoflab
namespace Num

/-- The sign of a corner's volume. -/
def sgD (p : Lp) (at' : List Int) (m : Nat) : Int := if denL p at' m < 0 then -1 else 1

theorem sgD_sq (p : Lp) (at' : List Int) (m : Nat) : sgD p at' m * sgD p at' m = 1 := by unfold sgD; split <;> rfl

theorem sgD_pos (p : Lp) (at' : List Int) (m : Nat) (h : denL p at' m ≠ 0) : 0 < sgD p at' m * denL p at' m := by unfold sgD; split <;> omega

/-- From at' one goes on to at2': column s in, the column at place k out. -/
structure NextOk (p : Lp) (at' at2' : List Int) (m N s k : Nat) : Prop where
  right : rightB at' m N = true
  right2 : rightB at2' m N = true
  den : denL p at' m ≠ 0
  den2 : denL p at2' m ≠ 0
  sN : s < N
  sg : 0 < sgD p at' m * (gainL p at' m N)[s]?.getD 0
  sl : ∀ j, j < s → sgD p at' m * (gainL p at' m N)[j]?.getD 0 ≤ 0
  km : k < m
  falls : 0 < sgD p at' m * (wayL p at' m s)[k]?.getD 0
  least : ∀ l, l < m → 0 < sgD p at' m * (wayL p at' m s)[l]?.getD 0 → (xL p at' m N)[atF at' k]?.getD 0 * (wayL p at' m s)[l]?.getD 0 = (xL p at' m N)[atF at' l]?.getD 0 * (wayL p at' m s)[k]?.getD 0 → k ≤ l
  inn : ∀ j, inB at2' m j = (if j = s then true else if j = atF at' k then false else inB at' m j)

theorem NextOk.out {p : Lp} {at' at2' : List Int} {m n s k : Nat} (h : NextOk p at' at2' m (n + m) s k) (hmay : p.may = true) (hm : m = p.rows.length) : inB at' m s = false := by
  cases hb : inB at' m s with
  | false => rfl
  | true =>
    obtain ⟨i, hi, hs⟩ := (inB_true at' m s).1 hb
    have := comes_gain p at' m n hmay hm h.right i hi
    have h2 := h.sg
    rw [← hs, this] at h2
    omega

theorem steps_of (p : Lp) (m n : Nat) (hmay : p.may = true) (hm : m = p.rows.length) (ats : Nat → List Int) (ss ks : Nat → Nat) (K : Nat) (hx : ∀ q j : Nat, q ≤ K → 0 ≤ sgD p (ats q) m * (xL p (ats q) m (n + m))[j]?.getD 0) (hd : ∀ q, q ≤ K → denL p (ats q) m ≠ 0)
    (h : ∀ q, q < K → NextOk p (ats q) (ats (q + 1)) m (n + m) (ss q) (ks q)) :
    Steps (n + m) m (fun j => p.costs[j]?.getD 0) (fun i j => hasF p j i) (fun q j => inB (ats q) m j) (fun q j => sgD p (ats q) m * (xL p (ats q) m (n + m))[j]?.getD 0) (fun q => sgD p (ats q) m * denL p (ats q) m)
      (fun q j => sgD p (ats q) m * (gainL p (ats q) m (n + m))[j]?.getD 0) (fun q => sgD p (ats q) m * denL p (ats q) m) (fun q i => sgD p (ats q) m * (priceL p (ats q) m)[i]?.getD 0)
      (fun q j => sgD p (ats q) m * dirF p (ats q) m (n + m) (ss q) j) ss (fun q => atF (ats q) (ks q)) K := by
  have h1 : 1 ≤ m := by have := (p.may_of hmay).2.2.1.1; omega
  have h4 : m ≤ 4 := by have := (p.may_of hmay).2.2.1.2; omega
  have hso : ∀ q, q < K → inB (ats q) m (ss q) = false := fun q hq => (h q hq).out hmay hm
  have hdo : ∀ q, q < K → dirF p (ats q) m (n + m) (ss q) (atF (ats q) (ks q)) = -(wayL p (ats q) m (ss q))[ks q]?.getD 0 := fun q hq => dir_in p (ats q) m (n + m) (ss q) (ks q) (h q hq).right (h q hq).km (hso q hq)
  refine ⟨fun q hq => sgD_pos p _ m (hd q hq), fun q hq => sgD_pos p _ m (hd q (by omega)), fun q j hq => hx q j hq, ?_, ?_, ?_, ?_, ?_, fun q hq => (h q hq).sN, fun q hq => (h q hq).sg, fun q j hq hj => (h q hq).sl j hj, fun q hq => atF_lt _ _ m (h q hq).right _ (h q hq).km, fun q hq => (inB_true _ _ _).2 ⟨_, (h q hq).km, rfl⟩, ?_, ?_, fun q j hq => (h q hq).inn j, ?_⟩
  · intro q j hq hb
    obtain ⟨i, hi, rfl⟩ := (inB_true _ _ _).1 hb
    show sgD p (ats q) m * _ = 0
    rw [comes_gain p (ats q) m n hmay hm (h q hq).right i hi]; omega
  · intro q j hq hj
    show sgD p (ats q) m * _ = _
    unfold gainL
    rw [range_getD, if_pos hj]
    unfold gainF
    rw [← hm, dotN_sum]
    have e : sumN (fun i => sgD p (ats q) m * (priceL p (ats q) m)[i]?.getD 0 * hasF p j i) m = sgD p (ats q) m * sumN (fun i => ((List.range m).map (hasF p j))[i]?.getD 0 * (priceL p (ats q) m)[i]?.getD 0) m := by
      rw [← sumN_mul]
      refine sumN_congr _ _ _ fun i hi => ?_
      rw [range_getD, if_pos hi]; grind
    rw [e]; grind
  · intro q i hq hi
    have e : sumN (fun j => hasF p j i * (sgD p (ats q) m * dirF p (ats q) m (n + m) (ss q) j)) (n + m) = sgD p (ats q) m * sumN (fun j => hasF p j i * dirF p (ats q) m (n + m) (ss q) j) (n + m) := by
      rw [← sumN_mul]; exact sumN_congr _ _ _ fun j _ => by grind
    show sumN (fun j => hasF p j i * (sgD p (ats q) m * dirF p (ats q) m (n + m) (ss q) j)) (n + m) = 0
    rw [e, dir_level p (ats q) m (n + m) (ss q) (h q hq).right h1 h4 (h q hq).sN (hso q hq) i hi]; omega
  · intro q j hq hb hne
    show sgD p (ats q) m * _ = 0
    rw [dir_not p (ats q) m (n + m) (ss q) j hb hne]; omega
  · intro q hq
    show 0 < sgD p (ats q) m * dirF p (ats q) m (n + m) (ss q) (ss q)
    unfold dirF
    rw [if_pos rfl]
    exact sgD_pos p _ m (hd q (by omega))
  · intro q hq
    show sgD p (ats q) m * dirF p (ats q) m (n + m) (ss q) (atF (ats q) (ks q)) < 0
    rw [hdo q hq]
    have := (h q hq).falls
    rw [Int.mul_neg]; omega
  · intro q j hq hb hdn he
    obtain ⟨l, hl, rfl⟩ := (inB_true _ _ _).1 hb
    have hdl := dir_in p (ats q) m (n + m) (ss q) l (h q hq).right hl (hso q hq)
    rw [hdl] at hdn he
    rw [hdo q hq] at he
    rw [Int.mul_neg] at hdn
    have hsq := sgD_sq p (ats q) m
    have e2 : (xL p (ats q) m (n + m))[atF (ats q) (ks q)]?.getD 0 * (wayL p (ats q) m (ss q))[l]?.getD 0 = (xL p (ats q) m (n + m))[atF (ats q) l]?.getD 0 * (wayL p (ats q) m (ss q))[ks q]?.getD 0 := by
      generalize (xL p (ats q) m (n + m))[atF (ats q) (ks q)]?.getD 0 = x1 at *
      generalize (wayL p (ats q) m (ss q))[l]?.getD 0 = w1 at *
      generalize (xL p (ats q) m (n + m))[atF (ats q) l]?.getD 0 = x2 at *
      generalize (wayL p (ats q) m (ss q))[ks q]?.getD 0 = w2 at *
      generalize sgD p (ats q) m = g at *
      have a1 : (g * g) * (x1 * w1) = (g * g) * (x2 * w2) := by grind
      rw [hsq] at a1
      omega
    have hkl := (h q hq).least l hl (by omega) e2
    show atF (ats q) (ks q) ≤ atF (ats q) l
    by_cases hkl2 : ks q = l
    · rw [hkl2]; exact Nat.le_refl _
    · have := atF_rise (ats q) _ m (h q hq).right l hl (ks q) (by omega); omega
  · intro q j hq hj
    have he := exchange p (ats q) (ats (q + 1)) m (n + m) (ss q) (ks q) (h q hq).right (h q hq).right2 h1 h4 (h q hq).sN (hso q hq) (h q hq).km (h q hq).inn (h q hq).den2 j hj
    rw [hdo q hq]
    have hsq := sgD_sq p (ats q) m
    generalize (xL p (ats (q + 1)) m (n + m))[j]?.getD 0 = y1 at *
    generalize (xL p (ats q) m (n + m))[j]?.getD 0 = y2 at *
    generalize (xL p (ats q) m (n + m))[atF (ats q) (ks q)]?.getD 0 = y3 at *
    generalize (wayL p (ats q) m (ss q))[ks q]?.getD 0 = w at *
    generalize dirF p (ats q) m (n + m) (ss q) j = dd at *
    generalize denL p (ats q) m = D at *
    generalize denL p (ats (q + 1)) m = D2 at *
    generalize sgD p (ats q) m = g at *
    generalize sgD p (ats (q + 1)) m = g2 at *
    have a1 : g2 * y1 * (g * D) * (-(g * -w)) = g2 * (g * g) * (y1 * D * w) := by grind
    have a2 : g2 * D2 * (g * y2 * (-(g * -w)) + g * y3 * (g * dd)) = g2 * (g * g) * (D2 * (y2 * w + y3 * dd)) := by grind
    rw [a1, a2, he]

/-- No columns come twice. -/
theorem walk_new (p : Lp) (m n : Nat) (hmay : p.may = true) (hm : m = p.rows.length) (ats : Nat → List Int) (ss ks : Nat → Nat) (K : Nat) (hx : ∀ q j : Nat, q ≤ K → 0 ≤ sgD p (ats q) m * (xL p (ats q) m (n + m))[j]?.getD 0) (hd : ∀ q, q ≤ K → denL p (ats q) m ≠ 0)
    (h : ∀ q, q < K → NextOk p (ats q) (ats (q + 1)) m (n + m) (ss q) (ks q)) (a b : Nat) (hab : a < b) (hb : b ≤ K) : ats a ≠ ats b := by
  intro e
  exact (steps_of p m n hmay hm ats ss ks K hx hd h).never_back a b hab hb (fun j => by show inB (ats a) m j = inB (ats b) m j; rw [e]) (fun j _ => by show sgD p (ats a) m * _ * _ = sgD p (ats b) m * _ * _; rw [e])

end Num
end Go.Proofs.Ytipcbhodlgoflab

/- A walk stays among the corners that go, and ends: in plain numbers. -/
namespace Go.Proofs.Ytipcbhodlgoflab
namespace Num

/-- The next corner goes too, if the column that goes out is among the nearest. -/
theorem next_above (p : Lp) (at' at2' : List Int) (m n s k : Nat) (hmay : p.may = true) (hm : m = p.rows.length) (h : NextOk p at' at2' m (n + m) s k) (hx : ∀ j : Nat, 0 ≤ sgD p at' m * (xL p at' m (n + m))[j]?.getD 0)
    (hn : ∀ l, l < m → 0 < sgD p at' m * (wayL p at' m s)[l]?.getD 0 → (sgD p at' m * (xL p at' m (n + m))[atF at' k]?.getD 0) * (sgD p at' m * (wayL p at' m s)[l]?.getD 0) ≤ (sgD p at' m * (xL p at' m (n + m))[atF at' l]?.getD 0) * (sgD p at' m * (wayL p at' m s)[k]?.getD 0)) :
    ∀ j : Nat, 0 ≤ sgD p at2' m * (xL p at2' m (n + m))[j]?.getD 0 := by
  intro j
  have h1 : 1 ≤ m := by have := (p.may_of hmay).2.2.1.1; omega
  have h4 : m ≤ 4 := by have := (p.may_of hmay).2.2.1.2; omega
  have hsb := h.out hmay hm
  by_cases hj : j < n + m
  · have he := exchange p at' at2' m (n + m) s k h.right h.right2 h1 h4 h.sN hsb h.km h.inn h.den2 j hj
    have hsq := sgD_sq p at' m
    have hD := sgD_pos p at' m h.den
    have hD2 := sgD_pos p at2' m h.den2
    have hw := h.falls
    have hxj := hx j
    have hxo := hx (atF at' k)
    have hR : 0 ≤ (sgD p at' m * (xL p at' m (n + m))[j]?.getD 0) * (sgD p at' m * (wayL p at' m s)[k]?.getD 0) + (sgD p at' m * (xL p at' m (n + m))[atF at' k]?.getD 0) * (sgD p at' m * dirF p at' m (n + m) s j) := by
      cases hb : inB at' m j with
      | false =>
        by_cases hjs : j = s
        · subst hjs
          have : dirF p at' m (n + m) j j = denL p at' m := by unfold dirF; rw [if_pos rfl]
          rw [this]
          have a1 := Int.mul_nonneg hxj (Int.le_of_lt hw)
          have a2 := Int.mul_nonneg hxo (Int.le_of_lt hD)
          omega
        · rw [dir_not p at' m (n + m) s j hb hjs, Int.mul_zero, Int.mul_zero, Int.add_zero]
          exact Int.mul_nonneg hxj (Int.le_of_lt hw)
      | true =>
        obtain ⟨l, hl, rfl⟩ := (inB_true at' m j).1 hb
        rw [dir_in p at' m (n + m) s l h.right hl hsb, Int.mul_neg, Int.mul_neg]
        by_cases hwl : 0 < sgD p at' m * (wayL p at' m s)[l]?.getD 0
        · have := hn l hl hwl
          omega
        · have a1 := Int.mul_nonneg hxj (Int.le_of_lt hw)
          have a2 := Int.mul_nonpos_of_nonneg_of_nonpos hxo (Int.not_lt.1 hwl)
          omega
    generalize (xL p at2' m (n + m))[j]?.getD 0 = y1 at *
    generalize (xL p at' m (n + m))[j]?.getD 0 = y2 at *
    generalize (xL p at' m (n + m))[atF at' k]?.getD 0 = y3 at he hR
    generalize (wayL p at' m s)[k]?.getD 0 = w at he hR hw
    generalize dirF p at' m (n + m) s j = dd at *
    generalize denL p at' m = D at *
    generalize denL p at2' m = D2 at *
    generalize sgD p at' m = g at *
    generalize sgD p at2' m = g2 at *
    have e : (g2 * y1) * ((g * D) * (g * w)) = (g2 * D2) * ((g * y2) * (g * w) + (g * y3) * (g * dd)) := by
      have a1 : (g2 * y1) * ((g * D) * (g * w)) = g2 * (g * g) * (y1 * D * w) := by grind
      have a2 : (g2 * D2) * ((g * y2) * (g * w) + (g * y3) * (g * dd)) = g2 * (g * g) * (D2 * (y2 * w + y3 * dd)) := by grind
      rw [a1, a2, he]
    have q1 := Int.mul_pos hD hw
    have q2 := Int.mul_nonneg (Int.le_of_lt hD2) hR
    by_cases hneg : 0 ≤ g2 * y1
    · exact hneg
    · have := Int.mul_neg_of_neg_of_pos (Int.not_le.1 hneg) q1
      omega
  · rw [List.getElem?_eq_none (by unfold xL; rw [spread_len]; omega)]
    show 0 ≤ sgD p at2' m * 0
    omega

theorem pigeon (n : Nat) : ∀ f : Nat → Nat, (∀ i, i ≤ n → f i < n) → ∃ i j, i < j ∧ j ≤ n ∧ f i = f j := by
  induction n with
  | zero => intro f h; have := h 0 (Nat.le_refl _); omega
  | succ n ih =>
    intro f h
    by_cases hex : ∃ i, i ≤ n ∧ f i = f (n + 1)
    · obtain ⟨i, hi, he⟩ := hex
      exact ⟨i, n + 1, by omega, by omega, he⟩
    · have hne : ∀ i, i ≤ n → f i ≠ f (n + 1) := fun i hi he => hex ⟨i, hi, he⟩
      have hl := h (n + 1) (Nat.le_refl _)
      obtain ⟨i, j, hij, hj, he⟩ := ih (fun i => if f i = n then f (n + 1) else f i) (fun i hi => by
        have a1 := h i (by omega)
        have a2 := hne i hi
        show (if f i = n then f (n + 1) else f i) < n
        split <;> omega)
      refine ⟨i, j, hij, by omega, ?_⟩
      have a1 := hne i (by omega)
      have a2 := hne j hj
      have he' : (if f i = n then f (n + 1) else f i) = (if f j = n then f (n + 1) else f j) := he
      split at he' <;> split at he' <;> omega

/-- The columns as one number. -/
def codeN (at' : List Int) : Nat := atF at' 0 + 8 * atF at' 1 + 64 * atF at' 2 + 512 * atF at' 3

theorem atF_over (at' : List Int) (i : Nat) (h : at'.length ≤ i) : atF at' i = 0 := by
  unfold atF
  rw [List.getElem?_eq_none h]; rfl

theorem atF_8 (at' : List Int) (m N : Nat) (hr : rightB at' m N = true) (h8 : N ≤ 8) (i : Nat) : atF at' i < 8 := by
  by_cases hi : i < m
  · have := atF_lt at' N m hr i hi; omega
  · have hl := (right_all at' m N hr).1
    rw [atF_over at' i (by omega)]; omega

theorem code_lt (at' : List Int) (m N : Nat) (hr : rightB at' m N = true) (h8 : N ≤ 8) : codeN at' < 4096 := by
  have a0 := atF_8 at' m N hr h8 0
  have a1 := atF_8 at' m N hr h8 1
  have a2 := atF_8 at' m N hr h8 2
  have a3 := atF_8 at' m N hr h8 3
  unfold codeN; omega

theorem code_one (at' at2' : List Int) (m N : Nat) (hr : rightB at' m N = true) (hr2 : rightB at2' m N = true) (h4 : m ≤ 4) (h8 : N ≤ 8) (he : codeN at' = codeN at2') : at' = at2' := by
  have a0 := atF_8 at' m N hr h8 0
  have a1 := atF_8 at' m N hr h8 1
  have a2 := atF_8 at' m N hr h8 2
  have b0 := atF_8 at2' m N hr2 h8 0
  have b1 := atF_8 at2' m N hr2 h8 1
  have b2 := atF_8 at2' m N hr2 h8 2
  unfold codeN at he
  have hall : ∀ i, i < m → atF at' i = atF at2' i := by
    intro i hi
    match i, (show i < 4 by omega) with
    | 0, _ => omega
    | 1, _ => omega
    | 2, _ => omega
    | 3, _ => omega
  obtain ⟨l1, c1⟩ := right_all at' m N hr
  obtain ⟨l2, c2⟩ := right_all at2' m N hr2
  apply List.ext_getElem (by omega)
  intro i g1 g2
  have e := hall i (by omega)
  have d1 := c1 i (by omega)
  have d2 := c2 i (by omega)
  unfold atF at e
  rw [List.getElem?_eq_getElem g1] at e d1
  rw [List.getElem?_eq_getElem g2] at e d2
  simp only [Option.getD_some] at e d1 d2
  omega

/-- A walk has fewer than 4096 steps. -/
theorem walk_ends (p : Lp) (m n : Nat) (hmay : p.may = true) (hm : m = p.rows.length) (h8 : n + m ≤ 8) (ats : Nat → List Int) (ss ks : Nat → Nat) (K : Nat) (hx : ∀ q j : Nat, q ≤ K → 0 ≤ sgD p (ats q) m * (xL p (ats q) m (n + m))[j]?.getD 0) (hd : ∀ q, q ≤ K → denL p (ats q) m ≠ 0) (hr : ∀ q, q ≤ K → rightB (ats q) m (n + m) = true)
    (h : ∀ q, q < K → NextOk p (ats q) (ats (q + 1)) m (n + m) (ss q) (ks q)) : K < 4096 := by
  have h4 : m ≤ 4 := by have := (p.may_of hmay).2.2.1.2; omega
  by_cases hK : K < 4096
  · exact hK
  · obtain ⟨i, j, hij, hj, he⟩ := pigeon 4096 (fun q => codeN (ats q)) fun i hi => code_lt _ m _ (hr i (by omega)) h8
    exact absurd (code_one _ _ m _ (hr i (by omega)) (hr j (by omega)) h4 h8 he) (walk_new p m n hmay hm ats ss ks K hx hd h i j hij (by omega))

end Num
end Go.Proofs.Ytipcbhodlgoflab

/- Columns with one out and another in, rising: in plain numbers. -/
namespace Go.Proofs.Ytipcbhodlgoflab
namespace Num

theorem right_of (at' : List Int) (m N : Nat) (hl : at'.length = m) (h : ∀ k, k < m → leastN at' k ≤ at'[k]?.getD 0 ∧ at'[k]?.getD 0 < N) : rightB at' m N = true := by
  have : ∀ k, k ≤ m → okN at' N k = true := by
    intro k
    induction k with
    | zero => intro _; rfl
    | succ k ih =>
      intro hk
      rw [okN_succ, ih (by omega)]
      have := h k (by omega)
      simp [this.1, this.2]
  unfold rightB
  rw [this m (Nat.le_refl _)]
  simp [hl]

/-- The place among rising numbers. -/
theorem place_of (e : Nat → Nat) (s : Nat) : ∀ n, (∀ i j, i < j → j < n → e i < e j) → (∀ i, i < n → e i ≠ s) → ∃ k', k' ≤ n ∧ (∀ i, i < k' → e i < s) ∧ (∀ i, k' ≤ i → i < n → s < e i) := by
  intro n
  induction n with
  | zero => intro _ _; exact ⟨0, Nat.le_refl _, fun i hi => by omega, fun i _ hi => by omega⟩
  | succ n ih =>
    intro hr hne
    obtain ⟨k', h1, h2, h3⟩ := ih (fun i j hij hj => hr i j hij (by omega)) (fun i hi => hne i (by omega))
    have hn := hne n (by omega)
    by_cases hk : k' = n
    · by_cases hs : e n < s
      · refine ⟨n + 1, Nat.le_refl _, fun i hi => ?_, fun i hi hi2 => by omega⟩
        by_cases hin : i = n
        · subst hin; exact hs
        · exact h2 i (by omega)
      · refine ⟨n, by omega, fun i hi => h2 i (by omega), fun i hi hi2 => ?_⟩
        have : i = n := by omega
        subst this; omega
    · refine ⟨k', by omega, h2, fun i hi hi2 => ?_⟩
      by_cases hin : i = n
      · subst hin
        have a1 := h3 k' (Nat.le_refl _) (by omega)
        have a2 := hr k' i (by omega) (by omega)
        omega
      · exact h3 i hi (by omega)

/-- The columns but the one at place k. -/
def restF (at' : List Int) (k i : Nat) : Nat := atF at' (if i < k then i else i + 1)

theorem swap_at (at' : List Int) (k k' s m : Nat) (h : at'.length = m) (hk : k < m) (hk' : k' < m) (i : Nat) (hi : i < m) : atF (swapI at' k k' s) i = if i < k' then restF at' k i else if i = k' then s else restF at' k (i - 1) := by
  unfold atF swapI restF atF
  have hle : k' ≤ (at'.eraseIdx k).length := by rw [List.length_eraseIdx]; split <;> omega
  rw [List.getElem?_insertIdx]
  by_cases h1 : i < k'
  · rw [if_pos h1, if_pos h1, List.getElem?_eraseIdx]
    split <;> rfl
  · rw [if_neg h1, if_neg h1]
    by_cases h2 : i = k'
    · subst h2; rw [if_pos rfl, if_pos rfl, if_pos hle]; rfl
    · rw [if_neg h2, if_neg h2, List.getElem?_eraseIdx]
      split <;> rfl

theorem swap_val (at' : List Int) (k k' s m N : Nat) (hr : rightB at' m N = true) (hk : k < m) (hk' : k' < m) (i : Nat) (hi : i < m) : (swapI at' k k' s)[i]?.getD 0 = (atF (swapI at' k k' s) i : Int) := by
  obtain ⟨hl, hv⟩ := right_all at' m N hr
  have hlen := swap_len at' k k' s m hl hk hk'
  have hnn : 0 ≤ (swapI at' k k' s)[i]?.getD 0 := by
    have hmem : ∀ z ∈ swapI at' k k' s, 0 ≤ z := by
      intro z hz
      unfold swapI at hz
      rcases (List.mem_insertIdx (by rw [List.length_eraseIdx]; split <;> omega)).1 hz with rfl | hz
      · omega
      · have hz' := List.mem_of_mem_eraseIdx hz
        obtain ⟨q, hq, rfl⟩ := List.mem_iff_getElem.1 hz'
        have := (hv q (by omega)).1
        rw [List.getElem?_eq_getElem hq] at this
        exact this
    rw [List.getElem?_eq_getElem (by omega)]
    exact hmem _ (List.getElem_mem _)
  unfold atF
  omega

theorem rest_rise (at' : List Int) (k m N : Nat) (hr : rightB at' m N = true) (i j : Nat) (hij : i < j) (hj : j + 1 < m) : restF at' k i < restF at' k j := by
  unfold restF
  refine atF_rise at' N m hr _ ?_ _ ?_
  · split <;> omega
  · split <;> split <;> omega

theorem swap_right (at' : List Int) (k k' s m N : Nat) (hr : rightB at' m N = true) (hk : k < m) (hk' : k' < m) (hs : s < N) (h2 : ∀ i, i < k' → restF at' k i < s) (h3 : ∀ i, k' ≤ i → i + 1 < m → s < restF at' k i) : rightB (swapI at' k k' s) m N = true := by
  obtain ⟨hl, hv⟩ := right_all at' m N hr
  have hv2 := swap_val at' k k' s m N hr hk hk'
  have hat := swap_at at' k k' s m hl hk hk'
  have hrN : ∀ i, i + 1 < m → restF at' k i < N := by
    intro i hi
    unfold restF
    exact atF_lt at' N m hr _ (by split <;> omega)
  have hN : ∀ i, i < m → atF (swapI at' k k' s) i < N := by
    intro i hi
    rw [hat i hi]
    by_cases a1 : i < k'
    · rw [if_pos a1]; exact hrN i (by omega)
    · rw [if_neg a1]
      by_cases a2 : i = k'
      · rw [if_pos a2]; exact hs
      · rw [if_neg a2]; exact hrN (i - 1) (by omega)
  have hri : ∀ i, i + 1 < m → atF (swapI at' k k' s) i < atF (swapI at' k k' s) (i + 1) := by
    intro i hi
    rw [hat i (by omega), hat (i + 1) hi]
    by_cases a1 : i + 1 < k'
    · rw [if_pos (by omega), if_pos a1]
      exact rest_rise at' k m N hr i (i + 1) (by omega) (by omega)
    · by_cases a2 : i + 1 = k'
      · rw [if_pos (by omega), if_neg a1, if_pos a2]
        exact h2 i (by omega)
      · by_cases a3 : i = k'
        · rw [if_neg (by omega), if_pos a3, if_neg a1, if_neg a2]
          exact h3 (i + 1 - 1) (by omega) (by omega)
        · rw [if_neg (by omega), if_neg a3, if_neg a1, if_neg a2]
          exact rest_rise at' k m N hr (i - 1) (i + 1 - 1) (by omega) (by omega)
  refine right_of _ m N (swap_len at' k k' s m hl hk hk') fun i hi => ?_
  have b1 := hN i hi
  rw [hv2 i hi]
  refine ⟨?_, by omega⟩
  cases i with
  | zero => show (0 : Int) ≤ _; omega
  | succ i =>
    show (swapI at' k k' s)[i]?.getD 0 + 1 ≤ _
    rw [hv2 i (by omega)]
    have := hri i hi
    omega

theorem swap_inB (at' : List Int) (k k' s m N : Nat) (hr : rightB at' m N = true) (hk : k < m) (hk' : k' < m) (j : Nat) : inB (swapI at' k k' s) m j = (if j = s then true else if j = atF at' k then false else inB at' m j) := by
  obtain ⟨hl, _⟩ := right_all at' m N hr
  have hat := swap_at at' k k' s m hl hk hk'
  have hdist : ∀ l, l < m → l ≠ k → atF at' l ≠ atF at' k := by
    intro l hlm hne
    by_cases hlk : l < k
    · have := atF_rise at' N m hr k hk l hlk; omega
    · have := atF_rise at' N m hr l hlm k (by omega); omega
  by_cases hjs : j = s
  · rw [if_pos hjs]
    refine (inB_true _ _ _).2 ⟨k', hk', ?_⟩
    rw [hat k' hk', if_neg (by omega), if_pos rfl, hjs]
  · rw [if_neg hjs]
    by_cases hjo : j = atF at' k
    · rw [if_pos hjo]
      refine (inB_false _ _ _).2 fun i hi => ?_
      rw [hat i hi]
      by_cases a1 : i < k'
      · rw [if_pos a1, hjo]
        unfold restF
        exact hdist _ (by split <;> omega) (by split <;> omega)
      · rw [if_neg a1]
        by_cases a2 : i = k'
        · rw [if_pos a2]; omega
        · rw [if_neg a2, hjo]
          unfold restF
          exact hdist _ (by split <;> omega) (by split <;> omega)
    · rw [if_neg hjo]
      cases hb : inB at' m j with
      | false =>
        have hb' := (inB_false _ _ _).1 hb
        refine (inB_false _ _ _).2 fun i hi => ?_
        rw [hat i hi]
        by_cases a1 : i < k'
        · rw [if_pos a1]
          unfold restF
          exact hb' _ (by split <;> omega)
        · rw [if_neg a1]
          by_cases a2 : i = k'
          · rw [if_pos a2]; omega
          · rw [if_neg a2]
            unfold restF
            exact hb' _ (by split <;> omega)
      | true =>
        obtain ⟨l, hlm, hlj⟩ := (inB_true _ _ _).1 hb
        have hlk : l ≠ k := by intro e; subst e; exact hjo hlj.symm
        obtain ⟨r, hrm, hre⟩ : ∃ r, r + 1 < m ∧ (if r < k then r else r + 1) = l := by
          by_cases c1 : l < k
          · exact ⟨l, by omega, if_pos c1⟩
          · exact ⟨l - 1, by omega, by rw [if_neg (by omega)]; omega⟩
        have hrj : restF at' k r = j := by unfold restF; rw [hre]; exact hlj
        by_cases c2 : r < k'
        · refine (inB_true _ _ _).2 ⟨r, by omega, ?_⟩
          rw [hat r (by omega), if_pos c2]; exact hrj
        · refine (inB_true _ _ _).2 ⟨r + 1, hrm, ?_⟩
          rw [hat (r + 1) hrm, if_neg (by omega), if_neg (by omega)]
          exact hrj

end Num
end Go.Proofs.Ytipcbhodlgoflab

/- One step of a walk, whole: in plain numbers. -/
namespace Go.Proofs.Ytipcbhodlgoflab
namespace Num

theorem next_of (p : Lp) (at' : List Int) (m n s k : Nat) (hmay : p.may = true) (hm : m = p.rows.length) (hr : rightB at' m (n + m) = true) (hd : denL p at' m ≠ 0) (hx : ∀ j : Nat, 0 ≤ sgD p at' m * (xL p at' m (n + m))[j]?.getD 0)
    (hs : s < n + m) (sg : 0 < sgD p at' m * (gainL p at' m (n + m))[s]?.getD 0) (sl : ∀ j : Nat, j < s → sgD p at' m * (gainL p at' m (n + m))[j]?.getD 0 ≤ 0)
    (hk : k < m) (falls : 0 < sgD p at' m * (wayL p at' m s)[k]?.getD 0)
    (near : ∀ l, l < m → 0 < sgD p at' m * (wayL p at' m s)[l]?.getD 0 → (sgD p at' m * (xL p at' m (n + m))[atF at' k]?.getD 0) * (sgD p at' m * (wayL p at' m s)[l]?.getD 0) ≤ (sgD p at' m * (xL p at' m (n + m))[atF at' l]?.getD 0) * (sgD p at' m * (wayL p at' m s)[k]?.getD 0) ∧
      ((sgD p at' m * (xL p at' m (n + m))[atF at' k]?.getD 0) * (sgD p at' m * (wayL p at' m s)[l]?.getD 0) = (sgD p at' m * (xL p at' m (n + m))[atF at' l]?.getD 0) * (sgD p at' m * (wayL p at' m s)[k]?.getD 0) → k ≤ l)) :
    ∃ k', k' < m ∧ (∀ i, i < k' → restF at' k i < s) ∧ (∀ i, k' ≤ i → i + 1 < m → s < restF at' k i) ∧ NextOk p at' (swapI at' k k' s) m (n + m) s k ∧ ∀ j : Nat, 0 ≤ sgD p (swapI at' k k' s) m * (xL p (swapI at' k k' s) m (n + m))[j]?.getD 0 := by
  have h1 : 1 ≤ m := by have := (p.may_of hmay).2.2.1.1; omega
  have h4 : m ≤ 4 := by have := (p.may_of hmay).2.2.1.2; omega
  have hsb : inB at' m s = false := by
    cases hb : inB at' m s with
    | false => rfl
    | true =>
      obtain ⟨i, hi, he⟩ := (inB_true at' m s).1 hb
      have := comes_gain p at' m n hmay hm hr i hi
      rw [← he, this] at sg
      omega
  obtain ⟨k', a1, a2, a3⟩ := place_of (restF at' k) s (m - 1) (fun i j hij hj => rest_rise at' k m (n + m) hr i j hij (by omega)) (fun i hi => by
    unfold restF
    exact (inB_false at' m s).1 hsb _ (by split <;> omega))
  have hk' : k' < m := by omega
  have hok : NextOk p at' (swapI at' k k' s) m (n + m) s k := by
    refine ⟨hr, swap_right at' k k' s m (n + m) hr hk hk' hs a2 (fun i hi hi2 => a3 i hi (by omega)), hd, ?_, hs, sg, sl, hk, falls, ?_, swap_inB at' k k' s m (n + m) hr hk hk'⟩
    · rw [den_swap p at' k k' s m (right_all at' m _ hr).1 h1 h4 hk hk']
      have hw : (wayL p at' m s)[k]?.getD 0 ≠ 0 := by intro e; rw [e] at falls; omega
      unfold sgn
      split <;> omega
    · intro l hl hwl he
      refine (near l hl hwl).2 ?_
      generalize (xL p at' m (n + m))[atF at' k]?.getD 0 = x1 at *
      generalize (wayL p at' m s)[l]?.getD 0 = w1 at *
      generalize (xL p at' m (n + m))[atF at' l]?.getD 0 = x2 at *
      generalize (wayL p at' m s)[k]?.getD 0 = w2 at *
      generalize sgD p at' m = g at *
      grind
  exact ⟨k', hk', a2, fun i hi hi2 => a3 i hi (by omega), hok, next_above p at' _ m n s k hmay hm hok hx fun l hl hwl => (near l hl hwl).1⟩

end Num
end Go.Proofs.Ytipcbhodlgoflab

/- Rising columns with one out and another in, put the document's way and by sorting: one and the same. In plain numbers. -/
namespace Go.Proofs.Ytipcbhodlgoflab
namespace Num

/-- Rising numbers are told by which ones they are. -/
theorem rise_one : ∀ (a b : List Int), a.Pairwise (· < ·) → b.Pairwise (· < ·) → (∀ x, x ∈ a ↔ x ∈ b) → a = b
  | [], [], _, _, _ => rfl
  | [], y :: b, _, _, h => by have := (h y).2 (by simp); simp at this
  | x :: a, [], _, _, h => by have := (h x).1 (by simp); simp at this
  | x :: a, y :: b, ha, hb, h => by
    rw [List.pairwise_cons] at ha hb
    have hxy : x = y := by
      rcases List.mem_cons.1 ((h x).1 (by simp)) with e | e
      · exact e
      · rcases List.mem_cons.1 ((h y).2 (by simp)) with e2 | e2
        · exact e2.symm
        · have := hb.1 x e; have := ha.1 y e2; omega
    subst hxy
    congr 1
    refine rise_one a b ha.2 hb.2 fun z => ⟨fun hz => ?_, fun hz => ?_⟩
    · rcases List.mem_cons.1 ((h z).1 (List.mem_cons_of_mem _ hz)) with e | e
      · subst e; have := ha.1 z hz; omega
      · exact e
    · rcases List.mem_cons.1 ((h z).2 (List.mem_cons_of_mem _ hz)) with e | e
      · subst e; have := hb.1 z hz; omega
      · exact e

theorem right_pair (at' : List Int) (m N : Nat) (hr : rightB at' m N = true) : at'.Pairwise (· < ·) := by
  obtain ⟨hl, hv⟩ := right_all at' m N hr
  rw [List.pairwise_iff_getElem]
  intro i j hi hj hij
  have h1 := atF_rise at' N m hr j (by omega) i hij
  have h2 := hv i (by omega)
  have h3 := hv j (by omega)
  unfold atF at h1
  rw [List.getElem?_eq_getElem hi] at h1 h2
  rw [List.getElem?_eq_getElem hj] at h1 h3
  simp only [Option.getD_some] at h1 h2 h3
  omega

theorem right_mem (at' : List Int) (m N : Nat) (hr : rightB at' m N = true) (x : Int) : x ∈ at' ↔ 0 ≤ x ∧ inB at' m x.toNat = true := by
  obtain ⟨hl, hv⟩ := right_all at' m N hr
  constructor
  · intro hx
    obtain ⟨i, hi, rfl⟩ := List.getElem_of_mem hx
    have h2 := hv i (by omega)
    rw [List.getElem?_eq_getElem hi, Option.getD_some] at h2
    refine ⟨h2.1, (inB_true _ _ _).2 ⟨i, by omega, ?_⟩⟩
    unfold atF
    rw [List.getElem?_eq_getElem hi]; rfl
  · rintro ⟨h0, hb⟩
    obtain ⟨i, hi, he⟩ := (inB_true _ _ _).1 hb
    have h2 := hv i hi
    unfold atF at he
    rw [List.getElem?_eq_getElem (by omega)] at h2 he
    simp only [Option.getD_some] at h2 he
    have : x = at'[i] := by omega
    rw [this]; exact List.getElem_mem _

theorem at_val (at' : List Int) (m N : Nat) (hr : rightB at' m N = true) (k : Nat) (hk : k < m) : at'[k]?.getD 0 = (atF at' k : Int) := by
  have := (right_all at' m N hr).2 k hk
  unfold atF; omega

/-- One out, another in: the document's way, k numbers gone through. -/
def swapGo (at' : List Int) (out s : Int) : Nat → List Int × Bool
  | 0 => ([], false)
  | k + 1 => (if at'[k]?.getD 0 = out then (if s < at'[k]?.getD 0 ∧ (swapGo at' out s k).2 = false then (swapGo at' out s k).1 ++ [s] else (swapGo at' out s k).1) else (if s < at'[k]?.getD 0 ∧ (swapGo at' out s k).2 = false then (swapGo at' out s k).1 ++ [s] else (swapGo at' out s k).1) ++ [at'[k]?.getD 0],
      (swapGo at' out s k).2 || decide (s < at'[k]?.getD 0))

def swapN (at' : List Int) (out s : Int) (m : Nat) : List Int := if (swapGo at' out s m).2 = true then (swapGo at' out s m).1 else (swapGo at' out s m).1 ++ [s]

theorem pair_snoc (l : List Int) (x : Int) (h : l.Pairwise (· < ·)) (hx : ∀ y ∈ l, y < x) : (l ++ [x]).Pairwise (· < ·) := by
  rw [List.pairwise_append]
  exact ⟨h, List.pairwise_singleton _ _, fun a ha b hb => by rw [List.mem_singleton] at hb; subst hb; exact hx a ha⟩

theorem swapGo_ok (at' : List Int) (out s : Int) (m : Nat) (hl : at'.length = m) (hp : at'.Pairwise (· < ·)) (hs : s ∉ at') : ∀ k, k ≤ m →
    (swapGo at' out s k).1.Pairwise (· < ·) ∧ (∀ y, y ∈ (swapGo at' out s k).1 ↔ (y = s ∧ (swapGo at' out s k).2 = true) ∨ (y ≠ out ∧ ∃ i, i < k ∧ at'[i]?.getD 0 = y)) ∧ ((swapGo at' out s k).2 = true ↔ ∃ i, i < k ∧ s < at'[i]?.getD 0) := by
  intro k
  induction k with
  | zero => intro _; exact ⟨List.Pairwise.nil, fun y => by simp [swapGo], by simp [swapGo]⟩
  | succ k ih =>
    intro hk
    obtain ⟨h1, h2, h3⟩ := ih (by omega)
    have hrise : ∀ i, i < k → at'[i]?.getD 0 < at'[k]?.getD 0 := by
      intro i hi
      have := (List.pairwise_iff_getElem.1 hp) i k (by omega) (by omega) hi
      rw [List.getElem?_eq_getElem (by omega), List.getElem?_eq_getElem (by omega)]
      exact this
    have hne : ∀ i, i < m → at'[i]?.getD 0 ≠ s := by
      intro i hi e
      apply hs
      rw [← e, List.getElem?_eq_getElem (by omega)]
      exact List.getElem_mem _
    have hnk := hne k (by omega)
    unfold swapGo
    dsimp only
    generalize (swapGo at' out s k).1 = l at *
    generalize (swapGo at' out s k).2 = d at *
    generalize hx : at'[k]?.getD 0 = x at *
    -- the list with s put in where it is due
    obtain ⟨q, hq⟩ : ∃ q, (if s < x ∧ d = false then l ++ [s] else l) = q := ⟨_, rfl⟩
    have hq1 : q.Pairwise (· < ·) ∧ (∀ y, y ∈ q ↔ (y = s ∧ (d || decide (s < x)) = true) ∨ (y ≠ out ∧ ∃ i, i < k ∧ at'[i]?.getD 0 = y)) ∧ ∀ y ∈ q, y < x := by
      by_cases hc : s < x ∧ d = false
      · rw [if_pos hc] at hq
        have hls : ∀ y ∈ l, y < s := by
          intro y hy
          rcases (h2 y).1 hy with ⟨_, hd⟩ | ⟨_, i, hi, rfl⟩
          · rw [hc.2] at hd; cases hd
          · have a1 : ¬ s < at'[i]?.getD 0 := fun h => by
              have := h3.2 ⟨i, hi, h⟩
              rw [hc.2] at this; cases this
            have a2 := hne i (by omega)
            omega
        subst hq
        refine ⟨pair_snoc l s h1 hls, fun y => ?_, fun y hy => ?_⟩
        · rw [List.mem_append, List.mem_singleton, h2 y]
          simp only [hc.2, hc.1, decide_true, Bool.or_true, and_true]
          simp
          constructor
          · rintro (h | h)
            · exact Or.inr h
            · exact Or.inl h
          · rintro (h | h)
            · exact Or.inr h
            · exact Or.inl h
        · rw [List.mem_append, List.mem_singleton] at hy
          rcases hy with hy | rfl
          · have := hls y hy; omega
          · exact hc.1
      · rw [if_neg hc] at hq
        subst hq
        have hdd : (d || decide (s < x)) = d := by
          cases d with
          | true => rfl
          | false =>
            have : ¬ s < x := fun h => hc ⟨h, rfl⟩
            simp [this]
        rw [hdd]
        refine ⟨h1, h2, fun y hy => ?_⟩
        rcases (h2 y).1 hy with ⟨rfl, hd⟩ | ⟨_, i, hi, rfl⟩
        · obtain ⟨i, hi, hlt⟩ := h3.1 hd
          have := hrise i hi; omega
        · exact hrise i hi
    rw [hq]
    obtain ⟨q1, q2, q3⟩ := hq1
    have hd' : (d || decide (s < x)) = true ↔ ∃ i, i < k + 1 ∧ s < at'[i]?.getD 0 := by
      rw [Bool.or_eq_true, h3, decide_eq_true_eq]
      constructor
      · rintro (⟨i, hi, h⟩ | h)
        · exact ⟨i, by omega, h⟩
        · exact ⟨k, by omega, by rw [hx]; exact h⟩
      · rintro ⟨i, hi, h⟩
        by_cases hik : i = k
        · subst hik; rw [hx] at h; exact Or.inr h
        · exact Or.inl ⟨i, by omega, h⟩
    refine ⟨?_, fun y => ?_, hd'⟩
    · by_cases hxo : x = out
      · rw [if_pos hxo]; exact q1
      · rw [if_neg hxo]; exact pair_snoc q x q1 q3
    · by_cases hxo : x = out
      · rw [if_pos hxo, q2 y]
        constructor
        · rintro (h | ⟨g1, i, hi, g2⟩)
          · exact Or.inl h
          · exact Or.inr ⟨g1, i, by omega, g2⟩
        · rintro (h | ⟨g1, i, hi, g2⟩)
          · exact Or.inl h
          · refine Or.inr ⟨g1, i, ?_, g2⟩
            by_cases hik : i = k
            · subst hik; rw [hx] at g2; exact absurd (g2.symm.trans hxo) g1
            · omega
      · rw [if_neg hxo, List.mem_append, List.mem_singleton, q2 y]
        constructor
        · rintro ((h | ⟨g1, i, hi, g2⟩) | h)
          · exact Or.inl h
          · exact Or.inr ⟨g1, i, by omega, g2⟩
          · subst h; exact Or.inr ⟨hxo, k, by omega, hx⟩
        · rintro (h | ⟨g1, i, hi, g2⟩)
          · exact Or.inl (Or.inl h)
          · by_cases hik : i = k
            · subst hik; rw [hx] at g2; exact Or.inr g2.symm
            · exact Or.inl (Or.inr ⟨g1, i, by omega, g2⟩)

theorem swapN_ok (at' : List Int) (out s : Int) (m : Nat) (hl : at'.length = m) (hp : at'.Pairwise (· < ·)) (hs : s ∉ at') :
    (swapN at' out s m).Pairwise (· < ·) ∧ ∀ y, y ∈ swapN at' out s m ↔ y = s ∨ (y ≠ out ∧ y ∈ at') := by
  obtain ⟨h1, h2, h3⟩ := swapGo_ok at' out s m hl hp hs m (Nat.le_refl _)
  have hmem : ∀ y, (∃ i, i < m ∧ at'[i]?.getD 0 = y) ↔ y ∈ at' := by
    intro y
    constructor
    · rintro ⟨i, hi, rfl⟩
      rw [List.getElem?_eq_getElem (by omega)]
      exact List.getElem_mem _
    · intro hy
      obtain ⟨i, hi, rfl⟩ := List.getElem_of_mem hy
      exact ⟨i, by omega, by rw [List.getElem?_eq_getElem hi]; rfl⟩
  have hne : ∀ i, i < m → at'[i]?.getD 0 ≠ s := fun i hi e => hs (by rw [← e, List.getElem?_eq_getElem (by omega)]; exact List.getElem_mem _)
  unfold swapN
  generalize (swapGo at' out s m).1 = l at *
  generalize (swapGo at' out s m).2 = d at *
  cases d with
  | true =>
    rw [if_pos rfl]
    refine ⟨h1, fun y => ?_⟩
    rw [h2 y, hmem y]; simp
  | false =>
    rw [if_neg (by decide)]
    refine ⟨pair_snoc l s h1 fun y hy => ?_, fun y => ?_⟩
    · rcases (h2 y).1 hy with ⟨_, hd⟩ | ⟨_, i, hi, rfl⟩
      · cases hd
      · have a1 : ¬ s < at'[i]?.getD 0 := fun h => by cases h3.2 ⟨i, hi, h⟩
        have a2 := hne i hi
        omega
    · rw [List.mem_append, List.mem_singleton, h2 y, hmem y]
      simp
      constructor
      · rintro (h | h)
        · exact Or.inr h
        · exact Or.inl h
      · rintro (h | h)
        · exact Or.inr h
        · exact Or.inl h

theorem swapI_mem (at' : List Int) (k k' s m N : Nat) (hr : rightB at' m N = true) (hk : k < m) (hk' : k' < m) (hr2 : rightB (swapI at' k k' s) m N = true) (y : Int) : y ∈ swapI at' k k' s ↔ y = s ∨ (y ≠ at'[k]?.getD 0 ∧ y ∈ at') := by
  rw [right_mem _ m N hr2 y, right_mem at' m N hr y, swap_inB at' k k' s m N hr hk hk', at_val at' m N hr k hk]
  constructor
  · rintro ⟨h0, h⟩
    by_cases h1 : y.toNat = s
    · exact Or.inl (by omega)
    · rw [if_neg h1] at h
      by_cases h2 : y.toNat = atF at' k
      · rw [if_pos h2] at h; cases h
      · rw [if_neg h2] at h; exact Or.inr ⟨by omega, h0, h⟩
  · rintro (rfl | ⟨h1, h0, h⟩)
    · exact ⟨by omega, by rw [if_pos (by omega)]⟩
    · refine ⟨h0, ?_⟩
      by_cases h2 : y.toNat = s
      · rw [if_pos h2]
      · rw [if_neg h2, if_neg (by omega)]; exact h

/-- The document's way comes to the one place. -/
theorem swap_doc (at' : List Int) (k k' s m N : Nat) (hr : rightB at' m N = true) (hk : k < m) (hk' : k' < m) (hr2 : rightB (swapI at' k k' s) m N = true) (hsb : inB at' m s = false) : swapN at' (at'[k]?.getD 0) s m = swapI at' k k' s := by
  have hs : (s : Int) ∉ at' := by
    intro h
    have := ((right_mem at' m N hr s).1 h).2
    rw [Int.toNat_natCast, hsb] at this; cases this
  obtain ⟨h1, h2⟩ := swapN_ok at' (at'[k]?.getD 0) s m (right_all at' m N hr).1 (right_pair at' m N hr) hs
  refine rise_one _ _ h1 (right_pair _ m N hr2) fun y => ?_
  rw [h2 y, swapI_mem at' k k' s m N hr hk hk' hr2 y]

end Num
end Go.Proofs.Ytipcbhodlgoflab

/- The next corner, in plain numbers: what Look tells of this one, and of how its columns make another one up. -/
namespace Go.Proofs.Ytipcbhodlgoflab
namespace Num

/-- The program whose rows are at most what column s has. -/
def askP (p : Lp) (s : Nat) : Lp := ⟨p.costs, (List.range p.rows.length).map fun i => ((p.rows[i]?.getD ([], 0)).1, hasF p s i)⟩

theorem ask_len (p : Lp) (s : Nat) : (askP p s).rows.length = p.rows.length := by simp [askP]
theorem ask_costs (p : Lp) (s : Nat) : (askP p s).costs = p.costs := rfl

theorem ask_row (p : Lp) (s i : Nat) (hi : i < p.rows.length) : (askP p s).rows[i]?.getD ([], 0) = ((p.rows[i]?.getD ([], 0)).1, hasF p s i) := by
  unfold askP
  dsimp only
  rw [List.getElem?_map, List.getElem?_range hi]
  rfl

theorem ask_has (p : Lp) (s j i : Nat) (hi : i < p.rows.length) : hasF (askP p s) j i = hasF p j i := by
  unfold hasF
  rw [ask_row p s i hi, ask_costs]

theorem ask_may (p : Lp) (s : Nat) (hmay : p.may = true) : (askP p s).may = true := by
  obtain ⟨h1, h2, h3, h4⟩ := p.may_of hmay
  unfold Lp.may
  rw [ask_costs, ask_len]
  simp only [Bool.and_eq_true, decide_eq_true_eq]
  refine ⟨⟨⟨⟨⟨h1.1, h1.2⟩, h2⟩, h3.1⟩, h3.2⟩, ?_⟩
  rw [List.all_eq_true]
  intro r hr
  unfold askP at hr
  dsimp only at hr
  obtain ⟨i, hi, rfl⟩ := List.mem_map.1 hr
  rw [List.mem_range] at hi
  obtain ⟨a1, a2, _⟩ := p.row_of hmay i hi
  have a4 := hasF_bd p hmay s i
  unfold rowB
  simp [a1, a2, withinB_one, a4.1, a4.2]

theorem ask_chosen (p : Lp) (s : Nat) (at' : List Int) (m : Nat) (hm : m = p.rows.length) : chosenL (askP p s) at' m = chosenL p at' m := by
  unfold chosenL
  refine List.map_congr_left fun k _ => List.map_congr_left fun i hi => ?_
  rw [List.mem_range] at hi
  exact ask_has p s _ i (by omega)

theorem ask_den (p : Lp) (s : Nat) (at' : List Int) (m : Nat) (hm : m = p.rows.length) : denL (askP p s) at' m = denL p at' m := by
  unfold denL; rw [ask_chosen p s at' m hm]

theorem ask_sgD (p : Lp) (s : Nat) (at' : List Int) (m : Nat) (hm : m = p.rows.length) : sgD (askP p s) at' m = sgD p at' m := by
  unfold sgD; rw [ask_den p s at' m hm]

theorem ask_x (p : Lp) (s : Nat) (at' : List Int) (m N : Nat) (hm : m = p.rows.length) : xL (askP p s) at' m N = spreadN N at' (wayL p at' m s) m := by
  unfold xL wayL
  rw [ask_chosen p s at' m hm]
  congr 2
  unfold mostsL colF
  refine List.map_congr_left fun i hi => ?_
  rw [List.mem_range] at hi
  unfold mostF
  rw [ask_row p s i (by omega)]

/-- What Look tells has the signs of what it is made of. -/
theorem look_parts (p : Lp) (at' : List Int) (m n : Nat) (hmay : p.may = true) (hm : m = p.rows.length) (hn : n = p.costs.length) (hr : rightB at' m (n + m) = true) (hd : denL p at' m ≠ 0) :
    (look p at').err = 0 ∧ (look p at').x.length = n + m ∧ (look p at').g.length = n + m ∧ (1 ≤ (look p at').xd ∧ (look p at').xd ≤ 497664) ∧ (∀ j : Nat, -497664 ≤ (look p at').x[j]?.getD 0 ∧ (look p at').x[j]?.getD 0 ≤ 497664) ∧
    ∃ gx gg : Int, 0 < gx ∧ 0 < gg ∧ (∀ j : Nat, sgD p at' m * (xL p at' m (n + m))[j]?.getD 0 = gx * (look p at').x[j]?.getD 0) ∧ sgD p at' m * denL p at' m = gx * (look p at').xd ∧ ∀ j : Nat, sgD p at' m * (gainL p at' m (n + m))[j]?.getD 0 = gg * (look p at').g[j]?.getD 0 := by
  obtain ⟨c0, c1, _, c3, c4, _, c6, _⟩ := look_comes p at' m n hmay hm hn hr hd
  refine ⟨c0, c1, c3, c4, c6, ?_⟩
  have h1 : 1 ≤ m := by have := (p.may_of hmay).2.2.1.1; omega
  have h4 : m ≤ 4 := by have := (p.may_of hmay).2.2.1.2; omega
  have hn4 : n ≤ 4 := by have := (p.may_of hmay).1.2; omega
  have hden := den_bd12 p at' m hmay h1 h4
  have xb := x_bd p at' m (n + m) hmay hm
  have gb := gain_bd p at' m (n + m) hmay hm
  obtain ⟨gx, gx0, _, xlen, xeq, xdeq, xd1, _, _⟩ := pt_ok (xL p at' m (n + m)) (denL p at' m) hd (by omega) (fun j => by have := xb j; omega) (by unfold xL; rw [spread_len]; omega)
  obtain ⟨gg, gg0, _, glen, geq, gdeq, gd1, _, _⟩ := pt_ok (gainL p at' m (n + m)) (denL p at' m) hd (by omega) gb (by unfold gainL; simp; omega)
  have hl := look_some p at' hmay (by rw [← hm, ← hn]; exact hr) (by rw [← hm]; exact hd) m (n + m) hm (by rw [← hm, ← hn])
  rw [hl]
  dsimp only
  generalize (pt (xL p at' m (n + m)) (denL p at' m)).1 = X at *
  generalize (pt (xL p at' m (n + m)) (denL p at' m)).2.1 = XD at *
  generalize (pt (gainL p at' m (n + m)) (denL p at' m)).1 = G at *
  generalize (pt (gainL p at' m (n + m)) (denL p at' m)).2.1 = GD at *
  have hs := sgD_pos p at' m hd
  generalize sgD p at' m = σ at *
  have key : ∀ g D : Int, denL p at' m = g * D → 1 ≤ D → 0 < σ * g := by
    intro g D he hD
    rw [he, ← Int.mul_assoc] at hs
    by_cases h : 0 < σ * g
    · exact h
    · have := Int.mul_le_mul_of_nonneg_right (Int.not_lt.1 h) (show 0 ≤ D by omega)
      omega
  exact ⟨σ * gx, σ * gg, key gx XD xdeq xd1, key gg GD gdeq gd1, fun j => by rw [xeq j, Int.mul_assoc], by rw [xdeq, Int.mul_assoc], fun j => by rw [geq j, Int.mul_assoc]⟩

theorem pos_mul_iff (g x : Int) (hg : 0 < g) : 0 < g * x ↔ 0 < x := by
  constructor
  · intro h
    by_cases hx : 0 < x
    · exact hx
    · have := Int.mul_nonpos_of_nonneg_of_nonpos (Int.le_of_lt hg) (Int.not_lt.1 hx); omega
  · intro h; exact Int.mul_pos hg h

theorem nonneg_mul_iff (g x : Int) (hg : 0 < g) : 0 ≤ g * x ↔ 0 ≤ x := by
  constructor
  · intro h
    by_cases hx : 0 ≤ x
    · exact hx
    · have := Int.mul_neg_of_pos_of_neg hg (Int.not_le.1 hx); omega
  · intro h; exact Int.mul_nonneg (Int.le_of_lt hg) h

/-- The first number above 0; -1 if there is none: k numbers gone through. -/
def firstN (g : List Int) : Nat → Int
  | 0 => -1
  | k + 1 => if 0 ≤ firstN g k then firstN g k else if 0 < g[k]?.getD 0 then k else -1

theorem first_ok (g : List Int) : ∀ k, (firstN g k = -1 ∧ ∀ j, j < k → g[j]?.getD 0 ≤ 0) ∨ (∃ s : Nat, s < k ∧ firstN g k = s ∧ 0 < g[s]?.getD 0 ∧ ∀ j, j < s → g[j]?.getD 0 ≤ 0) := by
  intro k
  induction k with
  | zero => exact Or.inl ⟨rfl, fun j hj => by omega⟩
  | succ k ih =>
    rcases ih with ⟨h1, h2⟩ | ⟨s, h1, h2, h3, h4⟩
    · unfold firstN
      rw [h1, if_neg (by omega)]
      by_cases hk : 0 < g[k]?.getD 0
      · rw [if_pos hk]; exact Or.inr ⟨k, by omega, rfl, hk, h2⟩
      · rw [if_neg hk]
        refine Or.inl ⟨rfl, fun j hj => ?_⟩
        by_cases hjk : j = k
        · subst hjk; omega
        · exact h2 j (by omega)
    · refine Or.inr ⟨s, by omega, ?_, h3, h4⟩
      unfold firstN
      rw [if_pos (by omega), h2]

/-- The place that goes out: k places gone through. -/
def outN (at' x v : List Int) : Nat → Int
  | 0 => -1
  | k + 1 => if 0 < v[atF at' k]?.getD 0 ∧ (outN at' x v k < 0 ∨ x[atF at' k]?.getD 0 * v[atF at' (outN at' x v k).toNat]?.getD 0 < x[atF at' (outN at' x v k).toNat]?.getD 0 * v[atF at' k]?.getD 0) then k else outN at' x v k

theorem cross_trans (xa va xb vb xc vc : Int) (ha : 0 < va) (hb : 0 < vb) (hc : 0 < vc) (h1 : xa * vb < xb * va) (h2 : xb * vc ≤ xc * vb) : xa * vc < xc * va := by
  have e1 : xa * vb * vc < xb * va * vc := Int.mul_lt_mul_of_pos_right h1 hc
  have e2 : xb * vc * va ≤ xc * vb * va := Int.mul_le_mul_of_nonneg_right h2 (Int.le_of_lt ha)
  have e3 : vb * (xa * vc) < vb * (xc * va) := by
    have a1 : vb * (xa * vc) = xa * vb * vc := by grind
    have a2 : xb * va * vc = xb * vc * va := by grind
    have a3 : vb * (xc * va) = xc * vb * va := by grind
    omega
  exact Int.lt_of_mul_lt_mul_left e3 (Int.le_of_lt hb)

theorem out_ok (at' x v : List Int) : ∀ k, (outN at' x v k = -1 ∧ ∀ l, l < k → v[atF at' l]?.getD 0 ≤ 0) ∨
    (∃ o : Nat, o < k ∧ outN at' x v k = o ∧ 0 < v[atF at' o]?.getD 0 ∧ ∀ l, l < k → 0 < v[atF at' l]?.getD 0 → x[atF at' o]?.getD 0 * v[atF at' l]?.getD 0 ≤ x[atF at' l]?.getD 0 * v[atF at' o]?.getD 0 ∧ (x[atF at' o]?.getD 0 * v[atF at' l]?.getD 0 = x[atF at' l]?.getD 0 * v[atF at' o]?.getD 0 → o ≤ l)) := by
  intro k
  induction k with
  | zero => exact Or.inl ⟨rfl, fun j hj => by omega⟩
  | succ k ih =>
    rcases ih with ⟨h1, h2⟩ | ⟨o, h1, h2, h3, h4⟩
    · unfold outN
      rw [h1]
      by_cases hk : 0 < v[atF at' k]?.getD 0
      · rw [if_pos ⟨hk, Or.inl (by omega)⟩]
        refine Or.inr ⟨k, by omega, rfl, hk, fun l hl hlv => ?_⟩
        by_cases hlk : l = k
        · subst hlk; exact ⟨Int.le_refl _, fun _ => Nat.le_refl _⟩
        · have := h2 l (by omega); omega
      · rw [if_neg (fun h => hk h.1)]
        refine Or.inl ⟨rfl, fun l hl => ?_⟩
        by_cases hlk : l = k
        · subst hlk; omega
        · exact h2 l (by omega)
    · unfold outN
      rw [h2, Int.toNat_natCast]
      by_cases hc : 0 < v[atF at' k]?.getD 0 ∧ ((o : Int) < 0 ∨ x[atF at' k]?.getD 0 * v[atF at' o]?.getD 0 < x[atF at' o]?.getD 0 * v[atF at' k]?.getD 0)
      · rw [if_pos hc]
        obtain ⟨hk, hc2⟩ := hc
        have hlt := hc2.resolve_left (by omega)
        refine Or.inr ⟨k, by omega, rfl, hk, fun l hl hlv => ?_⟩
        by_cases hlk : l = k
        · subst hlk; exact ⟨Int.le_refl _, fun _ => Nat.le_refl _⟩
        · have := cross_trans _ _ _ _ _ _ hk h3 hlv hlt (h4 l (by omega) hlv).1
          exact ⟨by omega, fun e => by omega⟩
      · rw [if_neg hc]
        refine Or.inr ⟨o, by omega, rfl, h3, fun l hl hlv => ?_⟩
        by_cases hlk : l = k
        · subst hlk
          have : ¬ x[atF at' l]?.getD 0 * v[atF at' o]?.getD 0 < x[atF at' o]?.getD 0 * v[atF at' l]?.getD 0 := fun h => hc ⟨hlv, Or.inr h⟩
          exact ⟨by omega, fun _ => by omega⟩
        · exact h4 l (by omega) hlv

/-- What Next answers: columns, a kind, what is wrong. -/
def nextN (p : Lp) (at' : List Int) : List Int × Int × Int :=
  if (look p at').err ≠ 0 then ([], 0, (look p at').err)
  else if anyNeg (look p at').x = true then ([], 0, 3)
  else if firstN (look p at').g (look p at').g.length < 0 then ([], 1, 0)
  else if outN at' (look p at').x (look (askP p (firstN (look p at').g (look p at').g.length).toNat) at').x at'.length < 0 then ([], 2, 0)
  else (swapN at' (at'[(outN at' (look p at').x (look (askP p (firstN (look p at').g (look p at').g.length).toNat) at').x at'.length).toNat]?.getD 0) (firstN (look p at').g (look p at').g.length) at'.length, 0, 0)

end Num
end Go.Proofs.Ytipcbhodlgoflab

/- Walks, in plain numbers: what Next and Walk answer, and that a walk is one, and ends. -/
namespace Go.Proofs.Ytipcbhodlgoflab
namespace Num

/-- A corner that goes. -/
structure Good (p : Lp) (at' : List Int) (m n : Nat) : Prop where
  right : rightB at' m (n + m) = true
  den : denL p at' m ≠ 0
  x : ∀ j : Nat, 0 ≤ sgD p at' m * (xL p at' m (n + m))[j]?.getD 0

theorem anyNeg_false (l : List Int) : anyNeg l = false ↔ ∀ j : Nat, 0 ≤ l[j]?.getD 0 := by
  unfold anyNeg
  rw [List.any_eq_false]
  constructor
  · intro h j
    by_cases hj : j < l.length
    · have := h (l[j]?.getD 0) (by rw [List.getElem?_eq_getElem hj]; exact List.getElem_mem _)
      simpa using this
    · rw [List.getElem?_eq_none (by omega)]; simp
  · intro h x hx
    obtain ⟨j, hj, rfl⟩ := List.getElem_of_mem hx
    have := h j
    rw [List.getElem?_eq_getElem hj] at this
    simpa using this

/-- The parts of a corner that goes. -/
theorem good_of (p : Lp) (at' : List Int) (m n : Nat) (hmay : p.may = true) (hm : m = p.rows.length) (hn : n = p.costs.length) : ((look p at').err = 0 ∧ anyNeg (look p at').x = false) ↔ Good p at' m n := by
  constructor
  · rintro ⟨h1, h2⟩
    cases hr : rightB at' m (n + m) with
    | false =>
      rw [look_range p at' hmay (by rw [← hm, ← hn]; exact hr)] at h1
      simp [noLook] at h1
    | true =>
      by_cases hd : denL p at' m = 0
      · rw [look_none p at' hmay (by rw [← hm, ← hn]; exact hr) (by rw [← hm]; exact hd)] at h1
        simp [noLook] at h1
      · obtain ⟨_, _, _, _, _, gx, gg, gx0, _, hx, _⟩ := look_parts p at' m n hmay hm hn hr hd
        refine ⟨hr, hd, fun j => ?_⟩
        rw [hx j]
        exact (nonneg_mul_iff _ _ gx0).2 ((anyNeg_false _).1 h2 j)
  · rintro ⟨hr, hd, hx0⟩
    obtain ⟨h0, _, _, _, _, gx, gg, gx0, _, hx, _⟩ := look_parts p at' m n hmay hm hn hr hd
    refine ⟨h0, (anyNeg_false _).2 fun j => ?_⟩
    have := hx0 j
    rw [hx j] at this
    exact (nonneg_mul_iff _ _ gx0).1 this

theorem first_len (p : Lp) (at' : List Int) (m n : Nat) (hmay : p.may = true) (hm : m = p.rows.length) (hn : n = p.costs.length) (h : Good p at' m n) : (look p at').g.length = n + m ∧ at'.length = m ∧ 1 ≤ m ∧ m ≤ 4 ∧ n + m ≤ 8 := by
  obtain ⟨_, _, h2, _⟩ := look_parts p at' m n hmay hm hn h.right h.den
  have h1 := (p.may_of hmay).2.2.1
  have h3 := (p.may_of hmay).1
  exact ⟨h2, (right_all at' m _ h.right).1, by omega, by omega, by omega⟩

/-- The column that comes in is not among those of the corner. -/
theorem in_new (p : Lp) (at' : List Int) (m n : Nat) (hmay : p.may = true) (hm : m = p.rows.length) (hn : n = p.costs.length) (h : Good p at' m n) (s : Nat) (hs : 0 < (look p at').g[s]?.getD 0) : inB at' m s = false := by
  cases hb : inB at' m s with
  | false => rfl
  | true =>
    obtain ⟨i, hi, rfl⟩ := (inB_true at' m s).1 hb
    have := (look_comes p at' m n hmay hm hn h.right h.den).2.2.2.2.2.2.2.2.2.1 i hi
    omega

/-- How the columns of the corner make another one up, as Look tells it. -/
theorem ask_parts (p : Lp) (at' : List Int) (m n s : Nat) (hmay : p.may = true) (hm : m = p.rows.length) (hn : n = p.costs.length) (h : Good p at' m n) :
    (look (askP p s) at').err = 0 ∧ (look (askP p s) at').x.length = n + m ∧ (∀ j : Nat, -497664 ≤ (look (askP p s) at').x[j]?.getD 0 ∧ (look (askP p s) at').x[j]?.getD 0 ≤ 497664) ∧ ∃ gv : Int, 0 < gv ∧ ∀ k, k < m → sgD p at' m * (wayL p at' m s)[k]?.getD 0 = gv * (look (askP p s) at').x[atF at' k]?.getD 0 := by
  obtain ⟨h0, h1, _, _, h4, gx, _, gx0, _, hx, _⟩ := look_parts (askP p s) at' m n (ask_may p s hmay) (by rw [ask_len]; exact hm) hn h.right (by rw [ask_den p s at' m hm]; exact h.den)
  refine ⟨h0, h1, h4, gx, gx0, fun k hk => ?_⟩
  rw [← hx, ask_sgD p s at' m hm, ask_x p s at' m (n + m) hm, spread_in (n + m) at' _ m h.right m (Nat.le_refl _) k hk]

/-- What Next answers, by kinds. -/
theorem next_cases (p : Lp) (at' : List Int) (m n : Nat) (hmay : p.may = true) (hm : m = p.rows.length) (hn : n = p.costs.length) :
    (∃ e, e ≠ 0 ∧ nextN p at' = ([], 0, e) ∧ ¬ Good p at' m n) ∨ (Good p at' m n ∧ ((∃ k, k ≠ 0 ∧ (k = 1 ∨ k = 2) ∧ nextN p at' = ([], k, 0)) ∨ ∃ nx s k, nextN p at' = (nx, 0, 0) ∧ nx.length = m ∧ Good p nx m n ∧ NextOk p at' nx m (n + m) s k)) := by
  by_cases hg : Good p at' m n
  · refine Or.inr ⟨hg, ?_⟩
    obtain ⟨h1, h2⟩ := (good_of p at' m n hmay hm hn).2 hg
    obtain ⟨l1, l2, l3, l4, _⟩ := first_len p at' m n hmay hm hn hg
    obtain ⟨_, _, _, _, _, gx, gg, gx0, gg0, hx, _, hgn⟩ := look_parts p at' m n hmay hm hn hg.right hg.den
    unfold nextN
    rw [if_neg (by omega), if_neg (by rw [h2]; decide), l1, l2]
    rcases first_ok (look p at').g (n + m) with ⟨f1, f2⟩ | ⟨s, f1, f2, f3, f4⟩
    · rw [f1, if_pos (by omega)]
      exact Or.inl ⟨1, by omega, Or.inl rfl, rfl⟩
    · rw [f2, if_neg (by omega), Int.toNat_natCast]
      have hsb := in_new p at' m n hmay hm hn hg s f3
      obtain ⟨_, _, _, gv, gv0, hv⟩ := ask_parts p at' m n s hmay hm hn hg
      rcases out_ok at' (look p at').x (look (askP p s) at').x m with ⟨o1, o2⟩ | ⟨o, o1, o2, o3, o4⟩
      · rw [o1, if_pos (by omega)]
        exact Or.inl ⟨2, by omega, Or.inr rfl, rfl⟩
      · rw [o2, if_neg (by omega), Int.toNat_natCast]
        have hvi : ∀ l, l < m → (0 < sgD p at' m * (wayL p at' m s)[l]?.getD 0 ↔ 0 < (look (askP p s) at').x[atF at' l]?.getD 0) := fun l hl => by rw [hv l hl]; exact pos_mul_iff _ _ gv0
        obtain ⟨k', a1, a2, a3, a4, a5⟩ := next_of p at' m n s o hmay hm hg.right hg.den hg.x f1 (by rw [hgn s]; exact (pos_mul_iff _ _ gg0).2 f3) (fun j hj => by
            rw [hgn j]
            have := Int.mul_nonpos_of_nonneg_of_nonpos (Int.le_of_lt gg0) (f4 j hj); omega) o1 ((hvi o o1).2 o3) (fun l hl hlv => by
            obtain ⟨b1, b2⟩ := o4 l hl ((hvi l hl).1 hlv)
            rw [hx, hx, hv l hl, hv o o1]
            generalize (look p at').x[atF at' o]?.getD 0 = xo at *
            generalize (look p at').x[atF at' l]?.getD 0 = xl at *
            generalize (look (askP p s) at').x[atF at' o]?.getD 0 = vo at *
            generalize (look (askP p s) at').x[atF at' l]?.getD 0 = vl at *
            have e1 : gx * xo * (gv * vl) = gx * gv * (xo * vl) := by grind
            have e2 : gx * xl * (gv * vo) = gx * gv * (xl * vo) := by grind
            have hp := Int.mul_pos gx0 gv0
            rw [e1, e2]
            exact ⟨Int.mul_le_mul_of_nonneg_left b1 (Int.le_of_lt hp), fun e => b2 (Int.eq_of_mul_eq_mul_left (by omega) e)⟩)
        rw [swap_doc at' o k' s m (n + m) hg.right o1 a1 a4.right2 hsb]
        exact Or.inr ⟨_, s, o, rfl, (right_all _ m _ a4.right2).1, ⟨a4.right2, a4.den2, a5⟩, a4⟩
  · refine Or.inl ?_
    have h := fun h => hg ((good_of p at' m n hmay hm hn).1 h)
    unfold nextN
    by_cases h0 : (look p at').err = 0
    · rw [if_neg (by omega)]
      cases ha : anyNeg (look p at').x with
      | false => exact absurd ⟨h0, ha⟩ h
      | true => rw [if_pos rfl]; exact ⟨3, by omega, rfl, hg⟩
    · rw [if_pos h0]; exact ⟨_, h0, rfl, hg⟩

/-- The columns of a walk so far, and those at which it is. -/
def Path (p : Lp) (at' : List Int) (l : List (List Int)) (now : List Int) : Prop :=
  (l ++ [now])[0]?.getD [] = at' ∧ ∀ q, q < l.length → nextN p ((l ++ [now])[q]?.getD []) = ((l ++ [now])[q + 1]?.getD [], 0, 0)

/-- A walk, whole. -/
def IsWalk (p : Lp) (at' : List Int) (l : List (List Int)) (kind : Int) : Prop :=
  ∃ K, l.length = K + 1 ∧ l[0]?.getD [] = at' ∧ (∀ q, q < K → nextN p (l[q]?.getD []) = (l[q + 1]?.getD [], 0, 0)) ∧ nextN p (l[K]?.getD []) = ([], kind, 0) ∧ kind ≠ 0

theorem Path.start (p : Lp) (at' : List Int) : Path p at' [] at' := ⟨rfl, fun _ hq => absurd hq (Nat.not_lt_zero _)⟩

theorem Path.push {p : Lp} {at' : List Int} {l : List (List Int)} {now nx : List Int} (h : Path p at' l now) (hn : nextN p now = (nx, 0, 0)) : Path p at' (l ++ [now]) nx := by
  obtain ⟨h1, h2⟩ := h
  refine ⟨?_, fun q hq => ?_⟩
  · rw [List.getElem?_append_left (by simp)]; exact h1
  · rw [List.length_append, List.length_singleton] at hq
    rw [List.getElem?_append_left (by simp; omega)]
    by_cases hql : q < l.length
    · rw [h2 q hql, List.getElem?_append_left (l₁ := l ++ [now]) (l₂ := [nx]) (by simp; omega)]
    · have : q = l.length := by omega
      subst this
      rw [List.getElem?_append_right (by omega), Nat.sub_self, List.getElem?_append_right (l₁ := l ++ [now]) (by simp)]
      simpa using hn

theorem Path.ends {p : Lp} {at' : List Int} {l : List (List Int)} {now : List Int} {kind : Int} (h : Path p at' l now) (hn : nextN p now = ([], kind, 0)) (hk : kind ≠ 0) : IsWalk p at' (l ++ [now]) kind := by
  refine ⟨l.length, by simp, h.1, h.2, ?_, hk⟩
  rw [List.getElem?_append_right (by omega), Nat.sub_self]
  simpa using hn

/-- The steps of a path, chosen. -/
theorem path_steps (p : Lp) (m n : Nat) (hmay : p.may = true) (hm : m = p.rows.length) (hn : n = p.costs.length) (ats : Nat → List Int) (K : Nat) (h : ∀ q, q < K → nextN p (ats q) = (ats (q + 1), 0, 0)) :
    ∃ ss ks : Nat → Nat, (∀ q, q < K → NextOk p (ats q) (ats (q + 1)) m (n + m) (ss q) (ks q)) ∧ (∀ q, q < K → Good p (ats q) m n ∧ Good p (ats (q + 1)) m n) := by
  have key : ∀ q, q < K → (∃ s k, NextOk p (ats q) (ats (q + 1)) m (n + m) s k) ∧ Good p (ats q) m n ∧ Good p (ats (q + 1)) m n := by
    intro q hq
    have hq' := h q hq
    rcases next_cases p (ats q) m n hmay hm hn with ⟨e, he, h1, _⟩ | ⟨hg, ⟨k, hk, _, h1⟩ | ⟨nx, s, k, h1, _, h3, h4⟩⟩
    · rw [h1] at hq'
      simp only [Prod.mk.injEq] at hq'
      omega
    · rw [h1] at hq'
      simp only [Prod.mk.injEq] at hq'
      omega
    · rw [h1] at hq'
      simp only [Prod.mk.injEq, and_true] at hq'
      subst hq'
      exact ⟨⟨s, k, h4⟩, hg, h3⟩
  refine ⟨fun q => if hq : q < K then Classical.choose (key q hq).1 else 0, fun q => if hq : q < K then Classical.choose (Classical.choose_spec (key q hq).1) else 0, fun q hq => ?_, fun q hq => (key q hq).2⟩
  simp only [hq, dite_true]
  exact Classical.choose_spec (Classical.choose_spec (key q hq).1)

theorem path_good (p : Lp) (m n : Nat) (hmay : p.may = true) (hm : m = p.rows.length) (hn : n = p.costs.length) (ats : Nat → List Int) (K : Nat) (hK : 0 < K) (h : ∀ q, q < K → nextN p (ats q) = (ats (q + 1), 0, 0)) (q : Nat) (hq : q ≤ K) : Good p (ats q) m n := by
  obtain ⟨ss, ks, _, h2⟩ := path_steps p m n hmay hm hn ats K h
  by_cases hqK : q < K
  · exact (h2 q hqK).1
  · have : q = K - 1 + 1 := by omega
    rw [this]
    exact (h2 (K - 1) (by omega)).2

/-- A path has fewer than 4096 columns behind it. -/
theorem path_short {p : Lp} {at' : List Int} {l : List (List Int)} {now : List Int} (m n : Nat) (hmay : p.may = true) (hm : m = p.rows.length) (hn : n = p.costs.length) (h : Path p at' l now) : l.length < 4096 := by
  by_cases h0 : l.length = 0
  · omega
  · obtain ⟨ss, ks, h1, h2⟩ := path_steps p m n hmay hm hn (fun q => (l ++ [now])[q]?.getD []) l.length h.2
    have hg := path_good p m n hmay hm hn (fun q => (l ++ [now])[q]?.getD []) l.length (by omega) h.2
    have a1 := (p.may_of hmay).1.2
    have a2 := (p.may_of hmay).2.2.1.2
    exact walk_ends p m n hmay hm (by omega) (fun q => (l ++ [now])[q]?.getD []) ss ks l.length (fun q j hq => (hg q hq).x j) (fun q hq => (hg q hq).den) (fun q hq => (hg q hq).right) h1

theorem path_now {p : Lp} {at' : List Int} {l : List (List Int)} {now : List Int} (m n : Nat) (hmay : p.may = true) (hm : m = p.rows.length) (hn : n = p.costs.length) (h : Path p at' l now) (hl : l ≠ []) : Good p now m n := by
  have h0 : 0 < l.length := List.length_pos_iff.2 hl
  have := path_good p m n hmay hm hn (fun q => (l ++ [now])[q]?.getD []) l.length h0 h.2 l.length (Nat.le_refl _)
  simpa using this

end Num
end Go.Proofs.Ytipcbhodlgoflab

/- Which column goes out, told by the corners behind each, in plain numbers. -/
namespace Go.Proofs.Ytipcbhodlgoflab
namespace Num

end Num
end Go.Proofs.Ytipcbhodlgoflab

/- Columns that are independent: there are as many as rows at most, they can be filled up, and as many as rows have a volume. In plain numbers. -/
namespace Go.Proofs.Ytipcbhodlgoflab
namespace Num

def unitL (n q : Nat) : List Int := (List.range n).map fun i => if i = q then 1 else 0

theorem unitL_at (n q i : Nat) (hi : i < n) : (unitL n q)[i]?.getD 0 = if i = q then 1 else 0 := by unfold unitL; rw [range_getD, if_pos hi]

end Num
end Go.Proofs.Ytipcbhodlgoflab

/- Where something goes, a corner goes: in plain numbers. -/
namespace Go.Proofs.Ytipcbhodlgoflab
namespace Num

end Num
end Go.Proofs.Ytipcbhodlgoflab

/- Where something goes, a corner goes: in plain numbers. -/
namespace Go.Proofs.Ytipcbhodlgoflab
namespace Num

theorem cross_le (xa va xb vb xc vc : Int) (ha : 0 < va) (hb : 0 < vb) (hc : 0 < vc) (h1 : xa * vb ≤ xb * va) (h2 : xb * vc ≤ xc * vb) : xa * vc ≤ xc * va := by
  have e1 : xa * vb * vc ≤ xb * va * vc := Int.mul_le_mul_of_nonneg_right h1 (Int.le_of_lt hc)
  have e2 : xb * vc * va ≤ xc * vb * va := Int.mul_le_mul_of_nonneg_right h2 (Int.le_of_lt ha)
  have e3 : vb * (xa * vc) ≤ vb * (xc * va) := by
    have a1 : vb * (xa * vc) = xa * vb * vc := by grind
    have a2 : xb * va * vc = xb * vc * va := by grind
    have a3 : vb * (xc * va) = xc * vb * va := by grind
    omega
  exact Int.le_of_mul_le_mul_left e3 hb

/-- The nearest of several. -/
theorem nearest (z v : Nat → Int) : ∀ l : List Nat, l ≠ [] → (∀ j ∈ l, 0 < v j) → ∃ j0 ∈ l, ∀ j ∈ l, z j0 * v j ≤ z j * v j0
  | [], h, _ => absurd rfl h
  | j :: t, _, hv => by
    by_cases ht : t = []
    · subst ht
      refine ⟨j, by simp, fun i hi => ?_⟩
      have : i = j := by simpa using hi
      subst this; exact Int.le_refl _
    · obtain ⟨k, hk, hmin⟩ := nearest z v t ht fun i hi => hv i (List.mem_cons_of_mem _ hi)
      have hvj := hv j (by simp)
      have hvk := hv k (List.mem_cons_of_mem _ hk)
      by_cases hc : z j * v k ≤ z k * v j
      · refine ⟨j, by simp, fun i hi => ?_⟩
        rcases List.mem_cons.1 hi with rfl | hi
        · exact Int.le_refl _
        · exact cross_le _ _ _ _ _ _ hvj hvk (hv i (List.mem_cons_of_mem _ hi)) hc (hmin i hi)
      · refine ⟨k, List.mem_cons_of_mem _ hk, fun i hi => ?_⟩
        rcases List.mem_cons.1 hi with rfl | hi
        · omega
        · exact hmin i hi

end Num
end Go.Proofs.Ytipcbhodlgoflab

/- In a walk no columns come twice, and the worth never falls, told by what Look answers: in plain numbers. -/
namespace Go.Proofs.Ytipcbhodlgoflab
namespace Num

end Num
end Go.Proofs.Ytipcbhodlgoflab

/- How a walk ends, in plain numbers: prices at a corner whose gains are none, or a way that rises without end. -/
namespace Go.Proofs.Ytipcbhodlgoflab
namespace Num

/-- A corner without gains. -/
structure Top (p : Lp) (at' : List Int) (m n : Nat) : Prop extends Good p at' m n where
  gain : ∀ j : Nat, j < n + m → sgD p at' m * (gainL p at' m (n + m))[j]?.getD 0 ≤ 0

/-- A way that rises without end. -/
structure Ray (p : Lp) (m n : Nat) (r : Nat → Int) : Prop where
  up : ∀ j, j < n + m → 0 ≤ r j
  level : ∀ i, i < m → sumN (fun j => hasF p j i * r j) (n + m) = 0
  rise : 0 < sumN (fun j => p.costs[j]?.getD 0 * r j) (n + m)

theorem gain_eq (p : Lp) (at' : List Int) (m N j : Nat) (hm : m = p.rows.length) (hj : j < N) : (gainL p at' m N)[j]?.getD 0 = p.costs[j]?.getD 0 * denL p at' m - sumN (fun i => hasF p j i * (priceL p at' m)[i]?.getD 0) m := by
  unfold gainL
  rw [range_getD, if_pos hj]
  unfold gainF
  rw [← hm, dotN_sum]
  congr 1
  exact sumN_congr _ _ _ fun i hi => by rw [range_getD, if_pos hi]

end Num
end Go.Proofs.Ytipcbhodlgoflab

/- Which kind of answer a program has, by all its corners: what an answer that holds is of that kind; in plain numbers. -/
namespace Go.Proofs.Ytipcbhodlgoflab
namespace Num

theorem pairs (h : Nat → Nat → Int) (y r : Nat → Int) (m N : Nat) : sumN (fun j => sumN (fun i => h j i * y i) m * r j) N = sumN (fun i => y i * sumN (fun j => h j i * r j) N) m := by
  have e1 : sumN (fun j => sumN (fun i => h j i * y i) m * r j) N = sumN (fun j => sumN (fun i => r j * (h j i * y i)) m) N := sumN_congr _ _ _ fun j _ => by rw [sumN_mul, Int.mul_comm]
  have e2 : sumN (fun i => y i * sumN (fun j => h j i * r j) N) m = sumN (fun i => sumN (fun j => r j * (h j i * y i)) N) m := sumN_congr _ _ _ fun i _ => by
    rw [← sumN_mul]; exact sumN_congr _ _ _ fun j _ => by grind
  rw [e1, e2, sumN_swap]

/-- The kind of answer a program has, by all its corners. -/
def KindIs (p : Lp) (m n : Nat) (k : Int) : Prop := (k = 1 ∧ ∃ t, Top p t m n) ∨ (k = 2 ∧ (¬ ∃ t, Top p t m n) ∧ ∃ g, Good p g m n) ∨ (k = 3 ∧ ¬ ∃ g, Good p g m n)

end Num
end Go.Proofs.Ytipcbhodlgoflab

/- Where no corner goes, the rows tell it: in plain numbers, by the program that asks for the prices. -/
namespace Go.Proofs.Ytipcbhodlgoflab
namespace Num

end Num
end Go.Proofs.Ytipcbhodlgoflab

/- Answers that hold, made of a corner, of a way, of how often each row is taken: in plain numbers. -/
namespace Go.Proofs.Ytipcbhodlgoflab
namespace Num

/-- One fraction, one lowest form. -/
theorem mk_same (n1 d1 n2 d2 : Int) (h : n1 * d2 = n2 * d1) (h1 : d1 ≠ 0) (h2 : d2 ≠ 0) (b1 : -4611686018427387904 ≤ d1 ∧ d1 ≤ 4611686018427387904) (b2 : -4611686018427387904 ≤ d2 ∧ d2 ≤ 4611686018427387904) (c1 : -4611686018427387904 ≤ n1 ∧ n1 ≤ 4611686018427387904) (c2 : -4611686018427387904 ≤ n2 ∧ n2 ≤ 4611686018427387904) : mk n1 d1 = mk n2 d2 := by
  rw [mk_in d1 n1 h1 b1 c1, mk_in d2 n2 h2 b2 c2]
  have e1 := fitsB_mul 1073741824 d2 d1 [n1] h2 h1
  have e2 := fitsB_mul 1073741824 d1 d2 [n2] h1 h2
  have g1 := byOf_mul d2 d1 [n1] h2 h1
  have g2 := byOf_mul d1 d2 [n2] h1 h2
  simp only [List.map_cons, List.map_nil] at e1 e2 g1 g2
  have hn : d2 * n1 = d1 * n2 := by rw [Int.mul_comm d2, h, Int.mul_comm]
  have hd : d2 * d1 = d1 * d2 := Int.mul_comm _ _
  rw [hn, hd] at e1 g1
  rw [← e1, ← e2, ← tdiv_mul_tdiv d2 n1 _ h2, ← tdiv_mul_tdiv d2 d1 _ h2, ← g1, ← tdiv_mul_tdiv d1 n2 _ h1, ← tdiv_mul_tdiv d1 d2 _ h1, ← g2, hn, hd]

end Num
end Go.Proofs.Ytipcbhodlgoflab

/- Answers that hold, of a way that rises without end, and of how often each row is taken; each program that may be has one: in plain numbers. -/
namespace Go.Proofs.Ytipcbhodlgoflab
namespace Num

end Num
end Go.Proofs.Ytipcbhodlgoflab

/- Where no corner goes, a corner refuses: it has a column below 0 that no other one lifts; in plain numbers. -/
namespace Go.Proofs.Ytipcbhodlgoflab
namespace Num

/-- Prices at which no chosen column costs anything are none. -/
theorem left_none (p : Lp) (at' : List Int) (m : Nat) (h1 : 1 ≤ m) (h4 : m ≤ 4) (hd : denL p at' m ≠ 0) (z : Nat → Int) (hz : ∀ k, k < m → sumN (fun i => hasF p (atF at' k) i * z i) m = 0) (q : Nat) (hq : q < m) : z q = 0 := by
  have hc : ∀ i, i < m → sumN (fun k => hasF p (atF at' k) i * (sharesL (chosenL p at' m) (unitL m q) m)[k]?.getD 0) m = denL p at' m * (if i = q then 1 else 0) := by
    intro i hi
    have := cramer m (chosenL p at' m) (unitL m q) (chosen_sq p at' m) (by unfold unitL; simp) h1 h4 i hi
    unfold crm at this
    rw [dotN_sum, unitL_at m q i hi] at this
    rw [show vol (chosenL p at' m) none4 = denL p at' m from rfl] at this
    rw [← this]
    exact sumN_congr _ _ _ fun k hk => by rw [range_getD, if_pos hk, chosen_at p at' m k i hk hi, Int.mul_comm]
  generalize (sharesL (chosenL p at' m) (unitL m q) m) = u at *
  have e1 : sumN (fun i => z i * sumN (fun k => hasF p (atF at' k) i * u[k]?.getD 0) m) m = denL p at' m * z q := by
    rw [sumN_only _ q m hq fun i hi hne => by show z i * _ = 0; rw [hc i hi, if_neg hne]; omega]
    show z q * sumN _ m = _
    rw [hc q hq, if_pos rfl]; grind
  have e2 : sumN (fun i => z i * sumN (fun k => hasF p (atF at' k) i * u[k]?.getD 0) m) m = sumN (fun k => u[k]?.getD 0 * sumN (fun i => hasF p (atF at' k) i * z i) m) m := by
    have a1 : sumN (fun i => z i * sumN (fun k => hasF p (atF at' k) i * u[k]?.getD 0) m) m = sumN (fun i => sumN (fun k => u[k]?.getD 0 * (hasF p (atF at' k) i * z i)) m) m := sumN_congr _ _ _ fun i _ => by
      rw [← sumN_mul]; exact sumN_congr _ _ _ fun k _ => by grind
    rw [a1, sumN_swap]
    exact sumN_congr _ _ _ fun k _ => by rw [sumN_mul]
  have e3 : sumN (fun k => u[k]?.getD 0 * sumN (fun i => hasF p (atF at' k) i * z i) m) m = 0 := (sumN_congr _ (fun _ => 0) _ fun k hk => by rw [hz k hk]; omega).trans (sumN_zero m)
  rw [e2, e3] at e1
  rcases Int.mul_eq_zero.1 e1.symm with h | h
  · exact absurd h hd
  · exact h

end Num
end Go.Proofs.Ytipcbhodlgoflab
