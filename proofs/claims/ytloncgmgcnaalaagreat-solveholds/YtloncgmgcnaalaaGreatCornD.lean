/- What columns come to, in plain numbers: Cramer's rule for up to four lines. -/
import Derived.Test.YtloncgmgcnaalaaGreatCorn2
import Derived.Test.YtloncgmgcnaalaaGreatPrfP
import Derived.Test.YtloncgmgcnaalaaGreatCornL
namespace Go.Proofs.YtloncgmgcnaalaaGreat
namespace Num

/-- How often the lines are taken, each times its number at place i, comes to what is wanted there, as often as their volume says. -/
def crm (ls : List (List Int)) (want : List Int) (n i : Nat) : Int := dotN (sharesL ls want n) ((List.range n).map fun k => at2 ls k i) n

/-- The numbers of a, each times the price at its place. -/
def prc (ls : List (List Int)) (w a : List Int) (n : Nat) : Int := dotN a (sharesL (turnL ls) w n) n

theorem cr1 (a x : Int) : crm [[a]] [x] 1 0 = vol [[a]] none4 * x := by
  simp [crm, dotN, sharesL, List.range_succ, vol, volSum, none4, at2]
  grind

theorem cr2 (a b c d x y : Int) (i : Nat) (hi : i < 2) : crm [[a, b], [c, d]] [x, y] 2 i = vol [[a, b], [c, d]] none4 * [x, y][i]?.getD 0 := by
  match i, hi with
  | 0, _ => simp [crm, dotN, sharesL, List.range_succ, vol, volSum, none4, mark, at2]; grind
  | 1, _ => simp [crm, dotN, sharesL, List.range_succ, vol, volSum, none4, mark, at2]; grind

theorem cr3 (a b c d e f g h j x y z : Int) (i : Nat) (hi : i < 3) : crm [[a, b, c], [d, e, f], [g, h, j]] [x, y, z] 3 i = vol [[a, b, c], [d, e, f], [g, h, j]] none4 * [x, y, z][i]?.getD 0 := by
  match i, hi with
  | 0, _ => simp [crm, dotN, sharesL, List.range_succ, vol, volSum, none4, mark, at2]; grind
  | 1, _ => simp [crm, dotN, sharesL, List.range_succ, vol, volSum, none4, mark, at2]; grind
  | 2, _ => simp [crm, dotN, sharesL, List.range_succ, vol, volSum, none4, mark, at2]; grind

set_option maxHeartbeats 4000000 in
theorem cr4 (a b c d e f g h j k l m n o p q x y z u : Int) (i : Nat) (hi : i < 4) : crm [[a, b, c, d], [e, f, g, h], [j, k, l, m], [n, o, p, q]] [x, y, z, u] 4 i = vol [[a, b, c, d], [e, f, g, h], [j, k, l, m], [n, o, p, q]] none4 * [x, y, z, u][i]?.getD 0 := by
  match i, hi with
  | 0, _ => simp [crm, dotN, sharesL, List.range_succ, vol, volSum, none4, mark, at2]; grind
  | 1, _ => simp [crm, dotN, sharesL, List.range_succ, vol, volSum, none4, mark, at2]; grind
  | 2, _ => simp [crm, dotN, sharesL, List.range_succ, vol, volSum, none4, mark, at2]; grind
  | 3, _ => simp [crm, dotN, sharesL, List.range_succ, vol, volSum, none4, mark, at2]; grind

theorem cramer (n : Nat) (ls : List (List Int)) (want : List Int) (h : Sq n ls) (hw : want.length = n) (h1 : 1 ≤ n) (h4 : n ≤ 4) (i : Nat) (hi : i < n) : crm ls want n i = vol ls none4 * want[i]?.getD 0 := by
  obtain ⟨hl, ha⟩ := h
  match n, h1, h4 with
  | 1, _, _ =>
    obtain ⟨x, rfl⟩ := len1 ls hl
    obtain ⟨a, rfl⟩ := len1 x (ha x (by simp))
    obtain ⟨w, rfl⟩ := len1 want hw
    obtain rfl : i = 0 := by omega
    exact cr1 a w
  | 2, _, _ =>
    obtain ⟨x, y, rfl⟩ := len2 ls hl
    obtain ⟨a, b, rfl⟩ := len2 x (ha x (by simp))
    obtain ⟨c, d, rfl⟩ := len2 y (ha y (by simp))
    obtain ⟨w, w', rfl⟩ := len2 want hw
    exact cr2 _ _ _ _ _ _ i hi
  | 3, _, _ =>
    obtain ⟨x, y, z, rfl⟩ := len3 ls hl
    obtain ⟨a, b, c, rfl⟩ := len3 x (ha x (by simp))
    obtain ⟨d, e, f, rfl⟩ := len3 y (ha y (by simp))
    obtain ⟨g, h, j, rfl⟩ := len3 z (ha z (by simp))
    obtain ⟨w, w', w'', rfl⟩ := len3 want hw
    exact cr3 _ _ _ _ _ _ _ _ _ _ _ _ i hi
  | 4, _, _ =>
    obtain ⟨x, y, z, u, rfl⟩ := len4 ls hl
    obtain ⟨a, b, c, d, rfl⟩ := len4 x (ha x (by simp))
    obtain ⟨e, f, g, h, rfl⟩ := len4 y (ha y (by simp))
    obtain ⟨j, k, l, m, rfl⟩ := len4 z (ha z (by simp))
    obtain ⟨n, o, p, q, rfl⟩ := len4 u (ha u (by simp))
    obtain ⟨w, w', w'', w3, rfl⟩ := len4 want hw
    exact cr4 _ _ _ _ _ _ _ _ _ _ _ _ _ _ _ _ _ _ _ _ i hi

end Num
end Go.Proofs.YtloncgmgcnaalaaGreat

/- What columns come to, in plain numbers: prices, and how great all that is. -/
namespace Go.Proofs.YtloncgmgcnaalaaGreat
namespace Num

theorem pr1 (a w x : Int) : prc [[a]] [w] [x] 1 = dotN [w] (sharesL [[a]] [x] 1) 1 := by
  simp [prc, dotN, sharesL, turnL, List.range_succ, vol, volSum, none4]
  grind

theorem pr2 (a b c d w v x y : Int) : prc [[a, b], [c, d]] [w, v] [x, y] 2 = dotN [w, v] (sharesL [[a, b], [c, d]] [x, y] 2) 2 := by
  simp [prc, dotN, sharesL, turnL, List.range_succ, vol, volSum, none4, mark, at2]
  grind

theorem pr3 (a b c d e f g h j w v u x y z : Int) : prc [[a, b, c], [d, e, f], [g, h, j]] [w, v, u] [x, y, z] 3 = dotN [w, v, u] (sharesL [[a, b, c], [d, e, f], [g, h, j]] [x, y, z] 3) 3 := by
  simp [prc, dotN, sharesL, turnL, List.range_succ, vol, volSum, none4, mark, at2]
  grind

set_option maxHeartbeats 4000000 in
theorem pr4 (a b c d e f g h j k l m n o p q w v u t x y z s : Int) : prc [[a, b, c, d], [e, f, g, h], [j, k, l, m], [n, o, p, q]] [w, v, u, t] [x, y, z, s] 4 = dotN [w, v, u, t] (sharesL [[a, b, c, d], [e, f, g, h], [j, k, l, m], [n, o, p, q]] [x, y, z, s] 4) 4 := by
  simp [prc, dotN, sharesL, turnL, List.range_succ, vol, volSum, none4, mark, at2]
  grind

theorem vt2 (a b c d : Int) : vol (turnL [[a, b], [c, d]]) none4 = vol [[a, b], [c, d]] none4 := by
  simp [turnL, List.range_succ, vol, volSum, none4, mark, at2]
  grind

theorem vt3 (a b c d e f g h j : Int) : vol (turnL [[a, b, c], [d, e, f], [g, h, j]]) none4 = vol [[a, b, c], [d, e, f], [g, h, j]] none4 := by
  simp [turnL, List.range_succ, vol, volSum, none4, mark, at2]
  grind

set_option maxHeartbeats 4000000 in
theorem vt4 (a b c d e f g h j k l m n o p q : Int) : vol (turnL [[a, b, c, d], [e, f, g, h], [j, k, l, m], [n, o, p, q]]) none4 = vol [[a, b, c, d], [e, f, g, h], [j, k, l, m], [n, o, p, q]] none4 := by
  simp [turnL, List.range_succ, vol, volSum, none4, mark, at2]
  grind

theorem prices (n : Nat) (ls : List (List Int)) (w vv : List Int) (h : Sq n ls) (hw : w.length = n) (ha' : vv.length = n) (h1 : 1 ≤ n) (h4 : n ≤ 4) : dotN vv (sharesL (turnL ls) w n) n = dotN w (sharesL ls vv n) n := by
  obtain ⟨hl, ha⟩ := h
  match n, h1, h4 with
  | 1, _, _ =>
    obtain ⟨x, rfl⟩ := len1 ls hl
    obtain ⟨b, rfl⟩ := len1 x (ha x (by simp))
    obtain ⟨w, rfl⟩ := len1 w hw
    obtain ⟨a, rfl⟩ := len1 vv ha'
    exact pr1 _ _ _
  | 2, _, _ =>
    obtain ⟨x, y, rfl⟩ := len2 ls hl
    obtain ⟨a, b, rfl⟩ := len2 x (ha x (by simp))
    obtain ⟨c, d, rfl⟩ := len2 y (ha y (by simp))
    obtain ⟨w, w', rfl⟩ := len2 w hw
    obtain ⟨a, a', rfl⟩ := len2 vv ha'
    exact pr2 _ _ _ _ _ _ _ _
  | 3, _, _ =>
    obtain ⟨x, y, z, rfl⟩ := len3 ls hl
    obtain ⟨a, b, c, rfl⟩ := len3 x (ha x (by simp))
    obtain ⟨d, e, f, rfl⟩ := len3 y (ha y (by simp))
    obtain ⟨g, h, j, rfl⟩ := len3 z (ha z (by simp))
    obtain ⟨w, w', w'', rfl⟩ := len3 w hw
    obtain ⟨a, a', a'', rfl⟩ := len3 vv ha'
    exact pr3 _ _ _ _ _ _ _ _ _ _ _ _ _ _ _
  | 4, _, _ =>
    obtain ⟨x, y, z, u, rfl⟩ := len4 ls hl
    obtain ⟨a, b, c, d, rfl⟩ := len4 x (ha x (by simp))
    obtain ⟨e, f, g, h, rfl⟩ := len4 y (ha y (by simp))
    obtain ⟨j, k, l, m, rfl⟩ := len4 z (ha z (by simp))
    obtain ⟨n, o, p, q, rfl⟩ := len4 u (ha u (by simp))
    obtain ⟨w, w', w'', w3, rfl⟩ := len4 w hw
    obtain ⟨a, a', a'', a3, rfl⟩ := len4 vv ha'
    exact pr4 _ _ _ _ _ _ _ _ _ _ _ _ _ _ _ _ _ _ _ _ _ _ _ _

theorem vol_turn (n : Nat) (ls : List (List Int)) (h : Sq n ls) (h1 : 1 ≤ n) (h4 : n ≤ 4) : vol (turnL ls) none4 = vol ls none4 := by
  obtain ⟨hl, ha⟩ := h
  match n, h1, h4 with
  | 1, _, _ =>
    obtain ⟨x, rfl⟩ := len1 ls hl
    obtain ⟨b, rfl⟩ := len1 x (ha x (by simp))
    simp [turnL, List.range_succ, at2]
  | 2, _, _ =>
    obtain ⟨x, y, rfl⟩ := len2 ls hl
    obtain ⟨a, b, rfl⟩ := len2 x (ha x (by simp))
    obtain ⟨c, d, rfl⟩ := len2 y (ha y (by simp))
    exact vt2 _ _ _ _
  | 3, _, _ =>
    obtain ⟨x, y, z, rfl⟩ := len3 ls hl
    obtain ⟨a, b, c, rfl⟩ := len3 x (ha x (by simp))
    obtain ⟨d, e, f, rfl⟩ := len3 y (ha y (by simp))
    obtain ⟨g, h, j, rfl⟩ := len3 z (ha z (by simp))
    exact vt3 _ _ _ _ _ _ _ _ _
  | 4, _, _ =>
    obtain ⟨x, y, z, u, rfl⟩ := len4 ls hl
    obtain ⟨a, b, c, d, rfl⟩ := len4 x (ha x (by simp))
    obtain ⟨e, f, g, h, rfl⟩ := len4 y (ha y (by simp))
    obtain ⟨j, k, l, m, rfl⟩ := len4 z (ha z (by simp))
    obtain ⟨n, o, p, q, rfl⟩ := len4 u (ha u (by simp))
    exact vt4 _ _ _ _ _ _ _ _ _ _ _ _ _ _ _ _

/-- How great a determinant of numbers up to 12 can be. -/
def bd12 : Nat → Int
  | 0 => 1
  | n + 1 => 12 * bd12 n * (n + 1)

theorem detN_bd12 (n : Nat) (ls : List (List Int)) (h : BdL 12 ls) : -(bd12 n) ≤ detN n ls ∧ detN n ls ≤ bd12 n := by
  induction n generalizing ls with
  | zero => simp [detN, bd12]
  | succ n ih =>
    have hf : ∀ k : Nat, -(bd12 n) ≤ detN n ((ls.drop 1).map (del k)) ∧ detN n ((ls.drop 1).map (del k)) ≤ bd12 n := fun k => ih _ (h.minor (by omega) k)
    have hs := volSum_bd (fun k => detN n ((ls.drop 1).map (del k))) (ls[0]?.getD []) none4 12 (bd12 n) (h 0) hf (n + 1)
    unfold detN bd12
    simpa using hs

theorem vol_bd12 (n : Nat) (ls : List (List Int)) (h : Sq n ls) (h1 : 1 ≤ n) (h4 : n ≤ 4) (hb : BdL 12 ls) : -497664 ≤ vol ls none4 ∧ vol ls none4 ≤ 497664 := by
  have := detN_bd12 n (turnL ls) (turn_bd _ _ hb)
  rw [vol_det n ls h h1 h4]
  match n, h1, h4 with
  | 1, _, _ => simp [bd12] at this; omega
  | 2, _, _ => simp [bd12] at this; omega
  | 3, _, _ => simp [bd12] at this; omega
  | 4, _, _ => simp [bd12] at this; omega

theorem shares_bd12 (n : Nat) (ls : List (List Int)) (a : List Int) (h : Sq n ls) (ha : a.length = n) (h1 : 1 ≤ n) (h4 : n ≤ 4) (hb : BdL 12 ls) (hab : ∀ j : Nat, -12 ≤ a[j]?.getD 0 ∧ a[j]?.getD 0 ≤ 12) :
    ∀ j : Nat, -497664 ≤ (sharesL ls a n)[j]?.getD 0 ∧ (sharesL ls a n)[j]?.getD 0 ≤ 497664 := by
  intro j
  unfold sharesL
  rw [range_getD]
  split
  · exact vol_bd12 n _ (set_sq ls n j a h ha) h1 h4 (hb.set j a hab)
  · omega

end Num
end Go.Proofs.YtloncgmgcnaalaaGreat

/- What a corner comes to, in plain numbers. -/
namespace Go.Proofs.YtloncgmgcnaalaaGreat
namespace Num

/-- Numbers that are not too great have a point: each is its own, times one number. -/
theorem pt_ok (l : List Int) (d : Int) (hd : d ≠ 0) (hdb : -1073741824 ≤ d ∧ d ≤ 1073741824) (hl : ∀ j : Nat, -1073741824 ≤ l[j]?.getD 0 ∧ l[j]?.getD 0 ≤ 1073741824) (h8 : l.length ≤ 8) :
    ∃ g, g ≠ 0 ∧ (pt l d).2.2 = 0 ∧ (pt l d).1.length = l.length ∧ (∀ j : Nat, l[j]?.getD 0 = g * (pt l d).1[j]?.getD 0) ∧ d = g * (pt l d).2.1 ∧ 1 ≤ (pt l d).2.1 ∧ (pt l d).2.1.natAbs ≤ d.natAbs ∧ (∀ j : Nat, ((pt l d).1[j]?.getD 0).natAbs ≤ (l[j]?.getD 0).natAbs) := by
  have hw : withinB 1073741824 l = true := by
    unfold withinB
    rw [List.all_eq_true]
    intro n hn
    obtain ⟨j, hj, rfl⟩ := List.getElem_of_mem hn
    have := hl j
    rw [List.getElem?_eq_getElem hj, Option.getD_some] at this
    simpa using this
  have hw2 : withinB 4611686018427387904 l = true := by
    unfold withinB at hw ⊢
    rw [List.all_eq_true] at hw ⊢
    intro n hn
    have := hw n hn
    simp only [Bool.and_eq_true, decide_eq_true_eq] at this ⊢
    omega
  have hf : fitsB 1073741824 d l = true := by
    unfold fitsB
    have t1 := tdiv_abs d (byOf d l)
    simp only [Bool.and_eq_true, decide_eq_true_eq]
    refine ⟨by omega, ?_⟩
    unfold withinB
    rw [List.all_eq_true]
    intro n hn
    obtain ⟨m, hm, rfl⟩ := List.mem_map.1 hn
    unfold withinB at hw
    rw [List.all_eq_true] at hw
    have h1 := hw m hm
    have h2 := tdiv_abs m (byOf d l)
    simp only [Bool.and_eq_true, decide_eq_true_eq] at h1 ⊢
    omega
  have hlow : (low d l).2 = 0 := by
    unfold low
    rw [if_neg, if_neg (by omega), if_pos hf]
    rw [withinB_one]
    simp [hd, hw2]
    omega
  have hpt : pt l d = (l.map fun n => n.tdiv (byOf d l), d.tdiv (byOf d l), 0) := by unfold pt; rw [if_pos hlow]
  rw [hpt]
  refine ⟨byOf d l, (byOf_bd d l hd (by omega) (by omega)).1, rfl, by simp, fun j => ?_, (Int.mul_tdiv_cancel' (byOf_dvd_d d l)).symm, low_den_pos d l hd, tdiv_abs _ _, fun j => ?_⟩
  · rw [map_getD _ (by simp)]
    by_cases hj : j < l.length
    · rw [List.getElem?_eq_getElem hj, Option.getD_some]
      exact (Int.mul_tdiv_cancel' (byOf_dvd_l d l _ (List.getElem_mem hj))).symm
    · rw [List.getElem?_eq_none (by omega)]; simp
  · rw [map_getD _ (by simp)]
    exact tdiv_abs _ _

theorem atF_lt (at' : List Int) (N m : Nat) (h : rightB at' m N = true) (k : Nat) (hk : k < m) : atF at' k < N := by
  have := (right_all at' m N h).2 k hk
  unfold atF
  omega

theorem atF_rise (at' : List Int) (N m : Nat) (h : rightB at' m N = true) (k : Nat) (hk : k < m) : ∀ i, i < k → atF at' i < atF at' k := by
  unfold rightB at h
  simp only [Bool.and_eq_true, beq_iff_eq] at h
  induction k with
  | zero => intro i hi; omega
  | succ k ih =>
    intro i hi
    have h1 := okN_all at' N m h.2 (k + 1) hk
    have h2 := okN_all at' N m h.2 k (by omega)
    have h3 := leastN_nonneg at' N m h.2 k (by omega)
    have e : leastN at' (k + 1) = at'[k]?.getD 0 + 1 := rfl
    have : atF at' k < atF at' (k + 1) := by unfold atF; omega
    by_cases hik : i = k
    · subst hik; exact this
    · have := ih (by omega) i (by omega)
      omega

theorem spread_len (N : Nat) (at' s : List Int) (k : Nat) : (spreadN N at' s k).length = N := by
  induction k with
  | zero => simp [spreadN]
  | succ k ih => unfold spreadN; simpa using ih

theorem spread_not (N : Nat) (at' s : List Int) (k : Nat) (j : Nat) (h : ∀ i, i < k → atF at' i ≠ j) : (spreadN N at' s k)[j]?.getD 0 = 0 := by
  induction k with
  | zero => unfold spreadN; rw [List.getElem?_replicate]; split <;> simp
  | succ k ih =>
    unfold spreadN
    rw [List.getElem?_set, if_neg (h k (by omega))]
    exact ih fun i hi => h i (by omega)

theorem sum_set (f : Nat → Int) (l : List Int) (q : Nat) (v : Int) (n : Nat) (hq : q < l.length) (h0 : l[q]?.getD 0 = 0) : sumN (fun j => f j * (l.set q v)[j]?.getD 0) n = sumN (fun j => f j * l[j]?.getD 0) n + (if q < n then f q * v else 0) := by
  induction n with
  | zero => simp [sumN]
  | succ n ih =>
    unfold sumN
    rw [ih]
    by_cases hqn : q = n
    · subst hqn
      rw [if_neg (by omega), if_pos (by omega), List.getElem?_set, if_pos rfl, if_pos hq, Option.getD_some, h0]
      omega
    · rw [List.getElem?_set, if_neg hqn]
      by_cases h1 : q < n
      · rw [if_pos h1, if_pos (by omega)]; omega
      · rw [if_neg h1, if_neg (by omega)]; omega

theorem spread_sum (f : Nat → Int) (N : Nat) (at' s : List Int) (m : Nat) (hr : rightB at' m N = true) : ∀ k, k ≤ m → sumN (fun j => f j * (spreadN N at' s k)[j]?.getD 0) N = sumN (fun i => f (atF at' i) * s[i]?.getD 0) k := by
  intro k hk
  induction k with
  | zero =>
    refine Eq.trans (sumN_congr _ (fun _ => 0) _ fun j _ => ?_) (sumN_zero _)
    rw [spread_not N at' s 0 j fun i hi => absurd hi (Nat.not_lt_zero _)]; simp
  | succ k ih =>
    have hlt := atF_lt at' N m hr k (by omega)
    have e : sumN (fun j => f j * (spreadN N at' s (k + 1))[j]?.getD 0) N = sumN (fun j => f j * ((spreadN N at' s k).set (atF at' k) (s[k]?.getD 0))[j]?.getD 0) N := rfl
    rw [e, sum_set f _ _ _ _ (by rw [spread_len]; exact hlt) (spread_not N at' s k _ fun i hi => by have := atF_rise at' N m hr k (by omega) i hi; omega), if_pos hlt, ih (by omega)]
    rfl

theorem sumN_split (f : Nat → Int) (a b : Nat) : sumN f (a + b) = sumN f a + sumN (fun i => f (a + i)) b := by
  induction b with
  | zero => simp [sumN]
  | succ b ih =>
    show sumN f (a + b) + f (a + b) = sumN f a + (sumN (fun i => f (a + i)) b + f (a + b))
    rw [ih]; omega

theorem sum_one (g : Nat → Int) (i n : Nat) (hi : i < n) : sumN (fun j => (if j = i then 1 else 0) * g j) n = g i := by
  induction n with
  | zero => omega
  | succ n ih =>
    unfold sumN
    by_cases h : i = n
    · subst h
      rw [if_pos rfl, Int.one_mul]
      have : sumN (fun j => (if j = i then 1 else 0) * g j) i = 0 := Eq.trans (sumN_congr _ (fun _ => 0) _ fun j hj => by rw [if_neg (by omega)]; simp) (sumN_zero _)
      omega
    · rw [ih (by omega), if_neg (by omega)]; omega

theorem getD_lt0 (l : List Int) (n j : Nat) (h : l.length = n) (hj : ¬ j < n) : l[j]?.getD 0 = 0 := by rw [List.getElem?_eq_none (by omega)]; rfl

theorem chosen_bd12 (p : Lp) (at' : List Int) (m : Nat) (hmay : p.may = true) : BdL 12 (chosenL p at' m) := by
  intro i j
  unfold chosenL
  rw [at2_range]
  split
  · rw [range_getD]
    split
    · exact hasF_bd p hmay (atF at' i) j
    · omega
  · omega

/-- What all columns are, each times what it has in row i, comes to the row's most. -/
theorem comes_row (p : Lp) (at' : List Int) (m n : Nat) (hmay : p.may = true) (hm : m = p.rows.length) (hn : n = p.costs.length) (hr : rightB at' m (n + m) = true) (i : Nat) (hi : i < m) : dotN (p.rows[i]?.getD ([], 0)).1 (xL p at' m (n + m)) n + (xL p at' m (n + m))[n + i]?.getD 0 = mostF p i * denL p at' m := by
  have h1 : 1 ≤ m := by have := (p.may_of hmay).2.2.1.1; omega
  have h4 : m ≤ 4 := by have := (p.may_of hmay).2.2.1.2; omega
  have hc := cramer m (chosenL p at' m) (mostsL p m) (chosen_sq p at' m) (by simp [mostsL]) h1 h4 i hi
  have e0 : (mostsL p m)[i]?.getD 0 = mostF p i := by unfold mostsL; rw [range_getD, if_pos hi]
  rw [e0] at hc
  unfold crm at hc
  rw [dotN_sum] at hc
  have hs := spread_sum (fun j => hasF p j i) (n + m) at' (sharesL (chosenL p at' m) (mostsL p m) m) m hr m (Nat.le_refl _)
  have e1 : sumN (fun k => (sharesL (chosenL p at' m) (mostsL p m) m)[k]?.getD 0 * ((List.range m).map fun k => at2 (chosenL p at' m) k i)[k]?.getD 0) m = sumN (fun k => hasF p (atF at' k) i * (sharesL (chosenL p at' m) (mostsL p m) m)[k]?.getD 0) m := by
    refine sumN_congr _ _ _ fun k hk => ?_
    rw [range_getD, if_pos hk, Int.mul_comm]
    congr 1
    unfold chosenL
    exact at2_grid (fun k i => hasF p (atF at' k) i) m k i hk hi
  rw [e1, ← hs, sumN_split] at hc
  have e2 : sumN (fun j => hasF p j i * (xL p at' m (n + m))[j]?.getD 0) n = dotN (p.rows[i]?.getD ([], 0)).1 (xL p at' m (n + m)) n := by
    rw [dotN_sum]
    exact sumN_congr _ _ _ fun j hj => by rw [hasF_in p j i _ rfl (by omega)]
  have e3 : sumN (fun k => hasF p (n + k) i * (xL p at' m (n + m))[n + k]?.getD 0) m = (xL p at' m (n + m))[n + i]?.getD 0 := by
    rw [← sum_one (fun k => (xL p at' m (n + m))[n + k]?.getD 0) i m hi]
    refine sumN_congr _ _ _ fun k _ => ?_
    by_cases h : k = i
    · subst h; rw [if_pos rfl, hasF_one p (n + k) k (by omega)]
    · rw [if_neg h, hasF_zero p (n + k) i (by omega) (by omega)]
  rw [← e2, ← e3]
  show _ = mostF p i * vol (chosenL p at' m) none4
  rw [Int.mul_comm]
  exact hc

/-- What the variables are worth is what the rows are. -/
theorem comes_worth (p : Lp) (at' : List Int) (m n : Nat) (hmay : p.may = true) (hm : m = p.rows.length) (hn : n = p.costs.length) (hr : rightB at' m (n + m) = true) : dotN p.costs (xL p at' m (n + m)) n = dotN (mostsL p m) (priceL p at' m) m := by
  have h1 : 1 ≤ m := by have := (p.may_of hmay).2.2.1.1; omega
  have h4 : m ≤ 4 := by have := (p.may_of hmay).2.2.1.2; omega
  have hp := prices m (chosenL p at' m) (worthsL p at' m) (mostsL p m) (chosen_sq p at' m) (by simp [worthsL]) (by simp [mostsL]) h1 h4
  have hs := spread_sum (fun j => p.costs[j]?.getD 0) (n + m) at' (sharesL (chosenL p at' m) (mostsL p m) m) m hr m (Nat.le_refl _)
  rw [sumN_split] at hs
  have e2 : sumN (fun k => p.costs[n + k]?.getD 0 * (spreadN (n + m) at' (sharesL (chosenL p at' m) (mostsL p m) m) m)[n + k]?.getD 0) m = 0 := by
    refine Eq.trans (sumN_congr _ (fun _ => 0) _ fun k _ => ?_) (sumN_zero _)
    rw [getD_lt0 p.costs n (n + k) hn.symm (by omega)]; simp
  rw [e2, Int.add_zero, ← dotN_sum] at hs
  have e3 : dotN (worthsL p at' m) (sharesL (chosenL p at' m) (mostsL p m) m) m = sumN (fun i => p.costs[atF at' i]?.getD 0 * (sharesL (chosenL p at' m) (mostsL p m) m)[i]?.getD 0) m := by
    rw [dotN_sum]
    exact sumN_congr _ _ _ fun k hk => by unfold worthsL; rw [range_getD, if_pos hk]
  show dotN p.costs (spreadN (n + m) at' (sharesL (chosenL p at' m) (mostsL p m) m) m) n = dotN (mostsL p m) (sharesL (turnL (chosenL p at' m)) (worthsL p at' m) m) m
  rw [hs, hp, e3]

/-- The columns that are chosen gain nothing. -/
theorem comes_gain (p : Lp) (at' : List Int) (m n : Nat) (hmay : p.may = true) (hm : m = p.rows.length) (hr : rightB at' m (n + m) = true) (k : Nat) (hk : k < m) : (gainL p at' m (n + m))[atF at' k]?.getD 0 = 0 := by
  have h1 : 1 ≤ m := by have := (p.may_of hmay).2.2.1.1; omega
  have h4 : m ≤ 4 := by have := (p.may_of hmay).2.2.1.2; omega
  have hsq := turn_sq _ m (chosen_sq p at' m)
  have hc := cramer m (turnL (chosenL p at' m)) (worthsL p at' m) hsq (by simp [worthsL]) h1 h4 k hk
  rw [vol_turn m _ (chosen_sq p at' m) h1 h4] at hc
  have e0 : (worthsL p at' m)[k]?.getD 0 = p.costs[atF at' k]?.getD 0 := by unfold worthsL; rw [range_getD, if_pos hk]
  rw [e0] at hc
  unfold gainL
  rw [range_getD, if_pos (atF_lt at' (n + m) m hr k hk)]
  unfold gainF
  rw [← hm]
  have e1 : dotN ((List.range m).map (hasF p (atF at' k))) (priceL p at' m) m = crm (turnL (chosenL p at' m)) (worthsL p at' m) m k := by
    unfold crm
    rw [dotN_sum, dotN_sum]
    refine sumN_congr _ _ _ fun i hi => ?_
    rw [range_getD, if_pos hi, range_getD, if_pos hi, Int.mul_comm]
    congr 1
    rw [← down_turn]
    exact (at2_grid (fun i k => hasF p (atF at' k) i) m i k hi hk).symm
  rw [e1, hc]
  show p.costs[atF at' k]?.getD 0 * vol (chosenL p at' m) none4 - vol (chosenL p at' m) none4 * p.costs[atF at' k]?.getD 0 = 0
  rw [Int.mul_comm]; omega

theorem sum_bd (f : Nat → Int) (B : Int) (n : Nat) (h : ∀ i, i < n → -B ≤ f i ∧ f i ≤ B) : -(B * n) ≤ sumN f n ∧ sumN f n ≤ B * n := by
  induction n with
  | zero => simp [sumN]
  | succ n ih =>
    have h1 := ih fun i hi => h i (by omega)
    have h2 := h n (by omega)
    unfold sumN
    simp only [Int.natCast_add, Int.natCast_one, Int.mul_add, Int.mul_one]
    omega

theorem hasF_bdx (p : Lp) (hmay : p.may = true) (m j : Nat) : ∀ i : Nat, -12 ≤ ((List.range m).map (hasF p j))[i]?.getD 0 ∧ ((List.range m).map (hasF p j))[i]?.getD 0 ≤ 12 := by
  intro i
  rw [range_getD]
  split
  · exact hasF_bd p hmay j i
  · omega

theorem den_bd12 (p : Lp) (at' : List Int) (m : Nat) (hmay : p.may = true) (h1 : 1 ≤ m) (h4 : m ≤ 4) : -497664 ≤ denL p at' m ∧ denL p at' m ≤ 497664 :=
  vol_bd12 m _ (chosen_sq p at' m) h1 h4 (chosen_bd12 p at' m hmay)

/-- Sums of costs, each times a share of numbers up to 12. -/
theorem worth_shares_bd (p : Lp) (at' : List Int) (m : Nat) (hmay : p.may = true) (h1 : 1 ≤ m) (h4 : m ≤ 4) (a : List Int) (ha : a.length = m) (hab : ∀ j : Nat, -12 ≤ a[j]?.getD 0 ∧ a[j]?.getD 0 ≤ 12) :
    -796262400 ≤ dotN (worthsL p at' m) (sharesL (chosenL p at' m) a m) m ∧ dotN (worthsL p at' m) (sharesL (chosenL p at' m) a m) m ≤ 796262400 := by
  have := dotN_bd (worthsL p at' m) (sharesL (chosenL p at' m) a m) 400 497664 (worths_bd p hmay at' m) (shares_bd12 m _ a (chosen_sq p at' m) ha h1 h4 (chosen_bd12 p at' m hmay) hab) m
  omega

theorem gain_bd (p : Lp) (at' : List Int) (m N : Nat) (hmay : p.may = true) (hm : m = p.rows.length) : ∀ j : Nat, -1073741824 ≤ (gainL p at' m N)[j]?.getD 0 ∧ (gainL p at' m N)[j]?.getD 0 ≤ 1073741824 := by
  intro j
  have h1 : 1 ≤ m := by have := (p.may_of hmay).2.2.1.1; omega
  have h4 : m ≤ 4 := by have := (p.may_of hmay).2.2.1.2; omega
  unfold gainL
  rw [range_getD]
  split
  · unfold gainF
    rw [← hm]
    have hp := prices m (chosenL p at' m) (worthsL p at' m) ((List.range m).map (hasF p j)) (chosen_sq p at' m) (by simp [worthsL]) (by simp) h1 h4
    have hb := worth_shares_bd p at' m hmay h1 h4 ((List.range m).map (hasF p j)) (by simp) (hasF_bdx p hmay m j)
    rw [← hp] at hb
    have hc := mul_bd2 _ _ _ _ (withinB_iff _ _ (p.may_of hmay).2.1 (by omega) j) (den_bd12 p at' m hmay h1 h4)
    show -1073741824 ≤ p.costs[j]?.getD 0 * denL p at' m - dotN ((List.range m).map (hasF p j)) (sharesL (turnL (chosenL p at' m)) (worthsL p at' m) m) m ∧ p.costs[j]?.getD 0 * denL p at' m - dotN ((List.range m).map (hasF p j)) (sharesL (turnL (chosenL p at' m)) (worthsL p at' m) m) m ≤ 1073741824
    omega
  · omega

theorem unit_bd (m k : Nat) : ∀ j : Nat, -12 ≤ ((List.range m).map fun i => if i = k then (1 : Int) else 0)[j]?.getD 0 ∧ ((List.range m).map fun i => if i = k then (1 : Int) else 0)[j]?.getD 0 ≤ 12 := by
  intro j
  rw [range_getD]
  split
  · split <;> omega
  · omega

theorem price_bd2 (p : Lp) (at' : List Int) (m : Nat) (hmay : p.may = true) (hm : m = p.rows.length) : ∀ j : Nat, -796262400 ≤ (priceL p at' m)[j]?.getD 0 ∧ (priceL p at' m)[j]?.getD 0 ≤ 796262400 := by
  intro j
  have h1 : 1 ≤ m := by have := (p.may_of hmay).2.2.1.1; omega
  have h4 : m ≤ 4 := by have := (p.may_of hmay).2.2.1.2; omega
  by_cases hj : j < m
  · have hp := prices m (chosenL p at' m) (worthsL p at' m) ((List.range m).map fun i => if i = j then (1 : Int) else 0) (chosen_sq p at' m) (by simp [worthsL]) (by simp) h1 h4
    have hb := worth_shares_bd p at' m hmay h1 h4 ((List.range m).map fun i => if i = j then (1 : Int) else 0) (by simp) (unit_bd m j)
    rw [← hp, dotN_sum] at hb
    have e : sumN (fun i => ((List.range m).map fun i => if i = j then (1 : Int) else 0)[i]?.getD 0 * (sharesL (turnL (chosenL p at' m)) (worthsL p at' m) m)[i]?.getD 0) m = (priceL p at' m)[j]?.getD 0 := by
      rw [← sum_one (fun i => (priceL p at' m)[i]?.getD 0) j m hj]
      exact sumN_congr _ _ _ fun i hi => by rw [range_getD, if_pos hi]; rfl
    rw [e] at hb
    exact hb
  · rw [getD_lt0 (priceL p at' m) m j (by unfold priceL sharesL; simp) hj]; omega

theorem x_bd (p : Lp) (at' : List Int) (m N : Nat) (hmay : p.may = true) (hm : m = p.rows.length) : ∀ j : Nat, -497664 ≤ (xL p at' m N)[j]?.getD 0 ∧ (xL p at' m N)[j]?.getD 0 ≤ 497664 := by
  have h1 : 1 ≤ m := by have := (p.may_of hmay).2.2.1.1; omega
  have h4 : m ≤ 4 := by have := (p.may_of hmay).2.2.1.2; omega
  have hs := shares_bd12 m (chosenL p at' m) (mostsL p m) (chosen_sq p at' m) (by simp [mostsL]) h1 h4 (chosen_bd12 p at' m hmay) (fun j => by
    unfold mostsL
    rw [range_getD]
    split
    · rename_i hj
      exact (p.row_of hmay j (by omega)).2.2
    · omega)
  unfold xL
  generalize sharesL (chosenL p at' m) (mostsL p m) m = s at *
  have key : ∀ k, ∀ j : Nat, -497664 ≤ (spreadN N at' s k)[j]?.getD 0 ∧ (spreadN N at' s k)[j]?.getD 0 ≤ 497664 := by
    intro k
    induction k with
    | zero => intro j; unfold spreadN; rw [List.getElem?_replicate]; split <;> simp
    | succ k ih =>
      intro j
      unfold spreadN
      rw [List.getElem?_set]
      split
      · split
        · exact hs k
        · simp
      · exact ih j
  exact key m

/-- A corner that has one way: its three points, each of its own numbers times one number, and what they come to. -/
theorem look_comes (p : Lp) (at' : List Int) (m n : Nat) (hmay : p.may = true) (hm : m = p.rows.length) (hn : n = p.costs.length) (hr : rightB at' m (n + m) = true) (hd : denL p at' m ≠ 0) :
    (look p at').err = 0 ∧ (look p at').x.length = n + m ∧ (look p at').y.length = m ∧ (look p at').g.length = n + m ∧
    (1 ≤ (look p at').xd ∧ (look p at').xd ≤ 497664) ∧ (1 ≤ (look p at').yd ∧ (look p at').yd ≤ 497664) ∧
    (∀ j : Nat, -497664 ≤ (look p at').x[j]?.getD 0 ∧ (look p at').x[j]?.getD 0 ≤ 497664) ∧ (∀ j : Nat, -796262400 ≤ (look p at').y[j]?.getD 0 ∧ (look p at').y[j]?.getD 0 ≤ 796262400) ∧
    (∀ i, i < m → dotN (p.rows[i]?.getD ([], 0)).1 (look p at').x n + (look p at').x[n + i]?.getD 0 = (p.rows[i]?.getD ([], 0)).2 * (look p at').xd) ∧
    (∀ k, k < m → (look p at').g[atF at' k]?.getD 0 = 0) ∧
    dotN p.costs (look p at').x n * (look p at').yd = dotN (mostsL p m) (look p at').y m * (look p at').xd := by
  have h1 : 1 ≤ m := by have := (p.may_of hmay).2.2.1.1; omega
  have h4 : m ≤ 4 := by have := (p.may_of hmay).2.2.1.2; omega
  have hn4 : n ≤ 4 := by have := (p.may_of hmay).1.2; omega
  have hden := den_bd12 p at' m hmay h1 h4
  have xb := x_bd p at' m (n + m) hmay hm
  have yb := price_bd2 p at' m hmay hm
  have gb := gain_bd p at' m (n + m) hmay hm
  obtain ⟨gx, gx0, _, xlen, xeq, xdeq, xd1, xdb, xab⟩ := pt_ok (xL p at' m (n + m)) (denL p at' m) hd (by omega) (fun j => by have := xb j; omega) (by unfold xL; rw [spread_len]; omega)
  obtain ⟨gy, gy0, _, ylen, yeq, ydeq, yd1, ydb, yab⟩ := pt_ok (priceL p at' m) (denL p at' m) hd (by omega) (fun j => by have := yb j; omega) (by unfold priceL sharesL; simp; omega)
  obtain ⟨gg, gg0, _, glen, geq, _, _, _, _⟩ := pt_ok (gainL p at' m (n + m)) (denL p at' m) hd (by omega) gb (by unfold gainL; simp; omega)
  have hl := look_some p at' hmay (by rw [← hm, ← hn]; exact hr) (by rw [← hm]; exact hd) m (n + m) hm (by rw [← hm, ← hn])
  have hrow := comes_row p at' m n hmay hm hn hr
  have hworth := comes_worth p at' m n hmay hm hn hr
  have hgain := comes_gain p at' m n hmay hm hr
  rw [hl]
  dsimp only
  generalize (pt (xL p at' m (n + m)) (denL p at' m)).1 = X at *
  generalize (pt (xL p at' m (n + m)) (denL p at' m)).2.1 = XD at *
  generalize (pt (priceL p at' m) (denL p at' m)).1 = Y at *
  generalize (pt (priceL p at' m) (denL p at' m)).2.1 = YD at *
  generalize (pt (gainL p at' m (n + m)) (denL p at' m)).1 = G at *
  have hxl : (xL p at' m (n + m)).length = n + m := by unfold xL; exact spread_len _ _ _ _
  have hyl : (priceL p at' m).length = m := by unfold priceL sharesL; simp
  have hgl : (gainL p at' m (n + m)).length = n + m := by unfold gainL; simp
  have dotx : ∀ (c : List Int) (k : Nat), dotN c (xL p at' m (n + m)) k = gx * dotN c X k := by
    intro c k
    rw [dotN_sum, dotN_sum, ← sumN_mul]
    exact sumN_congr _ _ _ fun i _ => by rw [xeq i]; simp only [Int.mul_left_comm]
  have doty : ∀ (c : List Int) (k : Nat), dotN c (priceL p at' m) k = gy * dotN c Y k := by
    intro c k
    rw [dotN_sum, dotN_sum, ← sumN_mul]
    exact sumN_congr _ _ _ fun i _ => by rw [yeq i]; simp only [Int.mul_left_comm]
  refine ⟨rfl, by omega, by omega, by omega, ⟨xd1, by omega⟩, ⟨yd1, by omega⟩, fun j => ?_, fun j => ?_, fun i hi => ?_, fun k hk => ?_, ?_⟩
  · have := xb j; have := xab j; omega
  · have := yb j; have := yab j; omega
  · have h := hrow i hi
    rw [dotx, xeq (n + i), xdeq] at h
    have e : gx * (dotN (p.rows[i]?.getD ([], 0)).1 X n + X[n + i]?.getD 0) = gx * ((p.rows[i]?.getD ([], 0)).2 * XD) := by
      rw [Int.mul_add, h]
      show mostF p i * (gx * XD) = gx * (mostF p i * XD)
      simp only [Int.mul_left_comm]
    exact Int.eq_of_mul_eq_mul_left gx0 e
  · have h := hgain k hk
    rw [geq] at h
    rcases Int.mul_eq_zero.1 h with h | h
    · exact absurd h gg0
    · exact h
  · rw [dotx, doty] at hworth
    generalize dotN p.costs X n = A at *
    generalize dotN (mostsL p m) Y m = B at *
    -- gx * A = gy * B, gx * XD = gy * YD
    have hdd : gx * XD = gy * YD := xdeq.symm.trans ydeq
    have e : (gx * gy) * (A * YD) = (gx * gy) * (B * XD) := by
      have e1 : (gx * gy) * (A * YD) = (gx * A) * (gy * YD) := by simp only [Int.mul_comm, Int.mul_left_comm]
      have e2 : (gx * gy) * (B * XD) = (gy * B) * (gx * XD) := by simp only [Int.mul_comm, Int.mul_left_comm]
      rw [e1, e2, hworth, hdd]
    exact Int.eq_of_mul_eq_mul_left (Int.mul_ne_zero gx0 gy0) e

end Num
end Go.Proofs.YtloncgmgcnaalaaGreat
