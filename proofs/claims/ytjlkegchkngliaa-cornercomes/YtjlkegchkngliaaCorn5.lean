/- What columns come to, in plain numbers: prices, and how great all that is. -/
import Derived.Test.YtjlkegchkngliaaCorn4
import Derived.Test.YtjlkegchkngliaaPrf1
namespace Go.Proofs.Ytjlkegchkngliaa
namespace Num

theorem pr1 (a w x : Int) : prc [[a]] [w] [x] 1 = dotN [w] (sharesL [[a]] [x] 1) 1 := by
  simp [prc, dotN, sharesL, turnL, List.range_succ, vol, volSum, none4]
  grind

theorem pr2 (a b c d w v x y : Int) : prc [[a, b], [c, d]] [w, v] [x, y] 2 = dotN [w, v] (sharesL [[a, b], [c, d]] [x, y] 2) 2 := by
  simp [prc, dotN, sharesL, turnL, List.range_succ, vol, volSum, none4, mark, at2]
  grind

theorem pr3 (a b c d e f g h j w v u x y z : Int) : prc [[a, b, c], [d, e, f], [g, h, j]] [w, v, u] [x, y, z] 3 = dotN [w, v, u] (sharesL [[a, b, c], [d, e, f], [g, h, j]] [x, y, z] 3) 3 := by
  simp [prc, dotN, sharesL, turnL, List.range_succ, vol, volSum, none4, mark, at2]
  grind

set_option maxHeartbeats 4000000 in
theorem pr4 (a b c d e f g h j k l m n o p q w v u t x y z s : Int) : prc [[a, b, c, d], [e, f, g, h], [j, k, l, m], [n, o, p, q]] [w, v, u, t] [x, y, z, s] 4 = dotN [w, v, u, t] (sharesL [[a, b, c, d], [e, f, g, h], [j, k, l, m], [n, o, p, q]] [x, y, z, s] 4) 4 := by
  simp [prc, dotN, sharesL, turnL, List.range_succ, vol, volSum, none4, mark, at2]
  grind

theorem vt2 (a b c d : Int) : vol (turnL [[a, b], [c, d]]) none4 = vol [[a, b], [c, d]] none4 := by
  simp [turnL, List.range_succ, vol, volSum, none4, mark, at2]
  grind

theorem vt3 (a b c d e f g h j : Int) : vol (turnL [[a, b, c], [d, e, f], [g, h, j]]) none4 = vol [[a, b, c], [d, e, f], [g, h, j]] none4 := by
  simp [turnL, List.range_succ, vol, volSum, none4, mark, at2]
  grind

set_option maxHeartbeats 4000000 in
theorem vt4 (a b c d e f g h j k l m n o p q : Int) : vol (turnL [[a, b, c, d], [e, f, g, h], [j, k, l, m], [n, o, p, q]]) none4 = vol [[a, b, c, d], [e, f, g, h], [j, k, l, m], [n, o, p, q]] none4 := by
  simp [turnL, List.range_succ, vol, volSum, none4, mark, at2]
  grind

theorem prices (n : Nat) (ls : List (List Int)) (w vv : List Int) (h : Sq n ls) (hw : w.length = n) (ha' : vv.length = n) (h1 : 1 ≤ n) (h4 : n ≤ 4) : dotN vv (sharesL (turnL ls) w n) n = dotN w (sharesL ls vv n) n := by
  obtain ⟨hl, ha⟩ := h
  match n, h1, h4 with
  | 1, _, _ =>
    obtain ⟨x, rfl⟩ := len1 ls hl
    obtain ⟨b, rfl⟩ := len1 x (ha x (by simp))
    obtain ⟨w, rfl⟩ := len1 w hw
    obtain ⟨a, rfl⟩ := len1 vv ha'
    exact pr1 _ _ _
  | 2, _, _ =>
    obtain ⟨x, y, rfl⟩ := len2 ls hl
    obtain ⟨a, b, rfl⟩ := len2 x (ha x (by simp))
    obtain ⟨c, d, rfl⟩ := len2 y (ha y (by simp))
    obtain ⟨w, w', rfl⟩ := len2 w hw
    obtain ⟨a, a', rfl⟩ := len2 vv ha'
    exact pr2 _ _ _ _ _ _ _ _
  | 3, _, _ =>
    obtain ⟨x, y, z, rfl⟩ := len3 ls hl
    obtain ⟨a, b, c, rfl⟩ := len3 x (ha x (by simp))
    obtain ⟨d, e, f, rfl⟩ := len3 y (ha y (by simp))
    obtain ⟨g, h, j, rfl⟩ := len3 z (ha z (by simp))
    obtain ⟨w, w', w'', rfl⟩ := len3 w hw
    obtain ⟨a, a', a'', rfl⟩ := len3 vv ha'
    exact pr3 _ _ _ _ _ _ _ _ _ _ _ _ _ _ _
  | 4, _, _ =>
    obtain ⟨x, y, z, u, rfl⟩ := len4 ls hl
    obtain ⟨a, b, c, d, rfl⟩ := len4 x (ha x (by simp))
    obtain ⟨e, f, g, h, rfl⟩ := len4 y (ha y (by simp))
    obtain ⟨j, k, l, m, rfl⟩ := len4 z (ha z (by simp))
    obtain ⟨n, o, p, q, rfl⟩ := len4 u (ha u (by simp))
    obtain ⟨w, w', w'', w3, rfl⟩ := len4 w hw
    obtain ⟨a, a', a'', a3, rfl⟩ := len4 vv ha'
    exact pr4 _ _ _ _ _ _ _ _ _ _ _ _ _ _ _ _ _ _ _ _ _ _ _ _

theorem vol_turn (n : Nat) (ls : List (List Int)) (h : Sq n ls) (h1 : 1 ≤ n) (h4 : n ≤ 4) : vol (turnL ls) none4 = vol ls none4 := by
  obtain ⟨hl, ha⟩ := h
  match n, h1, h4 with
  | 1, _, _ =>
    obtain ⟨x, rfl⟩ := len1 ls hl
    obtain ⟨b, rfl⟩ := len1 x (ha x (by simp))
    simp [turnL, List.range_succ, at2]
  | 2, _, _ =>
    obtain ⟨x, y, rfl⟩ := len2 ls hl
    obtain ⟨a, b, rfl⟩ := len2 x (ha x (by simp))
    obtain ⟨c, d, rfl⟩ := len2 y (ha y (by simp))
    exact vt2 _ _ _ _
  | 3, _, _ =>
    obtain ⟨x, y, z, rfl⟩ := len3 ls hl
    obtain ⟨a, b, c, rfl⟩ := len3 x (ha x (by simp))
    obtain ⟨d, e, f, rfl⟩ := len3 y (ha y (by simp))
    obtain ⟨g, h, j, rfl⟩ := len3 z (ha z (by simp))
    exact vt3 _ _ _ _ _ _ _ _ _
  | 4, _, _ =>
    obtain ⟨x, y, z, u, rfl⟩ := len4 ls hl
    obtain ⟨a, b, c, d, rfl⟩ := len4 x (ha x (by simp))
    obtain ⟨e, f, g, h, rfl⟩ := len4 y (ha y (by simp))
    obtain ⟨j, k, l, m, rfl⟩ := len4 z (ha z (by simp))
    obtain ⟨n, o, p, q, rfl⟩ := len4 u (ha u (by simp))
    exact vt4 _ _ _ _ _ _ _ _ _ _ _ _ _ _ _ _

/-- How great a determinant of numbers up to 12 can be. -/
def bd12 : Nat → Int
  | 0 => 1
  | n + 1 => 12 * bd12 n * (n + 1)

theorem detN_bd12 (n : Nat) (ls : List (List Int)) (h : BdL 12 ls) : -(bd12 n) ≤ detN n ls ∧ detN n ls ≤ bd12 n := by
  induction n generalizing ls with
  | zero => simp [detN, bd12]
  | succ n ih =>
    have hf : ∀ k : Nat, -(bd12 n) ≤ detN n ((ls.drop 1).map (del k)) ∧ detN n ((ls.drop 1).map (del k)) ≤ bd12 n := fun k => ih _ (h.minor (by omega) k)
    have hs := volSum_bd (fun k => detN n ((ls.drop 1).map (del k))) (ls[0]?.getD []) none4 12 (bd12 n) (h 0) hf (n + 1)
    unfold detN bd12
    simpa using hs

theorem vol_bd12 (n : Nat) (ls : List (List Int)) (h : Sq n ls) (h1 : 1 ≤ n) (h4 : n ≤ 4) (hb : BdL 12 ls) : -497664 ≤ vol ls none4 ∧ vol ls none4 ≤ 497664 := by
  have := detN_bd12 n (turnL ls) (turn_bd _ _ hb)
  rw [vol_det n ls h h1 h4]
  match n, h1, h4 with
  | 1, _, _ => simp [bd12] at this; omega
  | 2, _, _ => simp [bd12] at this; omega
  | 3, _, _ => simp [bd12] at this; omega
  | 4, _, _ => simp [bd12] at this; omega

theorem shares_bd12 (n : Nat) (ls : List (List Int)) (a : List Int) (h : Sq n ls) (ha : a.length = n) (h1 : 1 ≤ n) (h4 : n ≤ 4) (hb : BdL 12 ls) (hab : ∀ j : Nat, -12 ≤ a[j]?.getD 0 ∧ a[j]?.getD 0 ≤ 12) :
    ∀ j : Nat, -497664 ≤ (sharesL ls a n)[j]?.getD 0 ∧ (sharesL ls a n)[j]?.getD 0 ≤ 497664 := by
  intro j
  unfold sharesL
  rw [range_getD]
  split
  · exact vol_bd12 n _ (set_sq ls n j a h ha) h1 h4 (hb.set j a hab)
  · omega

end Num
end Go.Proofs.Ytjlkegchkngliaa
