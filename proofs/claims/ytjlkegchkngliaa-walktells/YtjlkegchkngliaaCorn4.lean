/- What columns come to, in plain numbers: Cramer's rule for up to four lines. -/
import Derived.Test.YtjlkegchkngliaaCorn2
namespace Go.Proofs.Ytjlkegchkngliaa
namespace Num

/-- How often the lines are taken, each times its number at place i, comes to what is wanted there, as often as their volume says. -/
def crm (ls : List (List Int)) (want : List Int) (n i : Nat) : Int := dotN (sharesL ls want n) ((List.range n).map fun k => at2 ls k i) n

/-- The numbers of a, each times the price at its place. -/
def prc (ls : List (List Int)) (w a : List Int) (n : Nat) : Int := dotN a (sharesL (turnL ls) w n) n

theorem cr1 (a x : Int) : crm [[a]] [x] 1 0 = vol [[a]] none4 * x := by
  simp [crm, dotN, sharesL, List.range_succ, vol, volSum, none4, at2]
  grind

theorem cr2 (a b c d x y : Int) (i : Nat) (hi : i < 2) : crm [[a, b], [c, d]] [x, y] 2 i = vol [[a, b], [c, d]] none4 * [x, y][i]?.getD 0 := by
  match i, hi with
  | 0, _ => simp [crm, dotN, sharesL, List.range_succ, vol, volSum, none4, mark, at2]; grind
  | 1, _ => simp [crm, dotN, sharesL, List.range_succ, vol, volSum, none4, mark, at2]; grind

theorem cr3 (a b c d e f g h j x y z : Int) (i : Nat) (hi : i < 3) : crm [[a, b, c], [d, e, f], [g, h, j]] [x, y, z] 3 i = vol [[a, b, c], [d, e, f], [g, h, j]] none4 * [x, y, z][i]?.getD 0 := by
  match i, hi with
  | 0, _ => simp [crm, dotN, sharesL, List.range_succ, vol, volSum, none4, mark, at2]; grind
  | 1, _ => simp [crm, dotN, sharesL, List.range_succ, vol, volSum, none4, mark, at2]; grind
  | 2, _ => simp [crm, dotN, sharesL, List.range_succ, vol, volSum, none4, mark, at2]; grind

set_option maxHeartbeats 4000000 in
theorem cr4 (a b c d e f g h j k l m n o p q x y z u : Int) (i : Nat) (hi : i < 4) : crm [[a, b, c, d], [e, f, g, h], [j, k, l, m], [n, o, p, q]] [x, y, z, u] 4 i = vol [[a, b, c, d], [e, f, g, h], [j, k, l, m], [n, o, p, q]] none4 * [x, y, z, u][i]?.getD 0 := by
  match i, hi with
  | 0, _ => simp [crm, dotN, sharesL, List.range_succ, vol, volSum, none4, mark, at2]; grind
  | 1, _ => simp [crm, dotN, sharesL, List.range_succ, vol, volSum, none4, mark, at2]; grind
  | 2, _ => simp [crm, dotN, sharesL, List.range_succ, vol, volSum, none4, mark, at2]; grind
  | 3, _ => simp [crm, dotN, sharesL, List.range_succ, vol, volSum, none4, mark, at2]; grind

theorem cramer (n : Nat) (ls : List (List Int)) (want : List Int) (h : Sq n ls) (hw : want.length = n) (h1 : 1 ≤ n) (h4 : n ≤ 4) (i : Nat) (hi : i < n) : crm ls want n i = vol ls none4 * want[i]?.getD 0 := by
  obtain ⟨hl, ha⟩ := h
  match n, h1, h4 with
  | 1, _, _ =>
    obtain ⟨x, rfl⟩ := len1 ls hl
    obtain ⟨a, rfl⟩ := len1 x (ha x (by simp))
    obtain ⟨w, rfl⟩ := len1 want hw
    obtain rfl : i = 0 := by omega
    exact cr1 a w
  | 2, _, _ =>
    obtain ⟨x, y, rfl⟩ := len2 ls hl
    obtain ⟨a, b, rfl⟩ := len2 x (ha x (by simp))
    obtain ⟨c, d, rfl⟩ := len2 y (ha y (by simp))
    obtain ⟨w, w', rfl⟩ := len2 want hw
    exact cr2 _ _ _ _ _ _ i hi
  | 3, _, _ =>
    obtain ⟨x, y, z, rfl⟩ := len3 ls hl
    obtain ⟨a, b, c, rfl⟩ := len3 x (ha x (by simp))
    obtain ⟨d, e, f, rfl⟩ := len3 y (ha y (by simp))
    obtain ⟨g, h, j, rfl⟩ := len3 z (ha z (by simp))
    obtain ⟨w, w', w'', rfl⟩ := len3 want hw
    exact cr3 _ _ _ _ _ _ _ _ _ _ _ _ i hi
  | 4, _, _ =>
    obtain ⟨x, y, z, u, rfl⟩ := len4 ls hl
    obtain ⟨a, b, c, d, rfl⟩ := len4 x (ha x (by simp))
    obtain ⟨e, f, g, h, rfl⟩ := len4 y (ha y (by simp))
    obtain ⟨j, k, l, m, rfl⟩ := len4 z (ha z (by simp))
    obtain ⟨n, o, p, q, rfl⟩ := len4 u (ha u (by simp))
    obtain ⟨w, w', w'', w3, rfl⟩ := len4 want hw
    exact cr4 _ _ _ _ _ _ _ _ _ _ _ _ _ _ _ _ _ _ _ _ i hi

end Num
end Go.Proofs.Ytjlkegchkngliaa
