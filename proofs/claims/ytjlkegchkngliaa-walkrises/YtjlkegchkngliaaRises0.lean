/- In a walk no columns come twice, and the worth never falls, told by what Look answers: in plain numbers. -/
import Derived.Test.YtjlkegchkngliaaWalkQ
namespace Go.Proofs.Ytjlkegchkngliaa
namespace Num

theorem dot_sum (c x : List Int) (n m : Nat) (hn : n = c.length) : sumN (fun j => c[j]?.getD 0 * x[j]?.getD 0) (n + m) = dotN c x n := by
  rw [sumN_split, dotN_sum]
  have : sumN (fun i => c[n + i]?.getD 0 * x[n + i]?.getD 0) m = sumN (fun _ => 0) m := sumN_congr _ _ _ fun i _ => by rw [List.getElem?_eq_none (by omega)]; simp
  rw [this, sumN_zero, Int.add_zero]

/-- All corners of a walk go; and its kind. -/
theorem isWalk_good {p : Lp} {at' : List Int} {l : List (List Int)} {k : Int} (hmay : p.may = true) (h : IsWalk p at' l k) : (∀ i, i < l.length → Good p (l[i]?.getD []) p.rows.length p.costs.length) ∧ (k = 1 ∨ k = 2) ∧ 1 ≤ l.length := by
  obtain ⟨K, a1, a2, a3, a4, a5⟩ := h
  have hlast : Good p (l[K]?.getD []) p.rows.length p.costs.length ∧ (k = 1 ∨ k = 2) := by
    rcases next_cases p (l[K]?.getD []) p.rows.length p.costs.length hmay rfl rfl with ⟨e, he, h1, _⟩ | ⟨hg, ⟨k', hk, hk2, h1⟩ | ⟨nx, s, k', h1, _⟩⟩
    · rw [a4] at h1
      simp only [Prod.mk.injEq] at h1
      exact absurd h1.2.2.symm he
    · rw [a4] at h1
      simp only [Prod.mk.injEq, true_and, and_true] at h1
      exact ⟨hg, by rw [h1]; exact hk2⟩
    · rw [a4] at h1
      simp only [Prod.mk.injEq] at h1
      exact absurd h1.2.1 a5
  refine ⟨fun i hi => ?_, hlast.2, by omega⟩
  by_cases hiK : i < K
  · obtain ⟨_, _, _, h2⟩ := path_steps p p.rows.length p.costs.length hmay rfl rfl (fun q => l[q]?.getD []) K a3
    exact (h2 i hiK).1
  · have : i = K := by omega
    subst this
    exact hlast.1

/-- No columns come twice. -/
theorem isWalk_new {p : Lp} {at' : List Int} {l : List (List Int)} {k : Int} (hmay : p.may = true) (h : IsWalk p at' l k) (a b : Nat) (hab : a < b) (hb : b < l.length) : l[a]?.getD [] ≠ l[b]?.getD [] := by
  have hg := (isWalk_good hmay h).1
  obtain ⟨K, a1, a2, a3, a4, a5⟩ := h
  obtain ⟨ss, ks, h1, _⟩ := path_steps p p.rows.length p.costs.length hmay rfl rfl (fun q => l[q]?.getD []) K a3
  exact walk_new p p.rows.length p.costs.length hmay rfl (fun q => l[q]?.getD []) ss ks K (fun q j hq => (hg q (by omega)).x j) (fun q hq => (hg q (by omega)).den) h1 a b hab (by omega)

/-- The worth never falls. -/
theorem isWalk_worth {p : Lp} {at' : List Int} {l : List (List Int)} {k : Int} (hmay : p.may = true) (h : IsWalk p at' l k) (q : Nat) (hq : q + 1 < l.length) :
    dotN p.costs (look p (l[q]?.getD [])).x p.costs.length * (look p (l[q + 1]?.getD [])).xd ≤ dotN p.costs (look p (l[q + 1]?.getD [])).x p.costs.length * (look p (l[q]?.getD [])).xd := by
  have hg := (isWalk_good hmay h).1
  obtain ⟨K, a1, a2, a3, a4, a5⟩ := h
  obtain ⟨ss, ks, h1, _⟩ := path_steps p p.rows.length p.costs.length hmay rfl rfl (fun q => l[q]?.getD []) K a3
  have hw := walk_worth p p.rows.length p.costs.length hmay rfl (fun q => l[q]?.getD []) ss ks K (fun q j hq => (hg q (by omega)).x j) (fun q hq => (hg q (by omega)).den) h1 q (by omega)
  obtain ⟨_, _, _, _, _, g1, _, g10, _, hx1, hd1, _⟩ := look_parts p (l[q]?.getD []) p.rows.length p.costs.length hmay rfl rfl (hg q (by omega)).right (hg q (by omega)).den
  obtain ⟨_, _, _, _, _, g2, _, g20, _, hx2, hd2, _⟩ := look_parts p (l[q + 1]?.getD []) p.rows.length p.costs.length hmay rfl rfl (hg (q + 1) hq).right (hg (q + 1) hq).den
  have e1 : sumN (fun j => p.costs[j]?.getD 0 * (sgD p (l[q]?.getD []) p.rows.length * (xL p (l[q]?.getD []) p.rows.length (p.costs.length + p.rows.length))[j]?.getD 0)) (p.costs.length + p.rows.length) = g1 * dotN p.costs (look p (l[q]?.getD [])).x p.costs.length := by
    rw [← dot_sum p.costs _ p.costs.length p.rows.length rfl, ← sumN_mul]
    exact sumN_congr _ _ _ fun j _ => by rw [hx1 j]; grind
  have e2 : sumN (fun j => p.costs[j]?.getD 0 * (sgD p (l[q + 1]?.getD []) p.rows.length * (xL p (l[q + 1]?.getD []) p.rows.length (p.costs.length + p.rows.length))[j]?.getD 0)) (p.costs.length + p.rows.length) = g2 * dotN p.costs (look p (l[q + 1]?.getD [])).x p.costs.length := by
    rw [← dot_sum p.costs _ p.costs.length p.rows.length rfl, ← sumN_mul]
    exact sumN_congr _ _ _ fun j _ => by rw [hx2 j]; grind
  rw [e1, e2, hd1, hd2] at hw
  generalize dotN p.costs (look p (l[q]?.getD [])).x p.costs.length = S1 at *
  generalize dotN p.costs (look p (l[q + 1]?.getD [])).x p.costs.length = S2 at *
  generalize (look p (l[q]?.getD [])).xd = d1 at *
  generalize (look p (l[q + 1]?.getD [])).xd = d2 at *
  have hp := Int.mul_pos g10 g20
  have f1 : g1 * S1 * (g2 * d2) = g1 * g2 * (S1 * d2) := by grind
  have f2 : g2 * S2 * (g1 * d1) = g1 * g2 * (S2 * d1) := by grind
  rw [f1, f2] at hw
  exact Int.le_of_mul_le_mul_left hw hp

/-- Fractions in lowest terms are as their own numbers are. -/
theorem frac_le (s1 d1 s2 d2 n1 m1 n2 m2 : Int) (h : s1 * d2 ≤ s2 * d1) (hd1 : 1 ≤ d1) (hd2 : 1 ≤ d2) (hm1 : 1 ≤ m1) (hm2 : 1 ≤ m2) (e1 : s1 * m1 = n1 * d1) (e2 : s2 * m2 = n2 * d2) : ¬ n2 * m1 - n1 * m2 < 0 := by
  intro hn
  have a1 : (m1 * m2) * (s1 * d2) ≤ (m1 * m2) * (s2 * d1) := Int.mul_le_mul_of_nonneg_left h (Int.mul_nonneg (by omega) (by omega))
  have a2 : (m1 * m2) * (s1 * d2) = (d1 * d2) * (n1 * m2) := by
    have : (m1 * m2) * (s1 * d2) = (s1 * m1) * (m2 * d2) := by grind
    rw [this, e1]; grind
  have a3 : (m1 * m2) * (s2 * d1) = (d1 * d2) * (n2 * m1) := by
    have : (m1 * m2) * (s2 * d1) = (s2 * m2) * (m1 * d1) := by grind
    rw [this, e2]; grind
  rw [a2, a3] at a1
  have := Int.le_of_mul_le_mul_left a1 (Int.mul_pos (by omega) (by omega))
  omega

/-- A walk that is known. -/
theorem known_walk : IsWalk ⟨[5], [([2], 3)]⟩ [1] [[1], [0]] 1 := by
  have h1 : nextN ⟨[5], [([2], 3)]⟩ [1] = ([0], 0, 0) := by decide +kernel
  have h2 : nextN ⟨[5], [([2], 3)]⟩ [0] = ([], 1, 0) := by decide +kernel
  refine ⟨1, rfl, rfl, fun q hq => ?_, h2, by decide⟩
  have : q = 0 := by omega
  subst this
  exact h1

end Num
end Go.Proofs.Ytjlkegchkngliaa
