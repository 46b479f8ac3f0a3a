/- Costs along a line, in plain numbers: the gains of a corner go along with them. -/
import Derived.Test.YtloncgmgcnaalabSpn0
import Derived.Test.YtloncgmgcnaalabBigA
namespace Go.Proofs.Ytloncgmgcnaalab
namespace Num

/-- The program with other costs. -/
def withC (p : Lp) (c : List Int) : Lp := ⟨c, p.rows⟩
/-- The program with other mosts. -/
def withM (p : Lp) (b : List Int) : Lp := ⟨p.costs, (List.range p.rows.length).map fun i => ((p.rows[i]?.getD ([], 0)).1, b[i]?.getD 0)⟩

theorem withC_self (p : Lp) : withC p p.costs = p := rfl

theorem withC_has (p : Lp) (c : List Int) (hc : c.length = p.costs.length) (j i : Nat) : hasF (withC p c) j i = hasF p j i := by
  unfold hasF
  rw [show (withC p c).costs.length = p.costs.length from hc]
  rfl

theorem withC_chosen (p : Lp) (c : List Int) (hc : c.length = p.costs.length) (at' : List Int) (m : Nat) : chosenL (withC p c) at' m = chosenL p at' m := by
  unfold chosenL
  refine List.map_congr_left fun k _ => ?_
  exact List.map_congr_left fun i _ => withC_has p c hc _ i

theorem withC_den (p : Lp) (c : List Int) (hc : c.length = p.costs.length) (at' : List Int) (m : Nat) : denL (withC p c) at' m = denL p at' m := by
  unfold denL
  rw [withC_chosen p c hc]

theorem withC_sg (p : Lp) (c : List Int) (hc : c.length = p.costs.length) (at' : List Int) (m : Nat) : sgD (withC p c) at' m = sgD p at' m := by
  unfold sgD
  rw [withC_den p c hc]

theorem withC_x (p : Lp) (c : List Int) (hc : c.length = p.costs.length) (at' : List Int) (m N : Nat) : xL (withC p c) at' m N = xL p at' m N := by
  unfold xL
  rw [withC_chosen p c hc]
  rfl

theorem withC_may (p : Lp) (c : List Int) (hc : c.length = p.costs.length) (hmay : p.may = true) (hw : withinB 400 c = true) : (withC p c).may = true := by
  unfold Lp.may at hmay ⊢
  rw [show (withC p c).costs.length = p.costs.length from hc, show (withC p c).rows = p.rows from rfl, show (withC p c).costs = c from rfl, hw]
  simp only [Bool.and_eq_true, decide_eq_true_eq] at hmay ⊢
  exact ⟨⟨⟨⟨⟨hmay.1.1.1.1.1, hmay.1.1.1.1.2⟩, trivial⟩, hmay.1.1.2⟩, hmay.1.2⟩, hmay.2⟩

/-- The prices pay for each chosen column what it is worth. -/
theorem price_own (p : Lp) (at' : List Int) (m n : Nat) (h1 : 1 ≤ m) (h4 : m ≤ 4) (hm : m = p.rows.length) (hr : rightB at' m (n + m) = true) (k : Nat) (hk : k < m) : sumN (fun i => hasF p (atF at' k) i * (priceL p at' m)[i]?.getD 0) m = p.costs[atF at' k]?.getD 0 * denL p at' m := by
  have hg := comes_gain_b p at' m n h1 h4 hm hr k hk
  rw [gain_eq p at' m (n + m) _ hm (atF_lt at' (n + m) m hr k hk)] at hg
  omega

theorem sum_line (h y z : Nat → Int) (d t : Int) (m : Nat) : sumN (fun i => h i * (d * y i + t * z i)) m = d * sumN (fun i => h i * y i) m + t * sumN (fun i => h i * z i) m := by
  rw [← sumN_mul, ← sumN_mul, ← sumN_add]
  exact sumN_congr _ _ _ fun i _ => by grind

/-- Prices along a line of costs. -/
theorem price_line (p : Lp) (c1 c2 c3 : List Int) (d t : Int) (at' : List Int) (m n : Nat) (hm : m = p.rows.length) (l1 : c1.length = p.costs.length) (l2 : c2.length = p.costs.length) (l3 : c3.length = p.costs.length)
    (h1 : 1 ≤ m) (h4 : m ≤ 4) (hr : rightB at' m (n + m) = true) (hd : denL p at' m ≠ 0) (hc : ∀ j : Nat, c3[j]?.getD 0 = d * c1[j]?.getD 0 + t * c2[j]?.getD 0) (i : Nat) (hi : i < m) :
    (priceL (withC p c3) at' m)[i]?.getD 0 = d * (priceL (withC p c1) at' m)[i]?.getD 0 + t * (priceL (withC p c2) at' m)[i]?.getD 0 := by
  have p1 := price_own (withC p c1) at' m n h1 h4 hm hr
  have p2 := price_own (withC p c2) at' m n h1 h4 hm hr
  have p3 := price_own (withC p c3) at' m n h1 h4 hm hr
  have z := left_none p at' m h1 h4 hd (fun i => (priceL (withC p c3) at' m)[i]?.getD 0 - (d * (priceL (withC p c1) at' m)[i]?.getD 0 + t * (priceL (withC p c2) at' m)[i]?.getD 0)) (fun k hk => by
    have q1 := p1 k hk
    have q2 := p2 k hk
    have q3 := p3 k hk
    rw [withC_den p _ l1, show (withC p c1).costs = c1 from rfl] at q1
    rw [withC_den p _ l2, show (withC p c2).costs = c2 from rfl] at q2
    rw [withC_den p _ l3, show (withC p c3).costs = c3 from rfl] at q3
    have r1 : sumN (fun i => hasF p (atF at' k) i * (priceL (withC p c1) at' m)[i]?.getD 0) m = c1[atF at' k]?.getD 0 * denL p at' m := by
      rw [← q1]; exact sumN_congr _ _ _ fun i _ => by rw [withC_has p c1 l1]
    have r2 : sumN (fun i => hasF p (atF at' k) i * (priceL (withC p c2) at' m)[i]?.getD 0) m = c2[atF at' k]?.getD 0 * denL p at' m := by
      rw [← q2]; exact sumN_congr _ _ _ fun i _ => by rw [withC_has p c2 l2]
    have r3 : sumN (fun i => hasF p (atF at' k) i * (priceL (withC p c3) at' m)[i]?.getD 0) m = c3[atF at' k]?.getD 0 * denL p at' m := by
      rw [← q3]; exact sumN_congr _ _ _ fun i _ => by rw [withC_has p c3 l3]
    have e1 : sumN (fun i => hasF p (atF at' k) i * ((priceL (withC p c3) at' m)[i]?.getD 0 - (d * (priceL (withC p c1) at' m)[i]?.getD 0 + t * (priceL (withC p c2) at' m)[i]?.getD 0))) m
        = sumN (fun i => hasF p (atF at' k) i * (1 * (priceL (withC p c3) at' m)[i]?.getD 0 + -1 * (d * (priceL (withC p c1) at' m)[i]?.getD 0 + t * (priceL (withC p c2) at' m)[i]?.getD 0))) m := sumN_congr _ _ _ fun i _ => by
      rw [show (priceL (withC p c3) at' m)[i]?.getD 0 - (d * (priceL (withC p c1) at' m)[i]?.getD 0 + t * (priceL (withC p c2) at' m)[i]?.getD 0) = 1 * (priceL (withC p c3) at' m)[i]?.getD 0 + -1 * (d * (priceL (withC p c1) at' m)[i]?.getD 0 + t * (priceL (withC p c2) at' m)[i]?.getD 0) by omega]
    show sumN (fun i => hasF p (atF at' k) i * ((priceL (withC p c3) at' m)[i]?.getD 0 - (d * (priceL (withC p c1) at' m)[i]?.getD 0 + t * (priceL (withC p c2) at' m)[i]?.getD 0))) m = 0
    rw [e1, sum_line, sum_line, r1, r2, r3, hc]
    grind) i hi
  have z' : (priceL (withC p c3) at' m)[i]?.getD 0 - (d * (priceL (withC p c1) at' m)[i]?.getD 0 + t * (priceL (withC p c2) at' m)[i]?.getD 0) = 0 := z
  omega

/-- Gains along a line of costs. -/
theorem gain_line (p : Lp) (c1 c2 c3 : List Int) (d t : Int) (at' : List Int) (m n : Nat) (hm : m = p.rows.length) (l1 : c1.length = p.costs.length) (l2 : c2.length = p.costs.length) (l3 : c3.length = p.costs.length)
    (h1 : 1 ≤ m) (h4 : m ≤ 4) (hr : rightB at' m (n + m) = true) (hd : denL p at' m ≠ 0) (hc : ∀ j : Nat, c3[j]?.getD 0 = d * c1[j]?.getD 0 + t * c2[j]?.getD 0) (j : Nat) (hj : j < n + m) :
    (gainL (withC p c3) at' m (n + m))[j]?.getD 0 = d * (gainL (withC p c1) at' m (n + m))[j]?.getD 0 + t * (gainL (withC p c2) at' m (n + m))[j]?.getD 0 := by
  have hp := price_line p c1 c2 c3 d t at' m n hm l1 l2 l3 h1 h4 hr hd hc
  rw [gain_eq (withC p c1) at' m (n + m) j hm hj, gain_eq (withC p c2) at' m (n + m) j hm hj, gain_eq (withC p c3) at' m (n + m) j hm hj, withC_den p _ l1, withC_den p _ l2, withC_den p _ l3,
    show (withC p c1).costs = c1 from rfl, show (withC p c2).costs = c2 from rfl, show (withC p c3).costs = c3 from rfl, hc j]
  have e3 : sumN (fun i => hasF (withC p c3) j i * (priceL (withC p c3) at' m)[i]?.getD 0) m = d * sumN (fun i => hasF (withC p c1) j i * (priceL (withC p c1) at' m)[i]?.getD 0) m + t * sumN (fun i => hasF (withC p c2) j i * (priceL (withC p c2) at' m)[i]?.getD 0) m := by
    have a1 : sumN (fun i => hasF (withC p c3) j i * (priceL (withC p c3) at' m)[i]?.getD 0) m = sumN (fun i => hasF p j i * (d * (priceL (withC p c1) at' m)[i]?.getD 0 + t * (priceL (withC p c2) at' m)[i]?.getD 0)) m := sumN_congr _ _ _ fun i hi => by
      rw [withC_has p c3 l3, hp i hi]
    have a2 : sumN (fun i => hasF (withC p c1) j i * (priceL (withC p c1) at' m)[i]?.getD 0) m = sumN (fun i => hasF p j i * (priceL (withC p c1) at' m)[i]?.getD 0) m := sumN_congr _ _ _ fun i hi => by rw [withC_has p c1 l1]
    have a3 : sumN (fun i => hasF (withC p c2) j i * (priceL (withC p c2) at' m)[i]?.getD 0) m = sumN (fun i => hasF p j i * (priceL (withC p c2) at' m)[i]?.getD 0) m := sumN_congr _ _ _ fun i hi => by rw [withC_has p c2 l2]
    rw [a1, a2, a3, sum_line]
  rw [e3]
  grind

/-- What a look tells of the gains. -/
theorem look_gain (p : Lp) (at' : List Int) (m n : Nat) (hmay : p.may = true) (hm : m = p.rows.length) (hn : n = p.costs.length) (hr : rightB at' m (n + m) = true) (hd : denL p at' m ≠ 0) :
    (look p at').err = 0 ∧ (look p at').g.length = n + m ∧ (1 ≤ (look p at').gd ∧ (look p at').gd ≤ 497664) ∧ (∀ j : Nat, -1073741824 ≤ (look p at').g[j]?.getD 0 ∧ (look p at').g[j]?.getD 0 ≤ 1073741824) ∧
    ∃ g : Int, 0 < g ∧ (∀ j : Nat, sgD p at' m * (gainL p at' m (n + m))[j]?.getD 0 = g * (look p at').g[j]?.getD 0) ∧ sgD p at' m * denL p at' m = g * (look p at').gd := by
  have h1 : 1 ≤ m := by have := (p.may_of hmay).2.2.1.1; omega
  have h4 : m ≤ 4 := by have := (p.may_of hmay).2.2.1.2; omega
  have hn4 : n ≤ 4 := by have := (p.may_of hmay).1.2; omega
  have hb := den_bd12 p at' m hmay h1 h4
  have gb := gain_bd p at' m (n + m) hmay hm
  obtain ⟨g, g0, _, q2, q3, q4, q5, q6, q7⟩ := pt_ok (gainL p at' m (n + m)) (denL p at' m) hd (by omega) gb (by unfold gainL; simp; omega)
  have hy : (look p at').err = 0 ∧ (look p at').g = (pt (gainL p at' m (n + m)) (denL p at' m)).1 ∧ (look p at').gd = (pt (gainL p at' m (n + m)) (denL p at' m)).2.1 := by
    unfold look
    rw [if_neg (by simp [hmay]), if_neg (by rw [← hm, ← hn, hr]; decide), if_neg (by rw [← hm]; exact hd), ← hm, ← hn]
    exact ⟨rfl, rfl, rfl⟩
  refine ⟨hy.1, by rw [hy.2.1, q2]; simp [gainL], by rw [hy.2.2]; omega, fun j => by rw [hy.2.1]; have := q7 j; have := gb j; omega, sgD p at' m * g, ?_, fun j => by rw [hy.2.1, q3 j]; grind, ?_⟩
  · have hs := sgD_pos p at' m hd
    rw [q4, ← Int.mul_assoc] at hs
    exact (pos_mul_iff _ _ (show 0 < (pt (gainL p at' m (n + m)) (denL p at' m)).2.1 by omega)).1 (by rw [Int.mul_comm]; exact hs)
  · rw [hy.2.2, Int.mul_assoc, ← q4]

/-- The numbers by which the document tells a span of costs are those of the corner, but for a factor. -/
theorem costs_alike (p : Lp) (c1 c2 : List Int) (at' : List Int) (m n : Nat) (hm : m = p.rows.length) (hn : n = p.costs.length) (l1 : c1.length = p.costs.length) (l2 : c2.length = p.costs.length)
    (m1 : (withC p c1).may = true) (m2 : (withC p c2).may = true) (hr : rightB at' m (n + m) = true) (hd : denL p at' m ≠ 0) (j : Nat) :
    Alike (-(sgD p at' m * (gainL (withC p c1) at' m (n + m))[j]?.getD 0)) (-(sgD p at' m * (gainL (withC p c2) at' m (n + m))[j]?.getD 0))
      (0 - (look (withC p c1) at').g[j]?.getD 0 * (look (withC p c2) at').gd) (0 - (look (withC p c2) at').g[j]?.getD 0 * (look (withC p c1) at').gd) := by
  obtain ⟨_, _, _, _, g, g0, a1, a2⟩ := look_gain (withC p c1) at' m n m1 hm (by rw [hn]; exact l1.symm) hr (by rw [withC_den p _ l1]; exact hd)
  obtain ⟨_, _, _, _, h, h0, b1, b2⟩ := look_gain (withC p c2) at' m n m2 hm (by rw [hn]; exact l2.symm) hr (by rw [withC_den p _ l2]; exact hd)
  have a1 := a1 j
  have b1 := b1 j
  rw [withC_sg p _ l1] at a1 a2
  rw [withC_sg p _ l2] at b1 b2
  rw [withC_den p _ l1] at a2
  rw [withC_den p _ l2] at b2
  refine ⟨sgD p at' m * denL p at' m, g * h, sgD_pos p at' m hd, Int.mul_pos g0 h0, ?_, ?_⟩
  · rw [a1, b2]; grind
  · rw [b1, a2]; grind

/-- Costs along a line: a corner is best there if, and only if, its numbers are 0 or above. -/
theorem line_best (p : Lp) (c1 c2 c3 : List Int) (d t : Int) (at' : List Int) (m n : Nat) (hm : m = p.rows.length) (hn : n = p.costs.length) (l1 : c1.length = p.costs.length) (l2 : c2.length = p.costs.length) (l3 : c3.length = p.costs.length)
    (m1 : (withC p c1).may = true) (m2 : (withC p c2).may = true) (m3 : (withC p c3).may = true) (hr : rightB at' m (n + m) = true) (hd : denL p at' m ≠ 0) (hc : ∀ j : Nat, c3[j]?.getD 0 = d * c1[j]?.getD 0 + t * c2[j]?.getD 0) :
    (∀ j, j < n + m → (look (withC p c3) at').g[j]?.getD 0 ≤ 0) ↔ ∀ j, j < n + m → 0 ≤ (0 - (look (withC p c1) at').g[j]?.getD 0 * (look (withC p c2) at').gd) * d + t * (0 - (look (withC p c2) at').g[j]?.getD 0 * (look (withC p c1) at').gd) := by
  have h1 : 1 ≤ m := by have := ((withC p c1).may_of m1).2.2.1.1; rw [hm]; exact this
  have h4 : m ≤ 4 := by have := ((withC p c1).may_of m1).2.2.1.2; rw [hm]; exact this
  obtain ⟨_, _, _, _, g, g0, a1, _⟩ := look_gain (withC p c3) at' m n m3 hm (by rw [hn]; exact l3.symm) hr (by rw [withC_den p _ l3]; exact hd)
  have one : ∀ j, j < n + m → ((look (withC p c3) at').g[j]?.getD 0 ≤ 0 ↔ 0 ≤ (0 - (look (withC p c1) at').g[j]?.getD 0 * (look (withC p c2) at').gd) * d + t * (0 - (look (withC p c2) at').g[j]?.getD 0 * (look (withC p c1) at').gd)) := by
    intro j hj
    obtain ⟨k, l, k0, l0, e⟩ := alike_sum _ _ _ _ d t (costs_alike p c1 c2 at' m n hm hn l1 l2 m1 m2 hr hd j)
    have a := a1 j
    rw [withC_sg p _ l3, gain_line p c1 c2 c3 d t at' m n hm l1 l2 l3 h1 h4 hr hd hc j hj] at a
    rw [← nonneg_mul_iff l _ l0, e, nonneg_mul_iff k _ k0]
    have e2 : -(sgD p at' m * (gainL (withC p c1) at' m (n + m))[j]?.getD 0) * d + t * -(sgD p at' m * (gainL (withC p c2) at' m (n + m))[j]?.getD 0) = g * -((look (withC p c3) at').g[j]?.getD 0) := by
      rw [Int.mul_neg g, ← a]; grind
    rw [e2, nonneg_mul_iff g _ g0]
    omega
  exact ⟨fun h j hj => (one j hj).1 (h j hj), fun h j hj => (one j hj).2 (h j hj)⟩

end Num
end Go.Proofs.Ytloncgmgcnaalab
