/- A walk whose entering column is the least that gains, and whose leaving column is the least among the nearest, never comes back: in plain numbers. -/
import Derived.Test.YtloncgmgcnaalaaGreatPrfP
import Derived.Test.YtloncgmgcnaalaaGreatCornD
namespace Go.Proofs.YtloncgmgcnaalaaGreat
namespace Num

/-- Steps 0 to K - 1 of a walk: the columns in (B), the numbers of the corner (x over X), the gains (g over G, with prices y), the way along which the entering column s grows (d), the leaving column o. -/
structure Steps (N m : Nat) (c : Nat → Int) (a : Nat → Nat → Int) (B : Nat → Nat → Bool) (x : Nat → Nat → Int) (X : Nat → Int) (g : Nat → Nat → Int) (G : Nat → Int) (y : Nat → Nat → Int) (d : Nat → Nat → Int) (s o : Nat → Nat) (K : Nat) : Prop where
  X0 : ∀ k, k ≤ K → 0 < X k
  G0 : ∀ k, k < K → 0 < G k
  xb : ∀ k j, k ≤ K → 0 ≤ x k j
  gb : ∀ k j, k < K → B k j = true → g k j = 0
  gy : ∀ k j, k < K → j < N → g k j = G k * c j - sumN (fun i => y k i * a i j) m
  dz : ∀ k i, k < K → i < m → sumN (fun j => a i j * d k j) N = 0
  db : ∀ k j, k < K → B k j = false → j ≠ s k → d k j = 0
  ds : ∀ k, k < K → 0 < d k (s k)
  sN : ∀ k, k < K → s k < N
  sg : ∀ k, k < K → 0 < g k (s k)
  sl : ∀ k j, k < K → j < s k → g k j ≤ 0
  oN : ∀ k, k < K → o k < N
  ob : ∀ k, k < K → B k (o k) = true
  od : ∀ k, k < K → d k (o k) < 0
  ol : ∀ k j, k < K → B k j = true → d k j < 0 → x k (o k) * (-(d k j)) = x k j * (-(d k (o k))) → o k ≤ j
  bs : ∀ k j, k < K → B (k + 1) j = (if j = s k then true else if j = o k then false else B k j)
  xs : ∀ k j, k < K → j < N → x (k + 1) j * X k * (-(d k (o k))) = X (k + 1) * (x k j * (-(d k (o k))) + x k (o k) * d k j)

theorem sumN_only (f : Nat → Int) (q n : Nat) (hq : q < n) (h : ∀ j, j < n → j ≠ q → f j = 0) : sumN f n = f q := by
  induction n with
  | zero => omega
  | succ n ih =>
    show sumN f n + f n = f q
    by_cases hn : q = n
    · subst hn
      have : sumN f q = sumN (fun _ => 0) q := sumN_congr _ _ _ fun i hi => h i (by omega) (by omega)
      rw [this, sumN_zero]; omega
    · rw [ih (by omega) fun j hj hne => h j (by omega) hne, h n (by omega) (by omega)]; omega

theorem sumN_pos_some (f : Nat → Int) (n : Nat) (h : 0 < sumN f n) : ∃ j, j < n ∧ 0 < f j := by
  induction n with
  | zero => simp [sumN] at h
  | succ n ih =>
    by_cases hp : 0 < f n
    · exact ⟨n, by omega, hp⟩
    · have h' : 0 < sumN f n + f n := h
      obtain ⟨j, hj, hf⟩ := ih (by omega)
      exact ⟨j, by omega, hf⟩

theorem most_at (f : Nat → Nat) (a : Nat) : ∀ b, a < b → ∃ q, a ≤ q ∧ q < b ∧ ∀ r, a ≤ r → r < b → f r ≤ f q := by
  intro b
  induction b with
  | zero => intro h; omega
  | succ b ih =>
    intro h
    by_cases hab : a < b
    · obtain ⟨q, h1, h2, h3⟩ := ih hab
      by_cases hf : f b ≤ f q
      · refine ⟨q, h1, by omega, fun r hr hr2 => ?_⟩
        by_cases hrb : r = b
        · subst hrb; exact hf
        · exact h3 r hr (by omega)
      · refine ⟨b, by omega, by omega, fun r hr hr2 => ?_⟩
        by_cases hrb : r = b
        · subst hrb; omega
        · have := h3 r hr (by omega); omega
    · refine ⟨a, by omega, by omega, fun r hr hr2 => ?_⟩
      have : r = a := by omega
      subst this; omega

namespace Steps
variable {N m : Nat} {c : Nat → Int} {a : Nat → Nat → Int} {B : Nat → Nat → Bool} {x : Nat → Nat → Int} {X : Nat → Int} {g : Nat → Nat → Int} {G : Nat → Int} {y : Nat → Nat → Int} {d : Nat → Nat → Int} {s o : Nat → Nat} {K : Nat}

theorem cross (h : Steps N m c a B x X g G y d s o K) (k l : Nat) (hk : k < K) (hl : l < K) : sumN (fun j => g k j * d l j) N = G k * sumN (fun j => c j * d l j) N := by
  have e1 : sumN (fun j => g k j * d l j) N = sumN (fun j => G k * (c j * d l j) + (-1) * sumN (fun i => y k i * (a i j * d l j)) m) N := by
    refine sumN_congr _ _ _ fun j hj => ?_
    have e2 : sumN (fun i => y k i * (a i j * d l j)) m = d l j * sumN (fun i => y k i * a i j) m := by
      rw [← sumN_mul]; exact sumN_congr _ _ _ fun i _ => by grind
    rw [e2, h.gy k j hk hj]; grind
  have e3 : sumN (fun j => sumN (fun i => y k i * (a i j * d l j)) m) N = 0 := by
    rw [sumN_swap]
    have : sumN (fun i => sumN (fun j => y k i * (a i j * d l j)) N) m = sumN (fun _ => 0) m := by
      refine sumN_congr _ _ _ fun i hi => ?_
      rw [sumN_mul, h.dz l i hl hi]; grind
    rw [this, sumN_zero]
  rw [e1, sumN_add, sumN_mul, sumN_mul, e3]; omega

theorem rise (h : Steps N m c a B x X g G y d s o K) (k : Nat) (hk : k < K) : 0 < sumN (fun j => c j * d k j) N := by
  have h1 := h.cross k k hk hk
  rw [sumN_only (fun j => g k j * d k j) (s k) N (h.sN k hk) fun j _ hne => by
    cases hB : B k j with
    | true => show g k j * d k j = 0; rw [h.gb k j hk hB]; omega
    | false => show g k j * d k j = 0; rw [h.db k j hk hB hne]; omega] at h1
  have h2 : 0 < g k (s k) * d k (s k) := Int.mul_pos (h.sg k hk) (h.ds k hk)
  have h3 := h.G0 k hk
  generalize sumN (fun j => c j * d k j) N = W at *
  by_cases hW : 0 < W
  · exact hW
  · have : G k * W ≤ 0 := Int.mul_nonpos_of_nonneg_of_nonpos (by omega) (by omega)
    have h1' : g k (s k) * d k (s k) = G k * W := h1
    omega

theorem worth (h : Steps N m c a B x X g G y d s o K) (k : Nat) (hk : k < K) : sumN (fun j => c j * x (k + 1) j) N * X k * (-(d k (o k))) = X (k + 1) * (sumN (fun j => c j * x k j) N * (-(d k (o k))) + x k (o k) * sumN (fun j => c j * d k j) N) := by
  have e : sumN (fun j => (X k * (-(d k (o k)))) * (c j * x (k + 1) j)) N = sumN (fun j => (X (k + 1) * (-(d k (o k)))) * (c j * x k j) + (X (k + 1) * x k (o k)) * (c j * d k j)) N := by
    refine sumN_congr _ _ _ fun j hj => ?_
    have := h.xs k j hk hj
    grind
  rw [sumN_mul, sumN_add, sumN_mul, sumN_mul] at e
  grind

theorem not_less (h : Steps N m c a B x X g G y d s o K) (k : Nat) (hk : k < K) : sumN (fun j => c j * x k j) N * X (k + 1) ≤ sumN (fun j => c j * x (k + 1) j) N * X k ∧ (0 < x k (o k) → sumN (fun j => c j * x k j) N * X (k + 1) < sumN (fun j => c j * x (k + 1) j) N * X k) := by
  have h1 := h.worth k hk
  have h2 := h.rise k hk
  have h3 := h.od k hk
  have h4 := h.X0 (k + 1) hk
  have h5 := h.xb k (o k) (by omega)
  generalize sumN (fun j => c j * d k j) N = W at *
  generalize sumN (fun j => c j * x k j) N = z at *
  generalize sumN (fun j => c j * x (k + 1) j) N = z' at *
  generalize hD : -(d k (o k)) = D at *
  have hDp : 0 < D := by omega
  have e : (z' * X k - z * X (k + 1)) * D = X (k + 1) * (x k (o k) * W) := by grind
  have p0 : 0 ≤ X (k + 1) * (x k (o k) * W) := Int.mul_nonneg (by omega) (Int.mul_nonneg h5 (by omega))
  refine ⟨?_, fun hx => ?_⟩
  · by_cases hn : 0 ≤ z' * X k - z * X (k + 1)
    · omega
    · have : (z' * X k - z * X (k + 1)) * D < 0 := Int.mul_neg_of_neg_of_pos (by omega) hDp
      omega
  · have p1 : 0 < X (k + 1) * (x k (o k) * W) := Int.mul_pos h4 (Int.mul_pos hx h2)
    by_cases hn : 0 < z' * X k - z * X (k + 1)
    · omega
    · have : (z' * X k - z * X (k + 1)) * D ≤ 0 := Int.mul_nonpos_of_nonpos_of_nonneg (by omega) (by omega)
      omega

end Steps

theorem frac_trans (z1 X1 z2 X2 z3 X3 : Int) (h1 : 0 < X1) (h2 : 0 < X2) (h3 : 0 < X3) (ha : z1 * X2 ≤ z2 * X1) (hb : z2 * X3 ≤ z3 * X2) : z1 * X3 ≤ z3 * X1 ∧ (z1 * X2 < z2 * X1 ∨ z2 * X3 < z3 * X2 → z1 * X3 < z3 * X1) := by
  have e : (z3 * X1 - z1 * X3) * X2 = (z3 * X2 - z2 * X3) * X1 + (z2 * X1 - z1 * X2) * X3 := by grind
  have p1 : 0 ≤ (z3 * X2 - z2 * X3) * X1 := Int.mul_nonneg (by omega) (by omega)
  have p2 : 0 ≤ (z2 * X1 - z1 * X2) * X3 := Int.mul_nonneg (by omega) (by omega)
  refine ⟨?_, fun hs => ?_⟩
  · by_cases hn : 0 ≤ z3 * X1 - z1 * X3
    · omega
    · have : (z3 * X1 - z1 * X3) * X2 < 0 := Int.mul_neg_of_neg_of_pos (by omega) h2
      omega
  · have p3 : 0 < (z3 * X2 - z2 * X3) * X1 + (z2 * X1 - z1 * X2) * X3 := by
      rcases hs with hs | hs
      · have : 0 < (z2 * X1 - z1 * X2) * X3 := Int.mul_pos (by omega) h3
        omega
      · have : 0 < (z3 * X2 - z2 * X3) * X1 := Int.mul_pos (by omega) h1
        omega
    by_cases hn : 0 < z3 * X1 - z1 * X3
    · omega
    · have : (z3 * X1 - z1 * X3) * X2 ≤ 0 := Int.mul_nonpos_of_nonpos_of_nonneg (by omega) (by omega)
      omega

namespace Steps
variable {N m : Nat} {c : Nat → Int} {a : Nat → Nat → Int} {B : Nat → Nat → Bool} {x : Nat → Nat → Int} {X : Nat → Int} {g : Nat → Nat → Int} {G : Nat → Int} {y : Nat → Nat → Int} {d : Nat → Nat → Int} {s o : Nat → Nat} {K : Nat}

theorem chain (h : Steps N m c a B x X g G y d s o K) (k : Nat) : ∀ l, k ≤ l → l ≤ K → sumN (fun j => c j * x k j) N * X l ≤ sumN (fun j => c j * x l j) N * X k ∧ ((∃ q, k ≤ q ∧ q < l ∧ 0 < x q (o q)) → sumN (fun j => c j * x k j) N * X l < sumN (fun j => c j * x l j) N * X k) := by
  intro l
  induction l with
  | zero =>
    intro hkl _
    obtain rfl : k = 0 := by omega
    exact ⟨by omega, fun ⟨q, _, hq, _⟩ => by omega⟩
  | succ l ih =>
    intro hkl hlK
    by_cases he : k = l + 1
    · subst he; exact ⟨by omega, fun ⟨q, hq1, hq, _⟩ => by omega⟩
    · obtain ⟨i1, i2⟩ := ih (by omega) (by omega)
      obtain ⟨n1, n2⟩ := h.not_less l (by omega)
      obtain ⟨t1, t2⟩ := frac_trans _ _ _ _ _ _ (h.X0 k (by omega)) (h.X0 l (by omega)) (h.X0 (l + 1) hlK) i1 n1
      refine ⟨t1, fun ⟨q, hq1, hq2, hq3⟩ => t2 ?_⟩
      by_cases hql : q = l
      · subst hql; exact Or.inr (n2 hq3)
      · exact Or.inl (i2 ⟨q, hq1, by omega, hq3⟩)

theorem still (h : Steps N m c a B x X g G y d s o K) (p q : Nat) (hq : q ≤ K) (he : sumN (fun j => c j * x p j) N * X q = sumN (fun j => c j * x q j) N * X p) (k : Nat) (hk : p ≤ k) (hk2 : k < q) : x k (o k) = 0 := by
  have h1 := (h.chain p q (by omega) hq).2
  have h2 := h.xb k (o k) (by omega)
  by_cases h0 : x k (o k) = 0
  · exact h0
  · have := h1 ⟨k, hk, hk2, by omega⟩
    omega

theorem zero_step (h : Steps N m c a B x X g G y d s o K) (k j : Nat) (hk : k < K) (hj : j < N) (h0 : x k (o k) = 0) : x (k + 1) j = 0 ↔ x k j = 0 := by
  have h1 := h.xs k j hk hj
  have h2 := h.X0 k (by omega)
  have h3 := h.X0 (k + 1) hk
  have h4 := h.od k hk
  rw [h0] at h1
  have h5 : x (k + 1) j * (X k * (-(d k (o k)))) = x k j * (X (k + 1) * (-(d k (o k)))) := by grind
  have p1 : 0 < X k * (-(d k (o k))) := Int.mul_pos h2 (by omega)
  have p2 : 0 < X (k + 1) * (-(d k (o k))) := Int.mul_pos h3 (by omega)
  generalize X k * (-(d k (o k))) = P at *
  generalize X (k + 1) * (-(d k (o k))) = Q at *
  constructor
  · intro hz; rw [hz, Int.zero_mul] at h5; exact (Int.mul_eq_zero.1 h5.symm).resolve_right (by omega)
  · intro hz; rw [hz, Int.zero_mul] at h5; exact (Int.mul_eq_zero.1 h5).resolve_right (by omega)

theorem zero_all (h : Steps N m c a B x X g G y d s o K) (p q : Nat) (hq : q ≤ K) (hs : ∀ k, p ≤ k → k < q → x k (o k) = 0) (j : Nat) (hj : j < N) : ∀ k, p ≤ k → k ≤ q → (x k j = 0 ↔ x p j = 0) := by
  intro k
  induction k with
  | zero => intro h1 _; obtain rfl : p = 0 := (by omega); exact Iff.rfl
  | succ k ih =>
    intro h1 h2
    by_cases he : p = k + 1
    · subst he; exact Iff.rfl
    · rw [h.zero_step k j (by omega) hj (hs k (by omega) (by omega))]
      exact ih (by omega) (by omega)

theorem goes_out (h : Steps N m c a B x X g G y d s o K) (j k : Nat) (hB : B k j = true) : ∀ l, k ≤ l → l ≤ K → B l j = false → ∃ q, k ≤ q ∧ q < l ∧ o q = j := by
  intro l
  induction l with
  | zero => intro h1 _ h3; obtain rfl : k = 0 := (by omega); rw [hB] at h3; cases h3
  | succ l ih =>
    intro h1 h2 h3
    by_cases he : k = l + 1
    · subst he; rw [hB] at h3; cases h3
    · cases hl : B l j with
      | false => obtain ⟨q, q1, q2, q3⟩ := ih (by omega) (by omega) hl; exact ⟨q, q1, by omega, q3⟩
      | true =>
        rw [h.bs l j (by omega)] at h3
        by_cases hs : j = s l
        · rw [if_pos hs] at h3; cases h3
        · rw [if_neg hs] at h3
          by_cases ho : j = o l
          · exact ⟨l, by omega, by omega, ho.symm⟩
          · rw [if_neg ho, hl] at h3; cases h3

theorem goes_in (h : Steps N m c a B x X g G y d s o K) (j k : Nat) (hB : B k j = false) : ∀ l, k ≤ l → l ≤ K → B l j = true → ∃ q, k ≤ q ∧ q < l ∧ s q = j := by
  intro l
  induction l with
  | zero => intro h1 _ h3; obtain rfl : k = 0 := (by omega); rw [hB] at h3; cases h3
  | succ l ih =>
    intro h1 h2 h3
    by_cases he : k = l + 1
    · subst he; rw [hB] at h3; cases h3
    · cases hl : B l j with
      | true => obtain ⟨q, q1, q2, q3⟩ := ih (by omega) (by omega) hl; exact ⟨q, q1, by omega, q3⟩
      | false =>
        rw [h.bs l j (by omega)] at h3
        by_cases hs : j = s l
        · exact ⟨l, by omega, by omega, hs.symm⟩
        · rw [if_neg hs] at h3
          by_cases ho : j = o l
          · rw [if_pos ho] at h3; cases h3
          · rw [if_neg ho, hl] at h3; cases h3

/-- A column that is in at one time and out at another goes out at some time, if the ends are the same. -/
theorem fickle (h : Steps N m c a B x X g G y d s o K) (p q : Nat) (hq : q ≤ K) (he : ∀ j, B p j = B q j) (j k l : Nat) (hk : p ≤ k) (hk2 : k ≤ q) (hl : p ≤ l) (hl2 : l ≤ q) (h1 : B k j = true) (h2 : B l j = false) : ∃ r, p ≤ r ∧ r < q ∧ o r = j := by
  by_cases hkl : k ≤ l
  · obtain ⟨r, r1, r2, r3⟩ := h.goes_out j k h1 l hkl (by omega) h2
    exact ⟨r, by omega, by omega, r3⟩
  · cases hb : B q j with
    | false =>
      obtain ⟨r, r1, r2, r3⟩ := h.goes_out j k h1 q hk2 hq hb
      exact ⟨r, by omega, by omega, r3⟩
    | true =>
      obtain ⟨r, r1, r2, r3⟩ := h.goes_out j p (by rw [he j]; exact hb) l hl (by omega) h2
      exact ⟨r, by omega, by omega, r3⟩

theorem never_back (h : Steps N m c a B x X g G y d s o K) (p q : Nat) (hpq : p < q) (hq : q ≤ K) (he : ∀ j, B p j = B q j) (hx : ∀ j, j < N → x p j * X q = x q j * X p) : False := by
  have hz : sumN (fun j => c j * x p j) N * X q = sumN (fun j => c j * x q j) N * X p := by
    have e : sumN (fun j => X q * (c j * x p j)) N = sumN (fun j => X p * (c j * x q j)) N := by
      refine sumN_congr _ _ _ fun j hj => ?_
      have := hx j hj
      grind
    rw [sumN_mul, sumN_mul] at e
    grind
  have hs := h.still p q hq hz
  have hza := h.zero_all p q hq hs
  have hf0 : ∀ r, p ≤ r → r < q → ∀ k, p ≤ k → k ≤ q → x k (o r) = 0 := by
    intro r r1 r2 k k1 k2
    have hN := h.oN r (by omega)
    rw [hza (o r) hN k k1 k2, ← hza (o r) hN r r1 (by omega)]
    exact hs r r1 r2
  obtain ⟨k1, a1, a2, hmax⟩ := most_at o p q hpq
  have hso : o k1 ≠ s k1 := by
    intro e
    have := h.gb k1 (o k1) (by omega) (h.ob k1 (by omega))
    have := h.sg k1 (by omega)
    rw [← e] at this
    omega
  have hsB : ∀ k, k < K → B k (s k) = false := by
    intro k hk
    cases hb : B k (s k) with
    | false => rfl
    | true => have := h.gb k (s k) hk hb; have := h.sg k hk; omega
  have hafter : B (k1 + 1) (o k1) = false := by rw [h.bs k1 _ (by omega), if_neg hso, if_pos rfl]
  obtain ⟨k2, b1, b2, b3⟩ : ∃ k2, p ≤ k2 ∧ k2 < q ∧ s k2 = o k1 := by
    cases hb : B q (o k1) with
    | true =>
      obtain ⟨r, r1, r2, r3⟩ := h.goes_in (o k1) (k1 + 1) hafter q (by omega) hq hb
      exact ⟨r, by omega, r2, r3⟩
    | false =>
      obtain ⟨r, r1, r2, r3⟩ := h.goes_in (o k1) p (by rw [he]; exact hb) k1 a1 (by omega) (h.ob k1 (by omega))
      exact ⟨r, r1, by omega, r3⟩
  have hpos : 0 < sumN (fun j => g k2 j * d k1 j) N := by
    rw [h.cross k2 k1 (by omega) (by omega)]
    exact Int.mul_pos (h.G0 k2 (by omega)) (h.rise k1 (by omega))
  obtain ⟨j, hj, hgd⟩ := sumN_pos_some _ _ hpos
  have hg0 : g k2 j ≠ 0 := by intro e; rw [e] at hgd; omega
  have hd0 : d k1 j ≠ 0 := by intro e; rw [e] at hgd; omega
  have hB2 : B k2 j = false := by
    cases hb : B k2 j with
    | false => rfl
    | true => exact absurd (h.gb k2 j (by omega) hb) hg0
  by_cases hjs : j = s k1
  · subst hjs
    have hB1 : B (k1 + 1) (s k1) = true := by rw [h.bs k1 _ (by omega), if_pos rfl]
    obtain ⟨r, r1, r2, r3⟩ := h.fickle p q hq he (s k1) (k1 + 1) k1 (by omega) (by omega) a1 (by omega) hB1 (hsB k1 (by omega))
    have hle := hmax r r1 r2
    have hdp := h.ds k1 (by omega)
    by_cases hlt : s k1 < s k2
    · have hgn := h.sl k2 (s k1) (by omega) hlt
      have : g k2 (s k1) * d k1 (s k1) ≤ 0 := Int.mul_nonpos_of_nonpos_of_nonneg hgn (by omega)
      omega
    · omega
  · have hB1 : B k1 j = true := by
      cases hb : B k1 j with
      | true => rfl
      | false => exact absurd (h.db k1 j (by omega) hb hjs) hd0
    obtain ⟨r, r1, r2, r3⟩ := h.fickle p q hq he j k1 k2 a1 (by omega) b1 (by omega) hB1 hB2
    have hle := hmax r r1 r2
    rw [r3] at hle
    by_cases hjt : j = o k1
    · subst hjt
      have h1 := h.sg k2 (by omega)
      rw [b3] at h1
      have h2 := h.od k1 (by omega)
      have : g k2 (o k1) * d k1 (o k1) < 0 := Int.mul_neg_of_pos_of_neg h1 h2
      omega
    · have hgn := h.sl k2 j (by omega) (by omega)
      have hdn : d k1 j < 0 := by
        by_cases hn : d k1 j < 0
        · exact hn
        · have : g k2 j * d k1 j ≤ 0 := Int.mul_nonpos_of_nonpos_of_nonneg hgn (by omega)
          omega
      have hx0 : x k1 j = 0 := by rw [← r3]; exact hf0 r r1 r2 k1 a1 (by omega)
      have ho0 := hs k1 a1 a2
      have := h.ol k1 j (by omega) hB1 hdn (by rw [hx0, ho0]; omega)
      omega

end Steps
end Num
end Go.Proofs.YtloncgmgcnaalaaGreat

/- What the columns of a corner say of ways, in plain numbers: no way stays within them, and a line moved to another place turns the volume's sign at most. -/
namespace Go.Proofs.YtloncgmgcnaalaaGreat
namespace Num

theorem indep (n : Nat) (ls : List (List Int)) (h : Sq n ls) (h1 : 1 ≤ n) (h4 : n ≤ 4) (v : Nat → Int) (hv : ∀ i, i < n → sumN (fun l => v l * at2 ls l i) n = 0) (k : Nat) (hk : k < n) : vol ls none4 * v k = 0 := by
  have hl : ls.length = n := h.1
  have hT : Sq n (turnL ls) := by
    refine ⟨by unfold turnL; simp [hl], fun r hr => ?_⟩
    unfold turnL at hr
    simp only [List.mem_map] at hr
    obtain ⟨i, _, rfl⟩ := hr
    simp [hl]
  have e0 : ∀ i l, i < n → l < n → at2 (turnL ls) i l = at2 ls l i := by
    intro i l hi hll
    unfold turnL
    rw [at2_range, if_pos (by omega), range_getD, if_pos (by omega)]
  obtain ⟨e, he⟩ : ∃ e : List Int, e = (List.range n).map fun i => if i = k then (1 : Int) else 0 := ⟨_, rfl⟩
  have hel : e.length = n := by rw [he]; simp
  obtain ⟨u, hu⟩ : ∃ u, u = sharesL (turnL ls) e n := ⟨_, rfl⟩
  have hc : ∀ l, l < n → sumN (fun i => u[i]?.getD 0 * at2 ls l i) n = vol ls none4 * (if l = k then 1 else 0) := by
    intro l hl2
    have := cramer n (turnL ls) e hT hel h1 h4 l hl2
    rw [vol_turn n ls h h1 h4] at this
    unfold crm at this
    rw [dotN_sum, ← hu] at this
    have e1 : e[l]?.getD 0 = if l = k then 1 else 0 := by rw [he, range_getD, if_pos hl2]
    rw [e1] at this
    rw [← this]
    refine sumN_congr _ _ _ fun i hi => ?_
    rw [range_getD, if_pos hi, e0 i l hi hl2]
  have t1 : sumN (fun l => v l * sumN (fun i => u[i]?.getD 0 * at2 ls l i) n) n = vol ls none4 * v k := by
    rw [sumN_only _ k n hk fun l hl2 hne => by show v l * _ = 0; rw [hc l hl2, if_neg hne]; omega]
    show v k * _ = _
    rw [hc k hk, if_pos rfl]; grind
  have t2 : sumN (fun l => v l * sumN (fun i => u[i]?.getD 0 * at2 ls l i) n) n = sumN (fun i => u[i]?.getD 0 * sumN (fun l => v l * at2 ls l i) n) n := by
    have a1 : sumN (fun l => v l * sumN (fun i => u[i]?.getD 0 * at2 ls l i) n) n = sumN (fun l => sumN (fun i => u[i]?.getD 0 * (v l * at2 ls l i)) n) n := by
      refine sumN_congr _ _ _ fun l _ => ?_
      rw [← sumN_mul]
      exact sumN_congr _ _ _ fun i _ => by grind
    rw [a1, sumN_swap]
    exact sumN_congr _ _ _ fun i _ => by rw [sumN_mul]
  have t3 : sumN (fun i => u[i]?.getD 0 * sumN (fun l => v l * at2 ls l i) n) n = 0 := by
    have : sumN (fun i => u[i]?.getD 0 * sumN (fun l => v l * at2 ls l i) n) n = sumN (fun _ => 0) n := sumN_congr _ _ _ fun i hi => by rw [hv i hi]; omega
    rw [this, sumN_zero]
  rw [← t1, t2, t3]

/-- The line at k, moved to place k'. -/
def mvL (ls : List (List Int)) (k k' : Nat) : List (List Int) := (ls.eraseIdx k).insertIdx k' (ls[k]?.getD [])

def sgn (n : Nat) : Int := if n % 2 = 0 then 1 else -1

theorem mv1 (a : Int) (i i' : Nat) (hi : i < 1) (hi' : i' < 1) : vol (mvL [[a]] i i') none4 = sgn (i + i') * vol [[a]] none4 := by
  match i, i', hi, hi' with
  | 0, 0, _, _ => simp [mvL, sgn, vol, volSum, none4] <;> grind

theorem mv2 (a b c d : Int) (i i' : Nat) (hi : i < 2) (hi' : i' < 2) : vol (mvL [[a, b], [c, d]] i i') none4 = sgn (i + i') * vol [[a, b], [c, d]] none4 := by
  match i, i', hi, hi' with
  | 0, 0, _, _ => simp [mvL, sgn, vol, volSum, none4, mark] <;> grind
  | 0, 1, _, _ => simp [mvL, sgn, vol, volSum, none4, mark] <;> grind
  | 1, 0, _, _ => simp [mvL, sgn, vol, volSum, none4, mark] <;> grind
  | 1, 1, _, _ => simp [mvL, sgn, vol, volSum, none4, mark] <;> grind

theorem mv3 (a b c d e f g h j : Int) (i i' : Nat) (hi : i < 3) (hi' : i' < 3) : vol (mvL [[a, b, c], [d, e, f], [g, h, j]] i i') none4 = sgn (i + i') * vol [[a, b, c], [d, e, f], [g, h, j]] none4 := by
  match i, i', hi, hi' with
  | 0, 0, _, _ => simp [mvL, sgn, vol, volSum, none4, mark] <;> grind
  | 0, 1, _, _ => simp [mvL, sgn, vol, volSum, none4, mark] <;> grind
  | 0, 2, _, _ => simp [mvL, sgn, vol, volSum, none4, mark] <;> grind
  | 1, 0, _, _ => simp [mvL, sgn, vol, volSum, none4, mark] <;> grind
  | 1, 1, _, _ => simp [mvL, sgn, vol, volSum, none4, mark] <;> grind
  | 1, 2, _, _ => simp [mvL, sgn, vol, volSum, none4, mark] <;> grind
  | 2, 0, _, _ => simp [mvL, sgn, vol, volSum, none4, mark] <;> grind
  | 2, 1, _, _ => simp [mvL, sgn, vol, volSum, none4, mark] <;> grind
  | 2, 2, _, _ => simp [mvL, sgn, vol, volSum, none4, mark] <;> grind

set_option maxHeartbeats 8000000 in
theorem mv4 (a b c d e f g h j k l m n o p q : Int) (i i' : Nat) (hi : i < 4) (hi' : i' < 4) : vol (mvL [[a, b, c, d], [e, f, g, h], [j, k, l, m], [n, o, p, q]] i i') none4 = sgn (i + i') * vol [[a, b, c, d], [e, f, g, h], [j, k, l, m], [n, o, p, q]] none4 := by
  match i, i', hi, hi' with
  | 0, 0, _, _ => simp [mvL, sgn, vol, volSum, none4, mark] <;> grind
  | 0, 1, _, _ => simp [mvL, sgn, vol, volSum, none4, mark] <;> grind
  | 0, 2, _, _ => simp [mvL, sgn, vol, volSum, none4, mark] <;> grind
  | 0, 3, _, _ => simp [mvL, sgn, vol, volSum, none4, mark] <;> grind
  | 1, 0, _, _ => simp [mvL, sgn, vol, volSum, none4, mark] <;> grind
  | 1, 1, _, _ => simp [mvL, sgn, vol, volSum, none4, mark] <;> grind
  | 1, 2, _, _ => simp [mvL, sgn, vol, volSum, none4, mark] <;> grind
  | 1, 3, _, _ => simp [mvL, sgn, vol, volSum, none4, mark] <;> grind
  | 2, 0, _, _ => simp [mvL, sgn, vol, volSum, none4, mark] <;> grind
  | 2, 1, _, _ => simp [mvL, sgn, vol, volSum, none4, mark] <;> grind
  | 2, 2, _, _ => simp [mvL, sgn, vol, volSum, none4, mark] <;> grind
  | 2, 3, _, _ => simp [mvL, sgn, vol, volSum, none4, mark] <;> grind
  | 3, 0, _, _ => simp [mvL, sgn, vol, volSum, none4, mark] <;> grind
  | 3, 1, _, _ => simp [mvL, sgn, vol, volSum, none4, mark] <;> grind
  | 3, 2, _, _ => simp [mvL, sgn, vol, volSum, none4, mark] <;> grind
  | 3, 3, _, _ => simp [mvL, sgn, vol, volSum, none4, mark] <;> grind

theorem moved (n : Nat) (ls : List (List Int)) (h : Sq n ls) (h1 : 1 ≤ n) (h4 : n ≤ 4) (i i' : Nat) (hi : i < n) (hi' : i' < n) : vol (mvL ls i i') none4 = sgn (i + i') * vol ls none4 := by
  obtain ⟨hl, ha⟩ := h
  match n, h1, h4 with
  | 1, _, _ =>
    obtain ⟨x, rfl⟩ := len1 ls hl
    obtain ⟨a, rfl⟩ := len1 x (ha x (by simp))
    exact mv1 a i i' hi hi'
  | 2, _, _ =>
    obtain ⟨x, y, rfl⟩ := len2 ls hl
    obtain ⟨a, b, rfl⟩ := len2 x (ha x (by simp))
    obtain ⟨c, d, rfl⟩ := len2 y (ha y (by simp))
    exact mv2 _ _ _ _ i i' hi hi'
  | 3, _, _ =>
    obtain ⟨x, y, z, rfl⟩ := len3 ls hl
    obtain ⟨a, b, c, rfl⟩ := len3 x (ha x (by simp))
    obtain ⟨d, e, f, rfl⟩ := len3 y (ha y (by simp))
    obtain ⟨g, h, j, rfl⟩ := len3 z (ha z (by simp))
    exact mv3 _ _ _ _ _ _ _ _ _ i i' hi hi'
  | 4, _, _ =>
    obtain ⟨x, y, z, u, rfl⟩ := len4 ls hl
    obtain ⟨a, b, c, d, rfl⟩ := len4 x (ha x (by simp))
    obtain ⟨e, f, g, h, rfl⟩ := len4 y (ha y (by simp))
    obtain ⟨j, k, l, m, rfl⟩ := len4 z (ha z (by simp))
    obtain ⟨n', o, p, q, rfl⟩ := len4 u (ha u (by simp))
    exact mv4 _ _ _ _ _ _ _ _ _ _ _ _ _ _ _ _ i i' hi hi'

end Num
end Go.Proofs.YtloncgmgcnaalaaGreat

/- One column out, another in: what becomes of a corner, in plain numbers. -/
namespace Go.Proofs.YtloncgmgcnaalaaGreat
namespace Num

theorem spread_in (N : Nat) (at' s : List Int) (m : Nat) (hr : rightB at' m N = true) : ∀ k, k ≤ m → ∀ i, i < k → (spreadN N at' s k)[atF at' i]?.getD 0 = s[i]?.getD 0 := by
  intro k
  induction k with
  | zero => intro _ i hi; omega
  | succ k ih =>
    intro hk i hi
    unfold spreadN
    by_cases hik : i = k
    · subst hik
      rw [List.getElem?_set_self (by rw [spread_len]; exact atF_lt at' N m hr i (by omega)), Option.getD_some]
    · have := atF_rise at' N m hr k (by omega) i (by omega)
      rw [List.getElem?_set, if_neg (by omega)]
      exact ih (by omega) i (by omega)

/-- Is column j among those of at? -/
def inB (at' : List Int) (m j : Nat) : Bool := (List.range m).any fun i => atF at' i == j

theorem inB_true (at' : List Int) (m j : Nat) : inB at' m j = true ↔ ∃ i, i < m ∧ atF at' i = j := by
  unfold inB
  simp [List.any_eq_true, List.mem_range]

theorem inB_false (at' : List Int) (m j : Nat) : inB at' m j = false ↔ ∀ i, i < m → atF at' i ≠ j := by
  unfold inB
  simp [List.any_eq_false, List.mem_range]

theorem sum_on (f : Nat → Int) (N : Nat) (at' : List Int) (m : Nat) (hr : rightB at' m N = true) (h : ∀ j, j < N → inB at' m j = false → f j = 0) : sumN f N = sumN (fun l => f (atF at' l)) m := by
  have e := spread_sum f N at' ((List.range m).map fun _ => 1) m hr m (Nat.le_refl _)
  have e1 : sumN (fun j => f j * (spreadN N at' ((List.range m).map fun _ => 1) m)[j]?.getD 0) N = sumN f N := by
    refine sumN_congr _ _ _ fun j hj => ?_
    cases hb : inB at' m j with
    | false => rw [h j hj hb]; omega
    | true =>
      obtain ⟨i, hi, rfl⟩ := (inB_true at' m j).1 hb
      rw [spread_in N at' _ m hr m (Nat.le_refl _) i hi, range_getD, if_pos hi]; omega
  rw [← e1, e]
  refine sumN_congr _ _ _ fun i hi => ?_
  rw [range_getD, if_pos hi]; omega

def colF (p : Lp) (m j : Nat) : List Int := (List.range m).map (hasF p j)

theorem chosen_at (p : Lp) (at' : List Int) (m l i : Nat) (hl : l < m) (hi : i < m) : at2 (chosenL p at' m) l i = hasF p (atF at' l) i := by
  unfold chosenL
  rw [at2_range, if_pos hl, range_getD, if_pos hi]

theorem chosen_map (p : Lp) (at' : List Int) (m : Nat) (h : at'.length = m) : chosenL p at' m = at'.map fun z => colF p m z.toNat := by
  unfold chosenL
  apply List.ext_getElem
  · simp [h]
  · intro i h1 h2
    simp only [List.length_map, List.length_range] at h1
    simp only [List.getElem_map, List.getElem_range, colF, atF]
    rw [List.getElem?_eq_getElem (by omega)]
    rfl

/-- Nothing but nought stays within a corner's columns. -/
theorem within_none (p : Lp) (at' : List Int) (m N : Nat) (hr : rightB at' m N = true) (h1 : 1 ≤ m) (h4 : m ≤ 4) (hd : denL p at' m ≠ 0) (v : Nat → Int) (hv : ∀ j, j < N → inB at' m j = false → v j = 0) (ha : ∀ i, i < m → sumN (fun j => hasF p j i * v j) N = 0) (j : Nat) (hj : j < N) : v j = 0 := by
  cases hb : inB at' m j with
  | false => exact hv j hj hb
  | true =>
    obtain ⟨k, hk, rfl⟩ := (inB_true at' m j).1 hb
    have h0 := indep m (chosenL p at' m) (chosen_sq p at' m) h1 h4 (fun l => v (atF at' l)) (fun i hi => by
      have := ha i hi
      rw [sum_on (fun j => hasF p j i * v j) N at' m hr fun j hj hb => by show hasF p j i * v j = 0; rw [hv j hj hb]; omega] at this
      rw [← this]
      refine sumN_congr _ _ _ fun l hl => ?_
      rw [chosen_at p at' m l i hl hi]; grind) k hk
    exact (Int.mul_eq_zero.1 h0).resolve_left hd

/-- How the columns of a corner make another column up, as often as their volume says. -/
def wayL (p : Lp) (at' : List Int) (m s : Nat) : List Int := sharesL (chosenL p at' m) (colF p m s) m

/-- The way along which column s grows. -/
def dirF (p : Lp) (at' : List Int) (m N s j : Nat) : Int := if j = s then denL p at' m else -(spreadN N at' (wayL p at' m s) m)[j]?.getD 0

theorem dir_level (p : Lp) (at' : List Int) (m N s : Nat) (hr : rightB at' m N = true) (h1 : 1 ≤ m) (h4 : m ≤ 4) (hs : s < N) (hsb : inB at' m s = false) (i : Nat) (hi : i < m) : sumN (fun j => hasF p j i * dirF p at' m N s j) N = 0 := by
  have hc := cramer m (chosenL p at' m) (colF p m s) (chosen_sq p at' m) (by unfold colF; simp) h1 h4 i hi
  unfold crm at hc
  rw [dotN_sum] at hc
  have e1 : (colF p m s)[i]?.getD 0 = hasF p s i := by unfold colF; rw [range_getD, if_pos hi]
  rw [e1] at hc
  have hsp := spread_sum (fun j => hasF p j i) N at' (wayL p at' m s) m hr m (Nat.le_refl _)
  have e2 : sumN (fun l => hasF p (atF at' l) i * (wayL p at' m s)[l]?.getD 0) m = vol (chosenL p at' m) none4 * hasF p s i := by
    rw [← hc]
    refine sumN_congr _ _ _ fun l hl => ?_
    rw [range_getD, if_pos hl, chosen_at p at' m l i hl hi]
    unfold wayL; grind
  have h0 : (spreadN N at' (wayL p at' m s) m)[s]?.getD 0 = 0 := spread_not _ _ _ _ _ ((inB_false at' m s).1 hsb)
  have e3 : sumN (fun j => hasF p j i * dirF p at' m N s j) N = sumN (fun j => (-1) * (hasF p j i * (spreadN N at' (wayL p at' m s) m)[j]?.getD 0) + (if j = s then 1 else 0) * (hasF p j i * denL p at' m)) N := by
    refine sumN_congr _ _ _ fun j hj => ?_
    unfold dirF
    by_cases hjs : j = s
    · subst hjs; rw [if_pos rfl, if_pos rfl, h0]; grind
    · rw [if_neg hjs, if_neg hjs]; grind
  rw [e3, sumN_add, sumN_mul, hsp, e2, sum_one (fun j => hasF p j i * denL p at' m) s N hs]
  unfold denL; grind

/-- The column at place k out, column s in at place k'. -/
def swapI (at' : List Int) (k k' : Nat) (s : Nat) : List Int := (at'.eraseIdx k).insertIdx k' (s : Int)

theorem map_insertIdx {α β : Type} (f : α → β) (l : List α) (k : Nat) (a : α) : (l.insertIdx k a).map f = (l.map f).insertIdx k (f a) := by
  induction l generalizing k with
  | nil => cases k <;> simp
  | cons b l ih => cases k with
    | zero => simp
    | succ k => simp [ih]

theorem map_eraseIdx {α β : Type} (f : α → β) (l : List α) (k : Nat) : (l.eraseIdx k).map f = (l.map f).eraseIdx k := by
  induction l generalizing k with
  | nil => simp
  | cons b l ih => cases k with
    | zero => simp
    | succ k => simp [ih]

theorem eraseIdx_set {α : Type} (l : List α) (k : Nat) (a : α) : (l.set k a).eraseIdx k = l.eraseIdx k := by
  induction l generalizing k with
  | nil => simp
  | cons b l ih => cases k with
    | zero => simp
    | succ k => simp [ih]

theorem swap_len (at' : List Int) (k k' s m : Nat) (h : at'.length = m) (hk : k < m) (hk' : k' < m) : (swapI at' k k' s).length = m := by
  unfold swapI
  rw [List.length_insertIdx, List.length_eraseIdx]
  split <;> split <;> omega

theorem den_swap (p : Lp) (at' : List Int) (k k' s m : Nat) (h : at'.length = m) (h1 : 1 ≤ m) (h4 : m ≤ 4) (hk : k < m) (hk' : k' < m) : denL p (swapI at' k k' s) m = sgn (k + k') * (wayL p at' m s)[k]?.getD 0 := by
  have e : chosenL p (swapI at' k k' s) m = mvL ((chosenL p at' m).set k (colF p m s)) k k' := by
    rw [chosen_map p _ m (swap_len at' k k' s m h hk hk'), chosen_map p at' m h]
    unfold swapI mvL
    rw [map_insertIdx, map_eraseIdx, eraseIdx_set, List.getElem?_set_self (by simp; omega)]
    rfl
  have hq : Sq m ((chosenL p at' m).set k (colF p m s)) := by
    have hs := chosen_sq p at' m
    refine ⟨by rw [List.length_set]; exact hs.1, fun l hl => ?_⟩
    rcases List.mem_or_eq_of_mem_set hl with h | rfl
    · exact hs.2 l h
    · unfold colF; simp
  unfold denL
  rw [e, moved m _ hq h1 h4 k k' hk hk']
  unfold wayL sharesL
  rw [range_getD, if_pos hk]

end Num
end Go.Proofs.YtloncgmgcnaalaaGreat

/- What a corner's numbers become as one column goes out and another in, in plain numbers. -/
namespace Go.Proofs.YtloncgmgcnaalaaGreat
namespace Num

theorem x_level (p : Lp) (at' : List Int) (m N : Nat) (hr : rightB at' m N = true) (h1 : 1 ≤ m) (h4 : m ≤ 4) (i : Nat) (hi : i < m) : sumN (fun j => hasF p j i * (xL p at' m N)[j]?.getD 0) N = denL p at' m * mostF p i := by
  have hc := cramer m (chosenL p at' m) (mostsL p m) (chosen_sq p at' m) (by unfold mostsL; simp) h1 h4 i hi
  unfold crm at hc
  rw [dotN_sum] at hc
  have e1 : (mostsL p m)[i]?.getD 0 = mostF p i := by unfold mostsL; rw [range_getD, if_pos hi]
  rw [e1] at hc
  unfold xL
  rw [spread_sum (fun j => hasF p j i) N at' _ m hr m (Nat.le_refl _)]
  unfold denL
  rw [← hc]
  refine sumN_congr _ _ _ fun l hl => ?_
  rw [range_getD, if_pos hl, chosen_at p at' m l i hl hi]
  grind

theorem x_not (p : Lp) (at' : List Int) (m N j : Nat) (h : inB at' m j = false) : (xL p at' m N)[j]?.getD 0 = 0 := spread_not _ _ _ _ _ ((inB_false at' m j).1 h)

theorem dir_not (p : Lp) (at' : List Int) (m N s j : Nat) (h : inB at' m j = false) (hs : j ≠ s) : dirF p at' m N s j = 0 := by
  unfold dirF
  rw [if_neg hs, spread_not _ _ _ _ _ ((inB_false at' m j).1 h)]; rfl

theorem dir_in (p : Lp) (at' : List Int) (m N s k : Nat) (hr : rightB at' m N = true) (hk : k < m) (hs : inB at' m s = false) : dirF p at' m N s (atF at' k) = -(wayL p at' m s)[k]?.getD 0 := by
  unfold dirF
  rw [if_neg ((inB_false at' m s).1 hs k hk), spread_in N at' _ m hr m (Nat.le_refl _) k hk]

/-- The numbers of the next corner. -/
theorem exchange (p : Lp) (at' at2' : List Int) (m N s k : Nat) (hr : rightB at' m N = true) (hr2 : rightB at2' m N = true) (h1 : 1 ≤ m) (h4 : m ≤ 4) (hs : s < N) (hsb : inB at' m s = false) (hk : k < m)
    (hin : ∀ j, inB at2' m j = (if j = s then true else if j = atF at' k then false else inB at' m j)) (hd2 : denL p at2' m ≠ 0) (j : Nat) (hj : j < N) :
    (xL p at2' m N)[j]?.getD 0 * denL p at' m * (wayL p at' m s)[k]?.getD 0 = denL p at2' m * ((xL p at' m N)[j]?.getD 0 * (wayL p at' m s)[k]?.getD 0 + (xL p at' m N)[atF at' k]?.getD 0 * dirF p at' m N s j) := by
  have hdk := dir_in p at' m N s k hr hk hsb
  generalize hw : (wayL p at' m s)[k]?.getD 0 = w at *
  generalize hxo : (xL p at' m N)[atF at' k]?.getD 0 = xo at *
  have h0 := within_none p at2' m N hr2 h1 h4 hd2 (fun j => (xL p at2' m N)[j]?.getD 0 * denL p at' m * w - denL p at2' m * ((xL p at' m N)[j]?.getD 0 * w + xo * dirF p at' m N s j))
    (fun j hj hb => by
      show (xL p at2' m N)[j]?.getD 0 * denL p at' m * w - denL p at2' m * ((xL p at' m N)[j]?.getD 0 * w + xo * dirF p at' m N s j) = 0
      rw [x_not p at2' m N j hb]
      rw [hin j] at hb
      by_cases hjs : j = s
      · rw [if_pos hjs] at hb; cases hb
      · rw [if_neg hjs] at hb
        by_cases hjo : j = atF at' k
        · subst hjo; rw [hxo, hdk]; grind
        · rw [if_neg hjo] at hb
          rw [x_not p at' m N j hb, dir_not p at' m N s j hb hjs]; grind)
    (fun i hi => by
      have a1 := x_level p at' m N hr h1 h4 i hi
      have a2 := x_level p at2' m N hr2 h1 h4 i hi
      have a3 := dir_level p at' m N s hr h1 h4 hs hsb i hi
      have e : sumN (fun j => hasF p j i * ((xL p at2' m N)[j]?.getD 0 * denL p at' m * w - denL p at2' m * ((xL p at' m N)[j]?.getD 0 * w + xo * dirF p at' m N s j))) N
          = sumN (fun j => (denL p at' m * w) * (hasF p j i * (xL p at2' m N)[j]?.getD 0) + ((-(denL p at2' m * w)) * (hasF p j i * (xL p at' m N)[j]?.getD 0) + (-(denL p at2' m * xo)) * (hasF p j i * dirF p at' m N s j))) N :=
        sumN_congr _ _ _ fun j _ => by grind
      rw [e, sumN_add, sumN_add, sumN_mul, sumN_mul, sumN_mul, a1, a2, a3]
      grind) j hj
  have h0' : (xL p at2' m N)[j]?.getD 0 * denL p at' m * w - denL p at2' m * ((xL p at' m N)[j]?.getD 0 * w + xo * dirF p at' m N s j) = 0 := h0
  omega

end Num
end Go.Proofs.YtloncgmgcnaalaaGreat

/- A walk from corner to corner never comes back to the same columns, and its worth never falls: in plain numbers. -/
namespace Go.Proofs.YtloncgmgcnaalaaGreat
namespace Num

/-- The sign of a corner's volume. -/
def sgD (p : Lp) (at' : List Int) (m : Nat) : Int := if denL p at' m < 0 then -1 else 1

theorem sgD_sq (p : Lp) (at' : List Int) (m : Nat) : sgD p at' m * sgD p at' m = 1 := by unfold sgD; split <;> rfl

theorem sgD_pos (p : Lp) (at' : List Int) (m : Nat) (h : denL p at' m ≠ 0) : 0 < sgD p at' m * denL p at' m := by unfold sgD; split <;> omega

/-- From at' one goes on to at2': column s in, the column at place k out. -/
structure NextOk (p : Lp) (at' at2' : List Int) (m N s k : Nat) : Prop where
  right : rightB at' m N = true
  right2 : rightB at2' m N = true
  den : denL p at' m ≠ 0
  den2 : denL p at2' m ≠ 0
  sN : s < N
  sg : 0 < sgD p at' m * (gainL p at' m N)[s]?.getD 0
  sl : ∀ j, j < s → sgD p at' m * (gainL p at' m N)[j]?.getD 0 ≤ 0
  km : k < m
  falls : 0 < sgD p at' m * (wayL p at' m s)[k]?.getD 0
  least : ∀ l, l < m → 0 < sgD p at' m * (wayL p at' m s)[l]?.getD 0 → (xL p at' m N)[atF at' k]?.getD 0 * (wayL p at' m s)[l]?.getD 0 = (xL p at' m N)[atF at' l]?.getD 0 * (wayL p at' m s)[k]?.getD 0 → k ≤ l
  inn : ∀ j, inB at2' m j = (if j = s then true else if j = atF at' k then false else inB at' m j)

theorem NextOk.out {p : Lp} {at' at2' : List Int} {m n s k : Nat} (h : NextOk p at' at2' m (n + m) s k) (hmay : p.may = true) (hm : m = p.rows.length) : inB at' m s = false := by
  cases hb : inB at' m s with
  | false => rfl
  | true =>
    obtain ⟨i, hi, hs⟩ := (inB_true at' m s).1 hb
    have := comes_gain p at' m n hmay hm h.right i hi
    have h2 := h.sg
    rw [← hs, this] at h2
    omega

theorem steps_of (p : Lp) (m n : Nat) (hmay : p.may = true) (hm : m = p.rows.length) (ats : Nat → List Int) (ss ks : Nat → Nat) (K : Nat) (hx : ∀ q j : Nat, q ≤ K → 0 ≤ sgD p (ats q) m * (xL p (ats q) m (n + m))[j]?.getD 0) (hd : ∀ q, q ≤ K → denL p (ats q) m ≠ 0)
    (h : ∀ q, q < K → NextOk p (ats q) (ats (q + 1)) m (n + m) (ss q) (ks q)) :
    Steps (n + m) m (fun j => p.costs[j]?.getD 0) (fun i j => hasF p j i) (fun q j => inB (ats q) m j) (fun q j => sgD p (ats q) m * (xL p (ats q) m (n + m))[j]?.getD 0) (fun q => sgD p (ats q) m * denL p (ats q) m)
      (fun q j => sgD p (ats q) m * (gainL p (ats q) m (n + m))[j]?.getD 0) (fun q => sgD p (ats q) m * denL p (ats q) m) (fun q i => sgD p (ats q) m * (priceL p (ats q) m)[i]?.getD 0)
      (fun q j => sgD p (ats q) m * dirF p (ats q) m (n + m) (ss q) j) ss (fun q => atF (ats q) (ks q)) K := by
  have h1 : 1 ≤ m := by have := (p.may_of hmay).2.2.1.1; omega
  have h4 : m ≤ 4 := by have := (p.may_of hmay).2.2.1.2; omega
  have hso : ∀ q, q < K → inB (ats q) m (ss q) = false := fun q hq => (h q hq).out hmay hm
  have hdo : ∀ q, q < K → dirF p (ats q) m (n + m) (ss q) (atF (ats q) (ks q)) = -(wayL p (ats q) m (ss q))[ks q]?.getD 0 := fun q hq => dir_in p (ats q) m (n + m) (ss q) (ks q) (h q hq).right (h q hq).km (hso q hq)
  refine ⟨fun q hq => sgD_pos p _ m (hd q hq), fun q hq => sgD_pos p _ m (hd q (by omega)), fun q j hq => hx q j hq, ?_, ?_, ?_, ?_, ?_, fun q hq => (h q hq).sN, fun q hq => (h q hq).sg, fun q j hq hj => (h q hq).sl j hj, fun q hq => atF_lt _ _ m (h q hq).right _ (h q hq).km, fun q hq => (inB_true _ _ _).2 ⟨_, (h q hq).km, rfl⟩, ?_, ?_, fun q j hq => (h q hq).inn j, ?_⟩
  · intro q j hq hb
    obtain ⟨i, hi, rfl⟩ := (inB_true _ _ _).1 hb
    show sgD p (ats q) m * _ = 0
    rw [comes_gain p (ats q) m n hmay hm (h q hq).right i hi]; omega
  · intro q j hq hj
    show sgD p (ats q) m * _ = _
    unfold gainL
    rw [range_getD, if_pos hj]
    unfold gainF
    rw [← hm, dotN_sum]
    have e : sumN (fun i => sgD p (ats q) m * (priceL p (ats q) m)[i]?.getD 0 * hasF p j i) m = sgD p (ats q) m * sumN (fun i => ((List.range m).map (hasF p j))[i]?.getD 0 * (priceL p (ats q) m)[i]?.getD 0) m := by
      rw [← sumN_mul]
      refine sumN_congr _ _ _ fun i hi => ?_
      rw [range_getD, if_pos hi]; grind
    rw [e]; grind
  · intro q i hq hi
    have e : sumN (fun j => hasF p j i * (sgD p (ats q) m * dirF p (ats q) m (n + m) (ss q) j)) (n + m) = sgD p (ats q) m * sumN (fun j => hasF p j i * dirF p (ats q) m (n + m) (ss q) j) (n + m) := by
      rw [← sumN_mul]; exact sumN_congr _ _ _ fun j _ => by grind
    show sumN (fun j => hasF p j i * (sgD p (ats q) m * dirF p (ats q) m (n + m) (ss q) j)) (n + m) = 0
    rw [e, dir_level p (ats q) m (n + m) (ss q) (h q hq).right h1 h4 (h q hq).sN (hso q hq) i hi]; omega
  · intro q j hq hb hne
    show sgD p (ats q) m * _ = 0
    rw [dir_not p (ats q) m (n + m) (ss q) j hb hne]; omega
  · intro q hq
    show 0 < sgD p (ats q) m * dirF p (ats q) m (n + m) (ss q) (ss q)
    unfold dirF
    rw [if_pos rfl]
    exact sgD_pos p _ m (hd q (by omega))
  · intro q hq
    show sgD p (ats q) m * dirF p (ats q) m (n + m) (ss q) (atF (ats q) (ks q)) < 0
    rw [hdo q hq]
    have := (h q hq).falls
    rw [Int.mul_neg]; omega
  · intro q j hq hb hdn he
    obtain ⟨l, hl, rfl⟩ := (inB_true _ _ _).1 hb
    have hdl := dir_in p (ats q) m (n + m) (ss q) l (h q hq).right hl (hso q hq)
    rw [hdl] at hdn he
    rw [hdo q hq] at he
    rw [Int.mul_neg] at hdn
    have hsq := sgD_sq p (ats q) m
    have e2 : (xL p (ats q) m (n + m))[atF (ats q) (ks q)]?.getD 0 * (wayL p (ats q) m (ss q))[l]?.getD 0 = (xL p (ats q) m (n + m))[atF (ats q) l]?.getD 0 * (wayL p (ats q) m (ss q))[ks q]?.getD 0 := by
      generalize (xL p (ats q) m (n + m))[atF (ats q) (ks q)]?.getD 0 = x1 at *
      generalize (wayL p (ats q) m (ss q))[l]?.getD 0 = w1 at *
      generalize (xL p (ats q) m (n + m))[atF (ats q) l]?.getD 0 = x2 at *
      generalize (wayL p (ats q) m (ss q))[ks q]?.getD 0 = w2 at *
      generalize sgD p (ats q) m = g at *
      have a1 : (g * g) * (x1 * w1) = (g * g) * (x2 * w2) := by grind
      rw [hsq] at a1
      omega
    have hkl := (h q hq).least l hl (by omega) e2
    show atF (ats q) (ks q) ≤ atF (ats q) l
    by_cases hkl2 : ks q = l
    · rw [hkl2]; exact Nat.le_refl _
    · have := atF_rise (ats q) _ m (h q hq).right l hl (ks q) (by omega); omega
  · intro q j hq hj
    have he := exchange p (ats q) (ats (q + 1)) m (n + m) (ss q) (ks q) (h q hq).right (h q hq).right2 h1 h4 (h q hq).sN (hso q hq) (h q hq).km (h q hq).inn (h q hq).den2 j hj
    rw [hdo q hq]
    have hsq := sgD_sq p (ats q) m
    generalize (xL p (ats (q + 1)) m (n + m))[j]?.getD 0 = y1 at *
    generalize (xL p (ats q) m (n + m))[j]?.getD 0 = y2 at *
    generalize (xL p (ats q) m (n + m))[atF (ats q) (ks q)]?.getD 0 = y3 at *
    generalize (wayL p (ats q) m (ss q))[ks q]?.getD 0 = w at *
    generalize dirF p (ats q) m (n + m) (ss q) j = dd at *
    generalize denL p (ats q) m = D at *
    generalize denL p (ats (q + 1)) m = D2 at *
    generalize sgD p (ats q) m = g at *
    generalize sgD p (ats (q + 1)) m = g2 at *
    have a1 : g2 * y1 * (g * D) * (-(g * -w)) = g2 * (g * g) * (y1 * D * w) := by grind
    have a2 : g2 * D2 * (g * y2 * (-(g * -w)) + g * y3 * (g * dd)) = g2 * (g * g) * (D2 * (y2 * w + y3 * dd)) := by grind
    rw [a1, a2, he]

/-- No columns come twice. -/
theorem walk_new (p : Lp) (m n : Nat) (hmay : p.may = true) (hm : m = p.rows.length) (ats : Nat → List Int) (ss ks : Nat → Nat) (K : Nat) (hx : ∀ q j : Nat, q ≤ K → 0 ≤ sgD p (ats q) m * (xL p (ats q) m (n + m))[j]?.getD 0) (hd : ∀ q, q ≤ K → denL p (ats q) m ≠ 0)
    (h : ∀ q, q < K → NextOk p (ats q) (ats (q + 1)) m (n + m) (ss q) (ks q)) (a b : Nat) (hab : a < b) (hb : b ≤ K) : ats a ≠ ats b := by
  intro e
  exact (steps_of p m n hmay hm ats ss ks K hx hd h).never_back a b hab hb (fun j => by show inB (ats a) m j = inB (ats b) m j; rw [e]) (fun j _ => by show sgD p (ats a) m * _ * _ = sgD p (ats b) m * _ * _; rw [e])

/-- The worth never falls. -/
theorem walk_worth (p : Lp) (m n : Nat) (hmay : p.may = true) (hm : m = p.rows.length) (ats : Nat → List Int) (ss ks : Nat → Nat) (K : Nat) (hx : ∀ q j : Nat, q ≤ K → 0 ≤ sgD p (ats q) m * (xL p (ats q) m (n + m))[j]?.getD 0) (hd : ∀ q, q ≤ K → denL p (ats q) m ≠ 0)
    (h : ∀ q, q < K → NextOk p (ats q) (ats (q + 1)) m (n + m) (ss q) (ks q)) (q : Nat) (hq : q < K) :
    sumN (fun j => p.costs[j]?.getD 0 * (sgD p (ats q) m * (xL p (ats q) m (n + m))[j]?.getD 0)) (n + m) * (sgD p (ats (q + 1)) m * denL p (ats (q + 1)) m) ≤ sumN (fun j => p.costs[j]?.getD 0 * (sgD p (ats (q + 1)) m * (xL p (ats (q + 1)) m (n + m))[j]?.getD 0)) (n + m) * (sgD p (ats q) m * denL p (ats q) m) :=
  ((steps_of p m n hmay hm ats ss ks K hx hd h).not_less q hq).1

end Num
end Go.Proofs.YtloncgmgcnaalaaGreat

/- A walk stays among the corners that go, and ends: in plain numbers. -/
namespace Go.Proofs.YtloncgmgcnaalaaGreat
namespace Num

/-- The next corner goes too, if the column that goes out is among the nearest. -/
theorem next_above (p : Lp) (at' at2' : List Int) (m n s k : Nat) (hmay : p.may = true) (hm : m = p.rows.length) (h : NextOk p at' at2' m (n + m) s k) (hx : ∀ j : Nat, 0 ≤ sgD p at' m * (xL p at' m (n + m))[j]?.getD 0)
    (hn : ∀ l, l < m → 0 < sgD p at' m * (wayL p at' m s)[l]?.getD 0 → (sgD p at' m * (xL p at' m (n + m))[atF at' k]?.getD 0) * (sgD p at' m * (wayL p at' m s)[l]?.getD 0) ≤ (sgD p at' m * (xL p at' m (n + m))[atF at' l]?.getD 0) * (sgD p at' m * (wayL p at' m s)[k]?.getD 0)) :
    ∀ j : Nat, 0 ≤ sgD p at2' m * (xL p at2' m (n + m))[j]?.getD 0 := by
  intro j
  have h1 : 1 ≤ m := by have := (p.may_of hmay).2.2.1.1; omega
  have h4 : m ≤ 4 := by have := (p.may_of hmay).2.2.1.2; omega
  have hsb := h.out hmay hm
  by_cases hj : j < n + m
  · have he := exchange p at' at2' m (n + m) s k h.right h.right2 h1 h4 h.sN hsb h.km h.inn h.den2 j hj
    have hsq := sgD_sq p at' m
    have hD := sgD_pos p at' m h.den
    have hD2 := sgD_pos p at2' m h.den2
    have hw := h.falls
    have hxj := hx j
    have hxo := hx (atF at' k)
    have hR : 0 ≤ (sgD p at' m * (xL p at' m (n + m))[j]?.getD 0) * (sgD p at' m * (wayL p at' m s)[k]?.getD 0) + (sgD p at' m * (xL p at' m (n + m))[atF at' k]?.getD 0) * (sgD p at' m * dirF p at' m (n + m) s j) := by
      cases hb : inB at' m j with
      | false =>
        by_cases hjs : j = s
        · subst hjs
          have : dirF p at' m (n + m) j j = denL p at' m := by unfold dirF; rw [if_pos rfl]
          rw [this]
          have a1 := Int.mul_nonneg hxj (Int.le_of_lt hw)
          have a2 := Int.mul_nonneg hxo (Int.le_of_lt hD)
          omega
        · rw [dir_not p at' m (n + m) s j hb hjs, Int.mul_zero, Int.mul_zero, Int.add_zero]
          exact Int.mul_nonneg hxj (Int.le_of_lt hw)
      | true =>
        obtain ⟨l, hl, rfl⟩ := (inB_true at' m j).1 hb
        rw [dir_in p at' m (n + m) s l h.right hl hsb, Int.mul_neg, Int.mul_neg]
        by_cases hwl : 0 < sgD p at' m * (wayL p at' m s)[l]?.getD 0
        · have := hn l hl hwl
          omega
        · have a1 := Int.mul_nonneg hxj (Int.le_of_lt hw)
          have a2 := Int.mul_nonpos_of_nonneg_of_nonpos hxo (Int.not_lt.1 hwl)
          omega
    generalize (xL p at2' m (n + m))[j]?.getD 0 = y1 at *
    generalize (xL p at' m (n + m))[j]?.getD 0 = y2 at *
    generalize (xL p at' m (n + m))[atF at' k]?.getD 0 = y3 at he hR
    generalize (wayL p at' m s)[k]?.getD 0 = w at he hR hw
    generalize dirF p at' m (n + m) s j = dd at *
    generalize denL p at' m = D at *
    generalize denL p at2' m = D2 at *
    generalize sgD p at' m = g at *
    generalize sgD p at2' m = g2 at *
    have e : (g2 * y1) * ((g * D) * (g * w)) = (g2 * D2) * ((g * y2) * (g * w) + (g * y3) * (g * dd)) := by
      have a1 : (g2 * y1) * ((g * D) * (g * w)) = g2 * (g * g) * (y1 * D * w) := by grind
      have a2 : (g2 * D2) * ((g * y2) * (g * w) + (g * y3) * (g * dd)) = g2 * (g * g) * (D2 * (y2 * w + y3 * dd)) := by grind
      rw [a1, a2, he]
    have q1 := Int.mul_pos hD hw
    have q2 := Int.mul_nonneg (Int.le_of_lt hD2) hR
    by_cases hneg : 0 ≤ g2 * y1
    · exact hneg
    · have := Int.mul_neg_of_neg_of_pos (Int.not_le.1 hneg) q1
      omega
  · rw [List.getElem?_eq_none (by unfold xL; rw [spread_len]; omega)]
    show 0 ≤ sgD p at2' m * 0
    omega

theorem pigeon (n : Nat) : ∀ f : Nat → Nat, (∀ i, i ≤ n → f i < n) → ∃ i j, i < j ∧ j ≤ n ∧ f i = f j := by
  induction n with
  | zero => intro f h; have := h 0 (Nat.le_refl _); omega
  | succ n ih =>
    intro f h
    by_cases hex : ∃ i, i ≤ n ∧ f i = f (n + 1)
    · obtain ⟨i, hi, he⟩ := hex
      exact ⟨i, n + 1, by omega, by omega, he⟩
    · have hne : ∀ i, i ≤ n → f i ≠ f (n + 1) := fun i hi he => hex ⟨i, hi, he⟩
      have hl := h (n + 1) (Nat.le_refl _)
      obtain ⟨i, j, hij, hj, he⟩ := ih (fun i => if f i = n then f (n + 1) else f i) (fun i hi => by
        have a1 := h i (by omega)
        have a2 := hne i hi
        show (if f i = n then f (n + 1) else f i) < n
        split <;> omega)
      refine ⟨i, j, hij, by omega, ?_⟩
      have a1 := hne i (by omega)
      have a2 := hne j hj
      have he' : (if f i = n then f (n + 1) else f i) = (if f j = n then f (n + 1) else f j) := he
      split at he' <;> split at he' <;> omega

/-- The columns as one number. -/
def codeN (at' : List Int) : Nat := atF at' 0 + 8 * atF at' 1 + 64 * atF at' 2 + 512 * atF at' 3

theorem atF_over (at' : List Int) (i : Nat) (h : at'.length ≤ i) : atF at' i = 0 := by
  unfold atF
  rw [List.getElem?_eq_none h]; rfl

theorem atF_8 (at' : List Int) (m N : Nat) (hr : rightB at' m N = true) (h8 : N ≤ 8) (i : Nat) : atF at' i < 8 := by
  by_cases hi : i < m
  · have := atF_lt at' N m hr i hi; omega
  · have hl := (right_all at' m N hr).1
    rw [atF_over at' i (by omega)]; omega

theorem code_lt (at' : List Int) (m N : Nat) (hr : rightB at' m N = true) (h8 : N ≤ 8) : codeN at' < 4096 := by
  have a0 := atF_8 at' m N hr h8 0
  have a1 := atF_8 at' m N hr h8 1
  have a2 := atF_8 at' m N hr h8 2
  have a3 := atF_8 at' m N hr h8 3
  unfold codeN; omega

theorem code_one (at' at2' : List Int) (m N : Nat) (hr : rightB at' m N = true) (hr2 : rightB at2' m N = true) (h4 : m ≤ 4) (h8 : N ≤ 8) (he : codeN at' = codeN at2') : at' = at2' := by
  have a0 := atF_8 at' m N hr h8 0
  have a1 := atF_8 at' m N hr h8 1
  have a2 := atF_8 at' m N hr h8 2
  have b0 := atF_8 at2' m N hr2 h8 0
  have b1 := atF_8 at2' m N hr2 h8 1
  have b2 := atF_8 at2' m N hr2 h8 2
  unfold codeN at he
  have hall : ∀ i, i < m → atF at' i = atF at2' i := by
    intro i hi
    match i, (show i < 4 by omega) with
    | 0, _ => omega
    | 1, _ => omega
    | 2, _ => omega
    | 3, _ => omega
  obtain ⟨l1, c1⟩ := right_all at' m N hr
  obtain ⟨l2, c2⟩ := right_all at2' m N hr2
  apply List.ext_getElem (by omega)
  intro i g1 g2
  have e := hall i (by omega)
  have d1 := c1 i (by omega)
  have d2 := c2 i (by omega)
  unfold atF at e
  rw [List.getElem?_eq_getElem g1] at e d1
  rw [List.getElem?_eq_getElem g2] at e d2
  simp only [Option.getD_some] at e d1 d2
  omega

/-- A walk has fewer than 4096 steps. -/
theorem walk_ends (p : Lp) (m n : Nat) (hmay : p.may = true) (hm : m = p.rows.length) (h8 : n + m ≤ 8) (ats : Nat → List Int) (ss ks : Nat → Nat) (K : Nat) (hx : ∀ q j : Nat, q ≤ K → 0 ≤ sgD p (ats q) m * (xL p (ats q) m (n + m))[j]?.getD 0) (hd : ∀ q, q ≤ K → denL p (ats q) m ≠ 0) (hr : ∀ q, q ≤ K → rightB (ats q) m (n + m) = true)
    (h : ∀ q, q < K → NextOk p (ats q) (ats (q + 1)) m (n + m) (ss q) (ks q)) : K < 4096 := by
  have h4 : m ≤ 4 := by have := (p.may_of hmay).2.2.1.2; omega
  by_cases hK : K < 4096
  · exact hK
  · obtain ⟨i, j, hij, hj, he⟩ := pigeon 4096 (fun q => codeN (ats q)) fun i hi => code_lt _ m _ (hr i (by omega)) h8
    exact absurd (code_one _ _ m _ (hr i (by omega)) (hr j (by omega)) h4 h8 he) (walk_new p m n hmay hm ats ss ks K hx hd h i j hij (by omega))

end Num
end Go.Proofs.YtloncgmgcnaalaaGreat

/- Columns with one out and another in, rising: in plain numbers. -/
namespace Go.Proofs.YtloncgmgcnaalaaGreat
namespace Num

theorem right_of (at' : List Int) (m N : Nat) (hl : at'.length = m) (h : ∀ k, k < m → leastN at' k ≤ at'[k]?.getD 0 ∧ at'[k]?.getD 0 < N) : rightB at' m N = true := by
  have : ∀ k, k ≤ m → okN at' N k = true := by
    intro k
    induction k with
    | zero => intro _; rfl
    | succ k ih =>
      intro hk
      rw [okN_succ, ih (by omega)]
      have := h k (by omega)
      simp [this.1, this.2]
  unfold rightB
  rw [this m (Nat.le_refl _)]
  simp [hl]

/-- The place among rising numbers. -/
theorem place_of (e : Nat → Nat) (s : Nat) : ∀ n, (∀ i j, i < j → j < n → e i < e j) → (∀ i, i < n → e i ≠ s) → ∃ k', k' ≤ n ∧ (∀ i, i < k' → e i < s) ∧ (∀ i, k' ≤ i → i < n → s < e i) := by
  intro n
  induction n with
  | zero => intro _ _; exact ⟨0, Nat.le_refl _, fun i hi => by omega, fun i _ hi => by omega⟩
  | succ n ih =>
    intro hr hne
    obtain ⟨k', h1, h2, h3⟩ := ih (fun i j hij hj => hr i j hij (by omega)) (fun i hi => hne i (by omega))
    have hn := hne n (by omega)
    by_cases hk : k' = n
    · by_cases hs : e n < s
      · refine ⟨n + 1, Nat.le_refl _, fun i hi => ?_, fun i hi hi2 => by omega⟩
        by_cases hin : i = n
        · subst hin; exact hs
        · exact h2 i (by omega)
      · refine ⟨n, by omega, fun i hi => h2 i (by omega), fun i hi hi2 => ?_⟩
        have : i = n := by omega
        subst this; omega
    · refine ⟨k', by omega, h2, fun i hi hi2 => ?_⟩
      by_cases hin : i = n
      · subst hin
        have a1 := h3 k' (Nat.le_refl _) (by omega)
        have a2 := hr k' i (by omega) (by omega)
        omega
      · exact h3 i hi (by omega)

/-- The columns but the one at place k. -/
def restF (at' : List Int) (k i : Nat) : Nat := atF at' (if i < k then i else i + 1)

theorem swap_at (at' : List Int) (k k' s m : Nat) (h : at'.length = m) (hk : k < m) (hk' : k' < m) (i : Nat) (hi : i < m) : atF (swapI at' k k' s) i = if i < k' then restF at' k i else if i = k' then s else restF at' k (i - 1) := by
  unfold atF swapI restF atF
  have hle : k' ≤ (at'.eraseIdx k).length := by rw [List.length_eraseIdx]; split <;> omega
  rw [List.getElem?_insertIdx]
  by_cases h1 : i < k'
  · rw [if_pos h1, if_pos h1, List.getElem?_eraseIdx]
    split <;> rfl
  · rw [if_neg h1, if_neg h1]
    by_cases h2 : i = k'
    · subst h2; rw [if_pos rfl, if_pos rfl, if_pos hle]; rfl
    · rw [if_neg h2, if_neg h2, List.getElem?_eraseIdx]
      split <;> rfl

theorem swap_val (at' : List Int) (k k' s m N : Nat) (hr : rightB at' m N = true) (hk : k < m) (hk' : k' < m) (i : Nat) (hi : i < m) : (swapI at' k k' s)[i]?.getD 0 = (atF (swapI at' k k' s) i : Int) := by
  obtain ⟨hl, hv⟩ := right_all at' m N hr
  have hlen := swap_len at' k k' s m hl hk hk'
  have hnn : 0 ≤ (swapI at' k k' s)[i]?.getD 0 := by
    have hmem : ∀ z ∈ swapI at' k k' s, 0 ≤ z := by
      intro z hz
      unfold swapI at hz
      rcases (List.mem_insertIdx (by rw [List.length_eraseIdx]; split <;> omega)).1 hz with rfl | hz
      · omega
      · have hz' := List.mem_of_mem_eraseIdx hz
        obtain ⟨q, hq, rfl⟩ := List.mem_iff_getElem.1 hz'
        have := (hv q (by omega)).1
        rw [List.getElem?_eq_getElem hq] at this
        exact this
    rw [List.getElem?_eq_getElem (by omega)]
    exact hmem _ (List.getElem_mem _)
  unfold atF
  omega

theorem rest_rise (at' : List Int) (k m N : Nat) (hr : rightB at' m N = true) (i j : Nat) (hij : i < j) (hj : j + 1 < m) : restF at' k i < restF at' k j := by
  unfold restF
  refine atF_rise at' N m hr _ ?_ _ ?_
  · split <;> omega
  · split <;> split <;> omega

theorem swap_right (at' : List Int) (k k' s m N : Nat) (hr : rightB at' m N = true) (hk : k < m) (hk' : k' < m) (hs : s < N) (h2 : ∀ i, i < k' → restF at' k i < s) (h3 : ∀ i, k' ≤ i → i + 1 < m → s < restF at' k i) : rightB (swapI at' k k' s) m N = true := by
  obtain ⟨hl, hv⟩ := right_all at' m N hr
  have hv2 := swap_val at' k k' s m N hr hk hk'
  have hat := swap_at at' k k' s m hl hk hk'
  have hrN : ∀ i, i + 1 < m → restF at' k i < N := by
    intro i hi
    unfold restF
    exact atF_lt at' N m hr _ (by split <;> omega)
  have hN : ∀ i, i < m → atF (swapI at' k k' s) i < N := by
    intro i hi
    rw [hat i hi]
    by_cases a1 : i < k'
    · rw [if_pos a1]; exact hrN i (by omega)
    · rw [if_neg a1]
      by_cases a2 : i = k'
      · rw [if_pos a2]; exact hs
      · rw [if_neg a2]; exact hrN (i - 1) (by omega)
  have hri : ∀ i, i + 1 < m → atF (swapI at' k k' s) i < atF (swapI at' k k' s) (i + 1) := by
    intro i hi
    rw [hat i (by omega), hat (i + 1) hi]
    by_cases a1 : i + 1 < k'
    · rw [if_pos (by omega), if_pos a1]
      exact rest_rise at' k m N hr i (i + 1) (by omega) (by omega)
    · by_cases a2 : i + 1 = k'
      · rw [if_pos (by omega), if_neg a1, if_pos a2]
        exact h2 i (by omega)
      · by_cases a3 : i = k'
        · rw [if_neg (by omega), if_pos a3, if_neg a1, if_neg a2]
          exact h3 (i + 1 - 1) (by omega) (by omega)
        · rw [if_neg (by omega), if_neg a3, if_neg a1, if_neg a2]
          exact rest_rise at' k m N hr (i - 1) (i + 1 - 1) (by omega) (by omega)
  refine right_of _ m N (swap_len at' k k' s m hl hk hk') fun i hi => ?_
  have b1 := hN i hi
  rw [hv2 i hi]
  refine ⟨?_, by omega⟩
  cases i with
  | zero => show (0 : Int) ≤ _; omega
  | succ i =>
    show (swapI at' k k' s)[i]?.getD 0 + 1 ≤ _
    rw [hv2 i (by omega)]
    have := hri i hi
    omega

theorem swap_inB (at' : List Int) (k k' s m N : Nat) (hr : rightB at' m N = true) (hk : k < m) (hk' : k' < m) (j : Nat) : inB (swapI at' k k' s) m j = (if j = s then true else if j = atF at' k then false else inB at' m j) := by
  obtain ⟨hl, _⟩ := right_all at' m N hr
  have hat := swap_at at' k k' s m hl hk hk'
  have hdist : ∀ l, l < m → l ≠ k → atF at' l ≠ atF at' k := by
    intro l hlm hne
    by_cases hlk : l < k
    · have := atF_rise at' N m hr k hk l hlk; omega
    · have := atF_rise at' N m hr l hlm k (by omega); omega
  by_cases hjs : j = s
  · rw [if_pos hjs]
    refine (inB_true _ _ _).2 ⟨k', hk', ?_⟩
    rw [hat k' hk', if_neg (by omega), if_pos rfl, hjs]
  · rw [if_neg hjs]
    by_cases hjo : j = atF at' k
    · rw [if_pos hjo]
      refine (inB_false _ _ _).2 fun i hi => ?_
      rw [hat i hi]
      by_cases a1 : i < k'
      · rw [if_pos a1, hjo]
        unfold restF
        exact hdist _ (by split <;> omega) (by split <;> omega)
      · rw [if_neg a1]
        by_cases a2 : i = k'
        · rw [if_pos a2]; omega
        · rw [if_neg a2, hjo]
          unfold restF
          exact hdist _ (by split <;> omega) (by split <;> omega)
    · rw [if_neg hjo]
      cases hb : inB at' m j with
      | false =>
        have hb' := (inB_false _ _ _).1 hb
        refine (inB_false _ _ _).2 fun i hi => ?_
        rw [hat i hi]
        by_cases a1 : i < k'
        · rw [if_pos a1]
          unfold restF
          exact hb' _ (by split <;> omega)
        · rw [if_neg a1]
          by_cases a2 : i = k'
          · rw [if_pos a2]; omega
          · rw [if_neg a2]
            unfold restF
            exact hb' _ (by split <;> omega)
      | true =>
        obtain ⟨l, hlm, hlj⟩ := (inB_true _ _ _).1 hb
        have hlk : l ≠ k := by intro e; subst e; exact hjo hlj.symm
        obtain ⟨r, hrm, hre⟩ : ∃ r, r + 1 < m ∧ (if r < k then r else r + 1) = l := by
          by_cases c1 : l < k
          · exact ⟨l, by omega, if_pos c1⟩
          · exact ⟨l - 1, by omega, by rw [if_neg (by omega)]; omega⟩
        have hrj : restF at' k r = j := by unfold restF; rw [hre]; exact hlj
        by_cases c2 : r < k'
        · refine (inB_true _ _ _).2 ⟨r, by omega, ?_⟩
          rw [hat r (by omega), if_pos c2]; exact hrj
        · refine (inB_true _ _ _).2 ⟨r + 1, hrm, ?_⟩
          rw [hat (r + 1) hrm, if_neg (by omega), if_neg (by omega)]
          exact hrj

end Num
end Go.Proofs.YtloncgmgcnaalaaGreat

/- One step of a walk, whole: in plain numbers. -/
namespace Go.Proofs.YtloncgmgcnaalaaGreat
namespace Num

theorem next_of (p : Lp) (at' : List Int) (m n s k : Nat) (hmay : p.may = true) (hm : m = p.rows.length) (hr : rightB at' m (n + m) = true) (hd : denL p at' m ≠ 0) (hx : ∀ j : Nat, 0 ≤ sgD p at' m * (xL p at' m (n + m))[j]?.getD 0)
    (hs : s < n + m) (sg : 0 < sgD p at' m * (gainL p at' m (n + m))[s]?.getD 0) (sl : ∀ j : Nat, j < s → sgD p at' m * (gainL p at' m (n + m))[j]?.getD 0 ≤ 0)
    (hk : k < m) (falls : 0 < sgD p at' m * (wayL p at' m s)[k]?.getD 0)
    (near : ∀ l, l < m → 0 < sgD p at' m * (wayL p at' m s)[l]?.getD 0 → (sgD p at' m * (xL p at' m (n + m))[atF at' k]?.getD 0) * (sgD p at' m * (wayL p at' m s)[l]?.getD 0) ≤ (sgD p at' m * (xL p at' m (n + m))[atF at' l]?.getD 0) * (sgD p at' m * (wayL p at' m s)[k]?.getD 0) ∧
      ((sgD p at' m * (xL p at' m (n + m))[atF at' k]?.getD 0) * (sgD p at' m * (wayL p at' m s)[l]?.getD 0) = (sgD p at' m * (xL p at' m (n + m))[atF at' l]?.getD 0) * (sgD p at' m * (wayL p at' m s)[k]?.getD 0) → k ≤ l)) :
    ∃ k', k' < m ∧ (∀ i, i < k' → restF at' k i < s) ∧ (∀ i, k' ≤ i → i + 1 < m → s < restF at' k i) ∧ NextOk p at' (swapI at' k k' s) m (n + m) s k ∧ ∀ j : Nat, 0 ≤ sgD p (swapI at' k k' s) m * (xL p (swapI at' k k' s) m (n + m))[j]?.getD 0 := by
  have h1 : 1 ≤ m := by have := (p.may_of hmay).2.2.1.1; omega
  have h4 : m ≤ 4 := by have := (p.may_of hmay).2.2.1.2; omega
  have hsb : inB at' m s = false := by
    cases hb : inB at' m s with
    | false => rfl
    | true =>
      obtain ⟨i, hi, he⟩ := (inB_true at' m s).1 hb
      have := comes_gain p at' m n hmay hm hr i hi
      rw [← he, this] at sg
      omega
  obtain ⟨k', a1, a2, a3⟩ := place_of (restF at' k) s (m - 1) (fun i j hij hj => rest_rise at' k m (n + m) hr i j hij (by omega)) (fun i hi => by
    unfold restF
    exact (inB_false at' m s).1 hsb _ (by split <;> omega))
  have hk' : k' < m := by omega
  have hok : NextOk p at' (swapI at' k k' s) m (n + m) s k := by
    refine ⟨hr, swap_right at' k k' s m (n + m) hr hk hk' hs a2 (fun i hi hi2 => a3 i hi (by omega)), hd, ?_, hs, sg, sl, hk, falls, ?_, swap_inB at' k k' s m (n + m) hr hk hk'⟩
    · rw [den_swap p at' k k' s m (right_all at' m _ hr).1 h1 h4 hk hk']
      have hw : (wayL p at' m s)[k]?.getD 0 ≠ 0 := by intro e; rw [e] at falls; omega
      unfold sgn
      split <;> omega
    · intro l hl hwl he
      refine (near l hl hwl).2 ?_
      generalize (xL p at' m (n + m))[atF at' k]?.getD 0 = x1 at *
      generalize (wayL p at' m s)[l]?.getD 0 = w1 at *
      generalize (xL p at' m (n + m))[atF at' l]?.getD 0 = x2 at *
      generalize (wayL p at' m s)[k]?.getD 0 = w2 at *
      generalize sgD p at' m = g at *
      grind
  exact ⟨k', hk', a2, fun i hi hi2 => a3 i hi (by omega), hok, next_above p at' _ m n s k hmay hm hok hx fun l hl hwl => (near l hl hwl).1⟩

end Num
end Go.Proofs.YtloncgmgcnaalaaGreat
