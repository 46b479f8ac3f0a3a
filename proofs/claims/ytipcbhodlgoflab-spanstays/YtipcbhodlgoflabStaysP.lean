/- Costs along a line, in plain numbers: a corner is best there if, and only if, it is within the span that the program tells. And the one that is known. -/
import Derived.Test.YtipcbhodlgoflabSpnWB
import Derived.Test.YtipcbhodlgoflabAtW
import Derived.Test.YtipcbhodlgoflabKnd12
namespace Go.Proofs.Ytipcbhodlgoflab
open Go.RowKit

namespace Num

theorem atL_len (c y : List Int) (num den : Int) : (atL c y num den).length = c.length := by simp [atL]

theorem atL_get (c y : List Int) (hl : y.length = c.length) (num den : Int) (j : Nat) : (atL c y num den)[j]?.getD 0 = den * c[j]?.getD 0 + num * y[j]?.getD 0 := by
  unfold atL
  rw [range_getD]
  split
  · rfl
  · rw [List.getElem?_eq_none (by omega), List.getElem?_eq_none (by omega)]; simp

theorem within_alls (m : Int) (l : List Int) (h : ∀ j : Nat, j < l.length → -m ≤ l[j]?.getD 0 ∧ l[j]?.getD 0 ≤ m) : withinB m l = true := by
  have key : ∀ k, k ≤ l.length → withinB m (l.take k) = true := by
    intro k
    induction k with
    | zero => intro _; rfl
    | succ k ih =>
      intro hk
      rw [withinB_take_succ m l k (by omega), ih (by omega)]
      have := h k (by omega)
      simp; omega
  have := key l.length (Nat.le_refl _)
  rwa [List.take_length] at this

theorem le_scale (n d num den k e : Int) (hden : 0 < den) (he : 0 < e) (h : num * e = k * den) : n * den ≤ num * d ↔ n * e ≤ k * d := by
  have a1 : e * (num * d - n * den) = den * (k * d - n * e) := by
    have : e * (num * d) = (num * e) * d := by grind
    rw [Int.mul_sub, this, h]
    grind
  constructor
  · intro h1
    have : 0 ≤ den * (k * d - n * e) := by rw [← a1]; exact Int.mul_nonneg (by omega) (by omega)
    have := Int.nonneg_of_mul_nonneg_right this hden
    omega
  · intro h1
    have : 0 ≤ e * (num * d - n * den) := by rw [a1]; exact Int.mul_nonneg (by omega) (by omega)
    have := Int.nonneg_of_mul_nonneg_right this he
    omega

theorem anyPos_iff (l : List Int) : anyPos l = false ↔ ∀ j, j < l.length → l[j]?.getD 0 ≤ 0 := by
  constructor
  · intro h j hj
    rcases Int.lt_or_le 0 (l[j]?.getD 0) with h1 | h1
    · rw [anyPos_of l j hj h1] at h; cases h
    · exact h1
  · intro h
    unfold anyPos
    rw [List.any_eq_false]
    intro x hx
    obtain ⟨j, hj, rfl⟩ := List.getElem_of_mem hx
    have := h j hj
    rw [List.getElem?_eq_getElem hj] at this
    simpa using this

/-- The costs along the line are costs. -/
theorem atL_may (p : Lp) (y : List Int) (hm : p.may = true) (hl : y.length = p.costs.length) (num den : Int) (hn : -16 ≤ num ∧ num ≤ 16) (hd : 1 ≤ den ∧ den ≤ 16)
    (hcb : ∀ j : Nat, -12 ≤ p.costs[j]?.getD 0 ∧ p.costs[j]?.getD 0 ≤ 12) (hyb : ∀ j : Nat, -12 ≤ y[j]?.getD 0 ∧ y[j]?.getD 0 ≤ 12) : (withC p (atL p.costs y num den)).may = true := by
  refine withC_may p _ (atL_len _ _ _ _) hm (within_alls 400 _ fun j _ => ?_)
  rw [atL_get p.costs y hl]
  have h1 : -192 ≤ den * p.costs[j]?.getD 0 ∧ den * p.costs[j]?.getD 0 ≤ 192 := by
    have := hcb j
    generalize p.costs[j]?.getD 0 = x at *
    constructor
    · have : 0 ≤ den * (x + 12) := Int.mul_nonneg (by omega) (by omega)
      rw [Int.mul_add] at this; omega
    · have : 0 ≤ den * (12 - x) := Int.mul_nonneg (by omega) (by omega)
      rw [Int.mul_sub] at this; omega
  have h2 : -192 ≤ num * y[j]?.getD 0 ∧ num * y[j]?.getD 0 ≤ 192 := by
    have := hyb j
    generalize y[j]?.getD 0 = x at *
    have a1 : 0 ≤ (16 - num) * (12 - x) := Int.mul_nonneg (by omega) (by omega)
    have a2 : 0 ≤ (16 + num) * (12 + x) := Int.mul_nonneg (by omega) (by omega)
    have a3 : 0 ≤ (16 - num) * (12 + x) := Int.mul_nonneg (by omega) (by omega)
    have a4 : 0 ≤ (16 + num) * (12 - x) := Int.mul_nonneg (by omega) (by omega)
    have e1 : (16 - num) * (12 - x) = 192 - 16 * x - 12 * num + num * x := by grind
    have e2 : (16 + num) * (12 + x) = 192 + 16 * x + 12 * num + num * x := by grind
    have e3 : (16 - num) * (12 + x) = 192 + 16 * x - 12 * num - num * x := by grind
    have e4 : (16 + num) * (12 - x) = 192 - 16 * x + 12 * num - num * x := by grind
    omega
  omega

/-- A corner is best along the line if, and only if, it is within its span. -/
theorem stays (p : Lp) (at' y : List Int) (h : p.may = true ∧ rightB at' p.rows.length (p.costs.length + p.rows.length) = true ∧ denL p at' p.rows.length ≠ 0) (hl : y.length = p.costs.length) (hw : withinB 400 y = true) (num den : Int) (hn : -16 ≤ num ∧ num ≤ 16) (hd : 1 ≤ den ∧ den ≤ 16)
    (hcb : ∀ j : Nat, -12 ≤ p.costs[j]?.getD 0 ∧ p.costs[j]?.getD 0 ≤ 12) (hyb : ∀ j : Nat, -12 ≤ y[j]?.getD 0 ∧ y[j]?.getD 0 ≤ 12) (k e : Int) (he : 1 ≤ e) (hke : num * e = k * den) :
    (look (withC p (atL p.costs y num den)) at').err = 0 ∧ (!emptyS (costsN p at' y) && inSpn (costsN p at' y) k e) = !anyPos (look (withC p (atL p.costs y num den)) at').g := by
  obtain ⟨hm, hr, hde⟩ := h
  have m2 := withC_may p y hl hm hw
  have m3 := atL_may p y hm hl num den hn hd hcb hyb
  have l3 := atL_len p.costs y num den
  have d3 : denL (withC p (atL p.costs y num den)) at' p.rows.length ≠ 0 := by rw [withC_den p _ l3]; exact hde
  obtain ⟨e3, g3, _⟩ := look_gain (withC p (atL p.costs y num den)) at' p.rows.length p.costs.length m3 rfl l3.symm hr d3
  refine ⟨e3, ?_⟩
  have lb := line_best p p.costs y (atL p.costs y num den) den num at' p.rows.length p.costs.length rfl rfl rfl hl l3 hm m2 m3 hr hde (atL_get p.costs y hl num den)
  have sp := (costs_span p p.costs y at' p.rows.length p.costs.length rfl rfl rfl hl hm m2 hr hde).2
  rw [withC_self] at lb sp
  have sa := span_all _ _ _ _ sp num den (by omega)
  rw [← lb] at sa
  have sa2 : (∀ j, j < p.costs.length + p.rows.length → (look (withC p (atL p.costs y num den)) at').g[j]?.getD 0 ≤ 0) ↔ (emptyS (costsN p at' y) = false ∧ ((costsN p at' y).o = true ∨ (costsN p at' y).n * den ≤ num * (costsN p at' y).d) ∧ ((costsN p at' y).o2 = true ∨ num * (costsN p at' y).d2 ≤ (costsN p at' y).n2 * den)) := sa
  rw [← g3, ← anyPos_iff] at sa2
  generalize costsN p at' y = s at *
  generalize (look (withC p (atL p.costs y num den)) at').g = g at *
  clear sa sp lb
  have t1 := le_scale s.n s.d num den k e (by omega) (by omega) hke
  have t2 : num * s.d2 ≤ s.n2 * den ↔ k * s.d2 ≤ s.n2 * e := by
    have := le_scale (-s.n2) (-s.d2) num den k e (by omega) (by omega) hke
    rw [Int.neg_mul, Int.mul_neg, Int.neg_mul, Int.mul_neg] at this
    omega
  rw [t1, t2] at sa2
  unfold inSpn
  cases ha : anyPos g with
  | false =>
    obtain ⟨q1, q2, q3⟩ := sa2.1 ha
    rw [q1]
    simp only [Bool.not_false, Bool.true_and, Bool.and_eq_true, Bool.or_eq_true, decide_eq_true_eq]
    exact ⟨by rcases q2 with q2 | q2; exact Or.inl q2; exact Or.inr (by omega), by rcases q3 with q3 | q3; exact Or.inl q3; exact Or.inr (by omega)⟩
  | true =>
    cases hx : (!emptyS s && ((s.o || decide (0 ≤ k * s.d - s.n * e)) && (s.o2 || decide (k * s.d2 - s.n2 * e ≤ 0)))) with
    | false => rfl
    | true =>
      exfalso
      simp only [Bool.and_eq_true, Bool.or_eq_true, decide_eq_true_eq, Bool.not_eq_true'] at hx
      obtain ⟨q1, q2, q3⟩ := hx
      have := sa2.2 ⟨q1, by rcases q2 with q2 | q2; exact Or.inl q2; exact Or.inr (by omega), by rcases q3 with q3 | q3; exact Or.inl q3; exact Or.inr (by omega)⟩
      rw [ha] at this
      cases this

theorem one_err : (look ⟨[1], [([1], 3)]⟩ [0]).err = 0 := by decide +kernel
theorem one_empty : emptyS (costsN ⟨[1], [([1], 3)]⟩ [0] [1]) = false := by decide +kernel
theorem one_fields : (costsN ⟨[1], [([1], 3)]⟩ [0] [1]).o = false ∧ (costsN ⟨[1], [([1], 3)]⟩ [0] [1]).n = -1 := by decide +kernel

end Num

/-- The span that is known. -/
theorem one_known : ∃ (d : Int) (o2 : Bool) (n2 d2 er : Int), costsV ⟨[1], [([1], 3)]⟩ [0] [1] = .tuple #[.agg #[.bool false, .int .i64 (-1), .int .i64 d], .agg #[.bool o2, .int .i64 n2, .int .i64 d2], .int .i64 er] := by
  obtain ⟨h1, h2⟩ := Num.one_fields
  unfold costsV
  rw [if_neg (by rw [Num.one_err]; simp), if_pos ⟨rfl, by decide +kernel⟩]
  unfold endsV
  rw [if_neg (by rw [Num.one_empty]; simp), h1, h2]
  exact ⟨_, _, _, _, _, rfl⟩

end Go.Proofs.Ytipcbhodlgoflab
