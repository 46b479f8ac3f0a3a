/- Is a number within a piece, and what the law SweepHolds needs in plain numbers. -/
import Derived.Test.YtipcbhodlgoflabGreatSwpBX
import Derived.Test.YtipcbhodlgoflabGreatAtW
namespace Go.Proofs.YtipcbhodlgoflabGreat
open Go.RowKit

set_option maxHeartbeats 1600000 in
theorem in_gen (o o2 : Bool) (n d n2 d2 k e : Int) (bn bd sn sd : Int) (w : World) (h1 : -1073741824 ≤ n ∧ n ≤ 1073741824) (h2 : -1073741824 ≤ d ∧ d ≤ 1073741824) (h3 : -1073741824 ≤ n2 ∧ n2 ≤ 1073741824) (h4 : -1073741824 ≤ d2 ∧ d2 ≤ 1073741824) (hk : -1073741824 ≤ k ∧ k ≤ 1073741824) (he : -1073741824 ≤ e ∧ e ≤ 1073741824) :
    Calls Tryz.prog 8 #[.agg #[.bool o, .int .i64 n, .int .i64 d, .bool o2, .int .i64 n2, .int .i64 d2, .int .i64 bn, .int .i64 bd, .int .i64 sn, .int .i64 sd], .agg #[.int .i64 k, .int .i64 e]] w fun r w' => r = .returned (.bool (Num.inSpn ⟨o, n, d, o2, n2, d2, false⟩ k e)) ∧ Below w.heap.size w w' := by
  generalize hv : Num.inSpn ⟨o, n, d, o2, n2, d2, false⟩ k e = res
  cases o
  · cases o2
    · have HV : Hid (Num.inSpn ⟨false, n, d, false, n2, d2, false⟩ k e = res) := hv
      clear hv
      go_enter Tryz.func8, Tryz.ntmps8
      go_wp2_with fail
      refine (cmp_any k e n d _ hk he h1 h2).mono ?_
      rintro _ w1 ⟨rfl, hb1⟩
      have hP : Bx w.heap.size [.bool false, .int .i64 n, .int .i64 d, .bool false, .int .i64 n2, .int .i64 d2, .int .i64 bn, .int .i64 bd, .int .i64 sn, .int .i64 sd] w1 := ((Bx.new rfl _ _).step (balloc _ _)).step hb1
      have hT : Bx (w.heap.size + 1) [.int .i64 k, .int .i64 e] w1 := (Bx.new (by simp) _ _).step hb1
      have hB : Below w.heap.size w w1 := binto (binto hb1)
      clear hb1
      have HP : Hid _ := hP
      have HT : Hid _ := hT
      have HB : Hid _ := hB
      have c0 := hP.c 0 _ rfl
      have c1 := hP.c 1 _ rfl
      have c2 := hP.c 2 _ rfl
      have c3 := hP.c 3 _ rfl
      have c4 := hP.c 4 _ rfl
      have c5 := hP.c 5 _ rfl
      obtain ⟨t0, t1, _, _⟩ := hT.all2
      have hz : w.heap.size + 1 < w1.heap.size := hT.lt
      have hz0 : w.heap.size < w1.heap.size := hP.lt
      clear hP hT hB
      generalize hqq : k * d - n * e = q
      have HQq : Hid (k * d - n * e = q) := hqq
      clear hqq
      by_cases htq : 0 ≤ q
      · have hdq : decide (0 ≤ q) = true := by simpa using htq
        go_wp2_with fail
        refine (cmp_any k e n2 d2 _ hk he h3 h4).mono ?_
        rintro _ w2 ⟨rfl, hb2⟩
        have hP := HP.out.step hb2
        have hT := HT.out.step hb2
        have hB := bstep HB.out hb2
        clear hb2 HP HT HB c0 c1 c2 c3 c4 c5 t0 t1 hz hz0
        have HB : Hid _ := hB
        have c0 := hP.c 0 _ rfl
        have c1 := hP.c 1 _ rfl
        have c2 := hP.c 2 _ rfl
        have c3 := hP.c 3 _ rfl
        have c4 := hP.c 4 _ rfl
        have c5 := hP.c 5 _ rfl
        obtain ⟨t0, t1, _, _⟩ := hT.all2
        have hz : w.heap.size + 1 < w2.heap.size := hT.lt
        have hz0 : w.heap.size < w2.heap.size := hP.lt
        clear hP hT hB
        generalize hqq2 : k * d2 - n2 * e = q2
        have HQq2 : Hid (k * d2 - n2 * e = q2) := hqq2
        clear hqq2
        by_cases htq2 : q2 ≤ 0
        · have hdq2 : decide (q2 ≤ 0) = true := by simpa using htq2
          go_wp2_with fail
          go_ret
          exact ⟨ret_bool (by have eq := HQq.out; have eq2 := HQq2.out; rw [← HV.out]; unfold Num.inSpn; simp; omega), HB.out⟩
        · have hdq2 : decide (q2 ≤ 0) = false := by simpa using htq2
          go_wp2_with fail
          go_ret
          exact ⟨ret_bool (by have eq := HQq.out; have eq2 := HQq2.out; rw [← HV.out]; unfold Num.inSpn; simp; omega), HB.out⟩
      · have hdq : decide (0 ≤ q) = false := by simpa using htq
        go_wp2_with fail
        go_ret
        exact ⟨ret_bool (by have eq := HQq.out; rw [← HV.out]; unfold Num.inSpn; simp; omega), HB.out⟩
    · have HV : Hid (Num.inSpn ⟨false, n, d, true, n2, d2, false⟩ k e = res) := hv
      clear hv
      go_enter Tryz.func8, Tryz.ntmps8
      go_wp2_with fail
      refine (cmp_any k e n d _ hk he h1 h2).mono ?_
      rintro _ w1 ⟨rfl, hb1⟩
      have hP : Bx w.heap.size [.bool false, .int .i64 n, .int .i64 d, .bool true, .int .i64 n2, .int .i64 d2, .int .i64 bn, .int .i64 bd, .int .i64 sn, .int .i64 sd] w1 := ((Bx.new rfl _ _).step (balloc _ _)).step hb1
      have hT : Bx (w.heap.size + 1) [.int .i64 k, .int .i64 e] w1 := (Bx.new (by simp) _ _).step hb1
      have hB : Below w.heap.size w w1 := binto (binto hb1)
      clear hb1
      have HP : Hid _ := hP
      have HT : Hid _ := hT
      have HB : Hid _ := hB
      have c0 := hP.c 0 _ rfl
      have c1 := hP.c 1 _ rfl
      have c2 := hP.c 2 _ rfl
      have c3 := hP.c 3 _ rfl
      have c4 := hP.c 4 _ rfl
      have c5 := hP.c 5 _ rfl
      obtain ⟨t0, t1, _, _⟩ := hT.all2
      have hz : w.heap.size + 1 < w1.heap.size := hT.lt
      have hz0 : w.heap.size < w1.heap.size := hP.lt
      clear hP hT hB
      generalize hqq : k * d - n * e = q
      have HQq : Hid (k * d - n * e = q) := hqq
      clear hqq
      by_cases htq : 0 ≤ q
      · have hdq : decide (0 ≤ q) = true := by simpa using htq
        go_wp2_with fail
        go_ret
        exact ⟨ret_bool (by have eq := HQq.out; rw [← HV.out]; unfold Num.inSpn; simp; omega), HB.out⟩
      · have hdq : decide (0 ≤ q) = false := by simpa using htq
        go_wp2_with fail
        go_ret
        exact ⟨ret_bool (by have eq := HQq.out; rw [← HV.out]; unfold Num.inSpn; simp; omega), HB.out⟩
  · cases o2
    · have HV : Hid (Num.inSpn ⟨true, n, d, false, n2, d2, false⟩ k e = res) := hv
      clear hv
      go_enter Tryz.func8, Tryz.ntmps8
      go_wp2_with fail
      refine (cmp_any k e n2 d2 _ hk he h3 h4).mono ?_
      rintro _ w1 ⟨rfl, hb1⟩
      have hP : Bx w.heap.size [.bool true, .int .i64 n, .int .i64 d, .bool false, .int .i64 n2, .int .i64 d2, .int .i64 bn, .int .i64 bd, .int .i64 sn, .int .i64 sd] w1 := ((Bx.new rfl _ _).step (balloc _ _)).step hb1
      have hT : Bx (w.heap.size + 1) [.int .i64 k, .int .i64 e] w1 := (Bx.new (by simp) _ _).step hb1
      have hB : Below w.heap.size w w1 := binto (binto hb1)
      clear hb1
      have HP : Hid _ := hP
      have HT : Hid _ := hT
      have HB : Hid _ := hB
      have c0 := hP.c 0 _ rfl
      have c1 := hP.c 1 _ rfl
      have c2 := hP.c 2 _ rfl
      have c3 := hP.c 3 _ rfl
      have c4 := hP.c 4 _ rfl
      have c5 := hP.c 5 _ rfl
      obtain ⟨t0, t1, _, _⟩ := hT.all2
      have hz : w.heap.size + 1 < w1.heap.size := hT.lt
      have hz0 : w.heap.size < w1.heap.size := hP.lt
      clear hP hT hB
      generalize hqq2 : k * d2 - n2 * e = q2
      have HQq2 : Hid (k * d2 - n2 * e = q2) := hqq2
      clear hqq2
      by_cases htq2 : q2 ≤ 0
      · have hdq2 : decide (q2 ≤ 0) = true := by simpa using htq2
        go_wp2_with fail
        go_ret
        exact ⟨ret_bool (by have eq2 := HQq2.out; rw [← HV.out]; unfold Num.inSpn; simp; omega), HB.out⟩
      · have hdq2 : decide (q2 ≤ 0) = false := by simpa using htq2
        go_wp2_with fail
        go_ret
        exact ⟨ret_bool (by have eq2 := HQq2.out; rw [← HV.out]; unfold Num.inSpn; simp; omega), HB.out⟩
    · have HV : Hid (Num.inSpn ⟨true, n, d, true, n2, d2, false⟩ k e = res) := hv
      clear hv
      go_enter Tryz.func8, Tryz.ntmps8
      go_wp2_with fail
      go_ret
      exact ⟨ret_bool (by rw [← HV.out]; rfl), bstep (balloc _ _) (balloc _ _)⟩

namespace Num

theorem wr_shift (x y : Int) : wrap64 (x + 18446744073709551616 * y) = wrap64 x := by unfold wrap64; omega
theorem wr_is (x : Int) : ∃ q, wrap64 x = x + 18446744073709551616 * q := ⟨-((x + 9223372036854775808) / 18446744073709551616), by unfold wrap64; omega⟩
theorem wr_mul (a b : Int) : wrap64 (wrap64 a * b) = wrap64 (a * b) := by
  obtain ⟨q, hq⟩ := wr_is a
  rw [hq, Int.add_mul, Int.mul_assoc, wr_shift]
theorem wr_add (a b : Int) : wrap64 (wrap64 a + wrap64 b) = wrap64 (a + b) := by unfold wrap64; omega

/-- Base and slope times the number: what the wrapped products make of it. -/
theorem wr_line (e k wn wd bn bd sn sd : Int) (h : wn * (bd * sd) = (e * (bn * sd) + k * (sn * bd)) * wd) :
    wrap64 (wrap64 (wrap64 (wrap64 (e * bn) * sd) + wrap64 (wrap64 (k * sn) * bd)) * wd) = wrap64 (wrap64 (wn * bd) * sd) := by
  rw [wr_mul (e * bn) sd, wr_mul (k * sn) bd, wr_add, wr_mul (e * bn * sd + k * sn * bd) wd, wr_mul (wn * bd) sd, show wn * bd * sd = wn * (bd * sd) by grind, h]
  congr 1
  grind

theorem leS (n d num den k e : Int) (hden : 0 < den) (he : 0 < e) (h : num * e = k * den) : n * den ≤ num * d ↔ n * e ≤ k * d := by
  have a1 : e * (num * d - n * den) = den * (k * d - n * e) := by
    have : e * (num * d) = (num * e) * d := by grind
    rw [Int.mul_sub, this, h]
    grind
  constructor
  · intro h1
    have : 0 ≤ den * (k * d - n * e) := by rw [← a1]; exact Int.mul_nonneg (by omega) (by omega)
    have := Int.nonneg_of_mul_nonneg_right this hden
    omega
  · intro h1
    have : 0 ≤ e * (num * d - n * den) := by rw [a1]; exact Int.mul_nonneg (by omega) (by omega)
    have := Int.nonneg_of_mul_nonneg_right this he
    omega

/-- Is a number within a piece? -/
def inP (y : Pc) (k e : Int) : Bool := inSpn ⟨y.f.o, y.f.n, y.f.d, y.t.o, y.t.n, y.t.d, false⟩ k e

theorem inP_iff (y : Pc) (num den k e : Int) (hden : 0 < den) (he : 0 < e) (h : num * e = k * den) : inP y k e = true ↔ loE y.f den num ∧ hiE y.t den num := by
  have t1 := leS y.f.n y.f.d num den k e hden he h
  have t2 := leS (-y.t.n) (-y.t.d) num den k e hden he h
  rw [Int.neg_mul, Int.mul_neg, Int.neg_mul, Int.mul_neg] at t2
  unfold inP inSpn loE hiE
  simp only [Bool.and_eq_true, Bool.or_eq_true, decide_eq_true_eq]
  rw [t1]
  constructor
  · rintro ⟨h1, h2⟩
    exact ⟨by rcases h1 with h1 | h1; exact Or.inl h1; exact Or.inr (by omega), by rcases h2 with h2 | h2; exact Or.inl h2; exact Or.inr (by omega)⟩
  · rintro ⟨h1, h2⟩
    exact ⟨by rcases h1 with h1 | h1; exact Or.inl h1; exact Or.inr (by omega), by rcases h2 with h2 | h2; exact Or.inl h2; exact Or.inr (by omega)⟩

theorem atL_lenH (c y : List Int) (num den : Int) : (atL c y num den).length = c.length := by simp [atL]

theorem atL_getH (c y : List Int) (hl : y.length = c.length) (num den : Int) (j : Nat) : (atL c y num den)[j]?.getD 0 = den * c[j]?.getD 0 + num * y[j]?.getD 0 := by
  unfold atL
  rw [range_getD]
  split
  · rfl
  · rw [List.getElem?_eq_none (by omega), List.getElem?_eq_none (by omega)]; simp

theorem within_allsH (m : Int) (l : List Int) (h : ∀ j : Nat, j < l.length → -m ≤ l[j]?.getD 0 ∧ l[j]?.getD 0 ≤ m) : withinB m l = true := by
  have key : ∀ k, k ≤ l.length → withinB m (l.take k) = true := by
    intro k
    induction k with
    | zero => intro _; rfl
    | succ k ih =>
      intro hk
      rw [withinB_take_succ m l k (by omega), ih (by omega)]
      have := h k (by omega)
      simp; omega
  have := key l.length (Nat.le_refl _)
  rwa [List.take_length] at this

theorem atL_mayH (p : Lp) (y : List Int) (hm : p.may = true) (hl : y.length = p.costs.length) (num den : Int) (hn : -16 ≤ num ∧ num ≤ 16) (hd : 1 ≤ den ∧ den ≤ 16)
    (hcb : ∀ j : Nat, -12 ≤ p.costs[j]?.getD 0 ∧ p.costs[j]?.getD 0 ≤ 12) (hyb : ∀ j : Nat, -12 ≤ y[j]?.getD 0 ∧ y[j]?.getD 0 ≤ 12) : (withC p (atL p.costs y num den)).may = true := by
  refine withC_may p _ (atL_lenH _ _ _ _) hm (within_allsH 400 _ fun j _ => ?_)
  rw [atL_getH p.costs y hl]
  have h1 : -192 ≤ den * p.costs[j]?.getD 0 ∧ den * p.costs[j]?.getD 0 ≤ 192 := by
    have := hcb j
    generalize p.costs[j]?.getD 0 = x at *
    constructor
    · have : 0 ≤ den * (x + 12) := Int.mul_nonneg (by omega) (by omega)
      rw [Int.mul_add] at this; omega
    · have : 0 ≤ den * (12 - x) := Int.mul_nonneg (by omega) (by omega)
      rw [Int.mul_sub] at this; omega
  have h2 : -192 ≤ num * y[j]?.getD 0 ∧ num * y[j]?.getD 0 ≤ 192 := by
    have := hyb j
    generalize y[j]?.getD 0 = x at *
    have a1 : 0 ≤ (16 - num) * (12 - x) := Int.mul_nonneg (by omega) (by omega)
    have a2 : 0 ≤ (16 + num) * (12 + x) := Int.mul_nonneg (by omega) (by omega)
    have a3 : 0 ≤ (16 - num) * (12 + x) := Int.mul_nonneg (by omega) (by omega)
    have a4 : 0 ≤ (16 + num) * (12 - x) := Int.mul_nonneg (by omega) (by omega)
    have e1 : (16 - num) * (12 - x) = 192 - 16 * x - 12 * num + num * x := by grind
    have e2 : (16 + num) * (12 + x) = 192 + 16 * x + 12 * num + num * x := by grind
    have e3 : (16 - num) * (12 + x) = 192 + 16 * x - 12 * num - num * x := by grind
    have e4 : (16 + num) * (12 - x) = 192 - 16 * x + 12 * num - num * x := by grind
    omega
  omega


theorem sweep_mem (l : List Pc) (y : Pc) (h : y ∈ sweepN l) : y ∈ l := by
  rcases sweep_cases l with ⟨_, h1⟩ | ⟨_, ⟨_, h2⟩ | ⟨z, hz, h2⟩⟩
  · exact ((h1 y).1 h).1
  · rw [h2] at h; cases h
  · rw [h2] at h
    rw [List.mem_singleton] at h
    rw [h]; exact hz

theorem pieces_areH (y : Pc) : ∃ fo fn fd tt tn td bn bd sn sd, y = ⟨⟨fo, fn, fd⟩, ⟨tt, tn, td⟩, bn, bd, sn, sd⟩ := by
  obtain ⟨⟨fo, fn, fd⟩, ⟨tt, tn, td⟩, bn, bd, sn, sd⟩ := y
  exact ⟨fo, fn, fd, tt, tn, td, bn, bd, sn, sd, rfl⟩

theorem one_may : (⟨[1], [([1], 3)]⟩ : Lp).may = true := by decide +kernel
theorem one_bmay : (withC ⟨[1], [([1], 3)]⟩ [1]).may = true := by decide +kernel
theorem one_goodB : goodB ⟨[1], [([1], 3)]⟩ [0] = true := by decide +kernel
theorem one_two : (sweepN (linesN ⟨[1], [([1], 3)]⟩ [1] 1 1 (allC 1 (1 + 1)))).length = 2 := by decide +kernel

end Num

theorem Num.out_snocH (l : List Num.Pc) (k : Nat) (y : Num.Pc) (h : l[k]? = some y) : Num.outP (l.take (k + 1)) = if Num.spotB y = true then Num.outP (l.take k) else Num.insN y (Num.outP (l.take k)) := by
  unfold Num.outP
  rw [List.take_add_one, h, List.foldl_append]
  rfl

theorem Num.ins_lenH (x : Num.Pc) : ∀ l : List Num.Pc, (Num.insN x l).length = l.length + 1 := by
  intro l
  induction l with
  | nil => rfl
  | cons y l ih =>
    unfold Num.insN
    split
    · rw [List.length_cons, ih]; rfl
    · rfl

theorem Num.out_lenH (l : List Num.Pc) : ∀ k, (Num.outP (l.take k)).length ≤ k := by
  intro k
  induction k with
  | zero => simp [Num.outP]
  | succ k ih =>
    cases h : l[k]? with
    | none =>
      have : l.take (k + 1) = l.take k := by rw [List.take_add_one, h]; simp
      rw [this]; omega
    | some y =>
      rw [Num.out_snocH l k y h]
      split
      · omega
      · rw [Num.ins_lenH]; omega

theorem Num.sweep_lenH (p : Num.Lp) (b : List Int) (rl cl : Nat) (cx : Num.Ctx p b rl cl) : (Num.sweepN (Num.linesN p b rl cl (Num.allC rl (cl + rl)))).length ≤ 1000 := by
  have h1 := (Num.all_len rl cl cx.h1 cx.h4 cx.n1 cx.n4).1
  have h2 := Num.lines_len p b rl cl (Num.allC rl (cl + rl))
  generalize Num.linesN p b rl cl (Num.allC rl (cl + rl)) = L at *
  have h3 := Num.out_lenH L L.length
  rw [List.take_length] at h3
  unfold Num.sweepN
  split
  · simp
  · omega

end Go.Proofs.YtipcbhodlgoflabGreat
