/- What the document's whole, above, end and Small do (chapter 7). -/
import Derived.Test.YtloncgmgcnaalabSpnF
import Derived.Test.YtloncgmgcnaalabBx
namespace Go.Proofs.Ytloncgmgcnaalab
open Go.RowKit

/-- A span, as the document's value. -/
def spanV (s : Num.Spn) : Value := .agg #[.bool s.o, .int .i64 s.n, .int .i64 s.d, .bool s.o2, .int .i64 s.n2, .int .i64 s.d2, .bool s.no]

set_option maxHeartbeats 400000 in
theorem whole_any (w : World) :
    Calls Try.prog 33 #[] w fun e w' => e = .returned (spanV Num.wholeS) ∧ Below w.heap.size w w' := by
  go_enter Try.func33, Try.ntmps33
  go_wp2_with fail
  exact bodyPost_ret (v := spanV Num.wholeS) (by simp [results, Try.results33, go_sem, spanV, Num.wholeS]) rfl ⟨rfl, balloc _ _⟩

set_option maxHeartbeats 800000 in
theorem above_zero (s : Num.Spn) (a : Int) (w : World) :
    Calls Try.prog 34 #[spanV s, .int .i64 a, .int .i64 0] w fun e w' => e = .returned (spanV (Num.aboveS s a 0)) ∧ Below w.heap.size w w' := by
  obtain ⟨o, n, d, o2, n2, d2, no⟩ := s
  have HE : Hid (Num.aboveS ⟨o, n, d, o2, n2, d2, no⟩ a 0 = ⟨o, n, d, o2, n2, d2, no || decide (a < 0)⟩) := by show _ = _; unfold Num.aboveS; rw [if_pos rfl]
  unfold spanV
  rw [HE.out]
  clear HE
  simp only
  cases no
  · go_enter Try.func34, Try.ntmps34
    go_wp2_with fail
    exact bodyPost_ret (v := .agg #[.bool o, .int .i64 n, .int .i64 d, .bool o2, .int .i64 n2, .int .i64 d2, .bool (decide (a < 0))]) (by simp [results, Try.results34, go_sem]) rfl ⟨by simp, bstep (balloc _ _) (balloc _ _)⟩
  · go_enter Try.func34, Try.ntmps34
    go_wp2_with fail
    exact bodyPost_ret (v := .agg #[.bool o, .int .i64 n, .int .i64 d, .bool o2, .int .i64 n2, .int .i64 d2, .bool true]) (by simp [results, Try.results34, go_sem]) rfl ⟨by simp, bstep (balloc _ _) (balloc _ _)⟩

theorem Num.may_bd {y x : Int} (h : Num.mayB y [x] = true) : (-1073741824 ≤ x ∧ x ≤ 1073741824) ∧ (1 ≤ y ∧ y ≤ 1073741824) := by
  have A := Num.mayB_bd _ _ h
  rw [Num.withinB_one] at A
  simp only [Bool.and_eq_true, decide_eq_true_eq] at A
  omega

set_option maxHeartbeats 1600000 in
theorem above_u0 (o2 no : Bool) (n d n2 d2 : Int) (a b : Int) (w : World) (hs : Num.SmallP a b) (hb : 0 < b) (x y : Int) (hm : Num.mk (0 - a) b = (x, y, 0)) (hxy : Num.mayB y [x] = true) :
    Calls Try.prog 34 #[spanV ⟨true, n, d, o2, n2, d2, no⟩, .int .i64 a, .int .i64 b] w fun e w' => e = .returned (spanV (Num.aboveS ⟨true, n, d, o2, n2, d2, no⟩ a b)) ∧ Below w.heap.size w w' := by
  have HE : Hid (Num.aboveS ⟨true, n, d, o2, n2, d2, no⟩ a b = ⟨false, x, y, o2, n2, d2, no⟩) := by show _ = _; unfold Num.aboveS; rw [if_neg (by omega), if_pos hb, hm]; simp
  rw [Int.zero_sub] at hm
  have HM : Hid (Num.mk (-a) b = (x, y, 0)) := hm
  clear hm
  have ha := hs.a62
  have hb' := hs.b62
  have hxb := Num.may_bd hxy
  clear hs hxy
  have e1 : (b == 0) = false := by simp; omega
  have e2 : decide (0 < b) = true := by simp; omega
  have e3 : decide (b < 0) = false := by simp; omega
  unfold spanV
  rw [HE.out]
  clear HE
  simp only
  go_enter Try.func34, Try.ntmps34
  go_wp2_with fail
  refine (of_any _ _ _ x y 0 HM.out).mono ?_
  rintro e w1 ⟨rfl, hb1⟩
  have hP : Bx w.heap.size [.bool true, .int .i64 n, .int .i64 d, .bool o2, .int .i64 n2, .int .i64 d2, .bool no] w1 := ((Bx.new rfl _ _).step (balloc _ _)).step hb1
  have hR : Bx (w.heap.size + 1) [.bool false, .int .i64 0, .int .i64 0, .bool false, .int .i64 0, .int .i64 0, .bool false] w1 := (Bx.new (by simp) _ _).step hb1
  have hB : Below w.heap.size w w1 := binto (binto hb1)
  clear hb1
  have HP : Hid _ := hP
  have HR : Hid _ := hR
  have HB : Hid _ := hB
  obtain ⟨⟨c0, c1, c2, c3, c4, c5, c6⟩, f0, f1, f2, f3, f4, f5, f6⟩ := hP.all7
  obtain ⟨⟨b0, b1, b2, b3, b4, b5, b6⟩, g0, g1, g2, g3, g4, g5, g6⟩ := hR.all7
  have hz : w.heap.size + 1 < w1.heap.size := hR.lt
  have hz0 : w.heap.size < w1.heap.size := hP.lt
  clear hP hR hB
  go_wp2_with fail
  generalize hX : (((((((((((w1).setCell ⟨w.heap.size, 0, none⟩ (.bool false)).setCell ⟨w.heap.size, 1, none⟩ (.int .i64 x)).setCell ⟨w.heap.size, 2, none⟩ (.int .i64 y)).setCell ⟨w.heap.size + 1, 0, none⟩ (.bool false)).setCell ⟨w.heap.size + 1, 1, none⟩ (.int .i64 x)).setCell ⟨w.heap.size + 1, 2, none⟩ (.int .i64 y)).setCell ⟨w.heap.size + 1, 3, none⟩ (.bool o2)).setCell ⟨w.heap.size + 1, 4, none⟩ (.int .i64 n2)).setCell ⟨w.heap.size + 1, 5, none⟩ (.int .i64 d2)).setCell ⟨w.heap.size + 1, 6, none⟩ (.bool no)).alloc (.cells #[.int .i64 x, .int .i64 y] 28) = X
  have hXR : Bx (w.heap.size + 1) [.bool false, .int .i64 x, .int .i64 y, .bool o2, .int .i64 n2, .int .i64 d2, .bool no] X := by rw [← hX]; exact (((((HR.out).other (by omega) 0 _).other (by omega) 1 _).other (by omega) 2 _).set7 _ _ _ _ _ _ _).step (balloc _ _)
  have hXB : Below w.heap.size w X := by rw [← hX]; exact bstep (bset7 (bset (bset (bset (HB.out) (Nat.le_refl _) _) (Nat.le_refl _) _) (Nat.le_refl _) _) (Nat.le_succ _) _ _ _ _ _ _ _) (balloc _ _)
  obtain ⟨⟨x0, x1, x2, x3, x4, x5, x6⟩, _⟩ := hXR.all7
  exact bodyPost_ret (v := .agg #[.bool false, .int .i64 x, .int .i64 y, .bool o2, .int .i64 n2, .int .i64 d2, .bool no]) (by simp [results, Try.results34, go_sem, x0, x1, x2, x3, x4, x5, x6]) rfl ⟨rfl, hXB⟩

set_option maxHeartbeats 1600000 in
theorem above_u1 (o2 no : Bool) (n d n2 d2 : Int) (a b : Int) (w : World) (hs : Num.SmallP a b) (hb : 0 < b) (x y : Int) (hm : Num.mk (0 - a) b = (x, y, 0)) (hxy : Num.mayB y [x] = true) (bn : -1073741824 ≤ n ∧ n ≤ 1073741824) (bd : -1073741824 ≤ d ∧ d ≤ 1073741824) (hc : n * y < x * d) :
    Calls Try.prog 34 #[spanV ⟨false, n, d, o2, n2, d2, no⟩, .int .i64 a, .int .i64 b] w fun e w' => e = .returned (spanV (Num.aboveS ⟨false, n, d, o2, n2, d2, no⟩ a b)) ∧ Below w.heap.size w w' := by
  have HE : Hid (Num.aboveS ⟨false, n, d, o2, n2, d2, no⟩ a b = ⟨false, x, y, o2, n2, d2, no⟩) := by show _ = _; unfold Num.aboveS; rw [if_neg (by omega), if_pos hb, hm]; simp only; rw [if_pos (Or.inr hc)]
  rw [Int.zero_sub] at hm
  have HM : Hid (Num.mk (-a) b = (x, y, 0)) := hm
  clear hm
  have ha := hs.a62
  have hb' := hs.b62
  have hxb := Num.may_bd hxy
  clear hs hxy
  have e1 : (b == 0) = false := by simp; omega
  have e2 : decide (0 < b) = true := by simp; omega
  have e3 : decide (b < 0) = false := by simp; omega
  unfold spanV
  rw [HE.out]
  clear HE
  simp only
  go_enter Try.func34, Try.ntmps34
  go_wp2_with fail
  refine (of_any _ _ _ x y 0 HM.out).mono ?_
  rintro e w1 ⟨rfl, hb1⟩
  have hP : Bx w.heap.size [.bool false, .int .i64 n, .int .i64 d, .bool o2, .int .i64 n2, .int .i64 d2, .bool no] w1 := ((Bx.new rfl _ _).step (balloc _ _)).step hb1
  have hR : Bx (w.heap.size + 1) [.bool false, .int .i64 0, .int .i64 0, .bool false, .int .i64 0, .int .i64 0, .bool false] w1 := (Bx.new (by simp) _ _).step hb1
  have hB : Below w.heap.size w w1 := binto (binto hb1)
  clear hb1
  have HP : Hid _ := hP
  have HR : Hid _ := hR
  have HB : Hid _ := hB
  obtain ⟨⟨c0, c1, c2, c3, c4, c5, c6⟩, f0, f1, f2, f3, f4, f5, f6⟩ := hP.all7
  obtain ⟨⟨b0, b1, b2, b3, b4, b5, b6⟩, g0, g1, g2, g3, g4, g5, g6⟩ := hR.all7
  have hz : w.heap.size + 1 < w1.heap.size := hR.lt
  have hz0 : w.heap.size < w1.heap.size := hP.lt
  clear hP hR hB
  go_wp2_with fail
  refine (cmp_any (x) (y) (n) (d) _ (by omega) (by omega) bn bd).mono ?_
  rintro e w2 ⟨rfl, hb2⟩
  clear c0 c1 c2 c3 c4 c5 c6 f0 f1 f2 f3 f4 f5 f6 g0 g1 g2 g3 g4 g5 g6 b0 b1 b2 b3 b4 b5 b6 hz hz0
  have hP := (HP.out.step (balloc _ _)).step hb2
  have hR := (HR.out.step (balloc _ _)).step hb2
  have hT : Bx w1.heap.size [.int .i64 x, .int .i64 y] w2 := (Bx.new rfl _ _).step hb2
  have hB := bstep (bstep HB.out (balloc _ _)) hb2
  clear hb2 HP HR HB
  have HP : Hid _ := hP
  have HR : Hid _ := hR
  have HB : Hid _ := hB
  obtain ⟨⟨c0, c1, c2, c3, c4, c5, c6⟩, f0, f1, f2, f3, f4, f5, f6⟩ := hP.all7
  obtain ⟨⟨b0, b1, b2, b3, b4, b5, b6⟩, g0, g1, g2, g3, g4, g5, g6⟩ := hR.all7
  have hz : w.heap.size + 1 < w2.heap.size := hR.lt
  have hz0 : w.heap.size < w2.heap.size := hP.lt
  clear hP hR hB
  obtain ⟨t0, t1, _, _⟩ := hT.all2
  clear hT
  have hq0 : 0 < (x * d - n * y) := by omega
  generalize x * d - n * y = q at hq0 ⊢
  have hq : decide (0 < q) = true := by simpa using hq0
  clear hc hq0
  go_wp2_with fail
  generalize hX : ((((((((((w2).setCell ⟨w.heap.size, 0, none⟩ (.bool false)).setCell ⟨w.heap.size, 1, none⟩ (.int .i64 x)).setCell ⟨w.heap.size, 2, none⟩ (.int .i64 y)).setCell ⟨w.heap.size + 1, 0, none⟩ (.bool false)).setCell ⟨w.heap.size + 1, 1, none⟩ (.int .i64 x)).setCell ⟨w.heap.size + 1, 2, none⟩ (.int .i64 y)).setCell ⟨w.heap.size + 1, 3, none⟩ (.bool o2)).setCell ⟨w.heap.size + 1, 4, none⟩ (.int .i64 n2)).setCell ⟨w.heap.size + 1, 5, none⟩ (.int .i64 d2)).setCell ⟨w.heap.size + 1, 6, none⟩ (.bool no) = X
  have hXR : Bx (w.heap.size + 1) [.bool false, .int .i64 x, .int .i64 y, .bool o2, .int .i64 n2, .int .i64 d2, .bool no] X := by rw [← hX]; exact ((((HR.out).other (by omega) 0 _).other (by omega) 1 _).other (by omega) 2 _).set7 _ _ _ _ _ _ _
  have hXB : Below w.heap.size w X := by rw [← hX]; exact bset7 (bset (bset (bset (HB.out) (Nat.le_refl _) _) (Nat.le_refl _) _) (Nat.le_refl _) _) (Nat.le_succ _) _ _ _ _ _ _ _
  obtain ⟨⟨x0, x1, x2, x3, x4, x5, x6⟩, _⟩ := hXR.all7
  exact bodyPost_ret (v := .agg #[.bool false, .int .i64 x, .int .i64 y, .bool o2, .int .i64 n2, .int .i64 d2, .bool no]) (by simp [results, Try.results34, go_sem, x0, x1, x2, x3, x4, x5, x6]) rfl ⟨rfl, hXB⟩

set_option maxHeartbeats 1600000 in
theorem above_u2 (o2 no : Bool) (n d n2 d2 : Int) (a b : Int) (w : World) (hs : Num.SmallP a b) (hb : 0 < b) (x y : Int) (hm : Num.mk (0 - a) b = (x, y, 0)) (hxy : Num.mayB y [x] = true) (bn : -1073741824 ≤ n ∧ n ≤ 1073741824) (bd : -1073741824 ≤ d ∧ d ≤ 1073741824) (hc : ¬ n * y < x * d) :
    Calls Try.prog 34 #[spanV ⟨false, n, d, o2, n2, d2, no⟩, .int .i64 a, .int .i64 b] w fun e w' => e = .returned (spanV (Num.aboveS ⟨false, n, d, o2, n2, d2, no⟩ a b)) ∧ Below w.heap.size w w' := by
  have HE : Hid (Num.aboveS ⟨false, n, d, o2, n2, d2, no⟩ a b = ⟨false, n, d, o2, n2, d2, no⟩) := by show _ = _; unfold Num.aboveS; rw [if_neg (by omega), if_pos hb, hm]; simp only; rw [if_neg (by rintro (h | h); cases h; exact hc h)]
  rw [Int.zero_sub] at hm
  have HM : Hid (Num.mk (-a) b = (x, y, 0)) := hm
  clear hm
  have ha := hs.a62
  have hb' := hs.b62
  have hxb := Num.may_bd hxy
  clear hs hxy
  have e1 : (b == 0) = false := by simp; omega
  have e2 : decide (0 < b) = true := by simp; omega
  have e3 : decide (b < 0) = false := by simp; omega
  unfold spanV
  rw [HE.out]
  clear HE
  simp only
  go_enter Try.func34, Try.ntmps34
  go_wp2_with fail
  refine (of_any _ _ _ x y 0 HM.out).mono ?_
  rintro e w1 ⟨rfl, hb1⟩
  have hP : Bx w.heap.size [.bool false, .int .i64 n, .int .i64 d, .bool o2, .int .i64 n2, .int .i64 d2, .bool no] w1 := ((Bx.new rfl _ _).step (balloc _ _)).step hb1
  have hR : Bx (w.heap.size + 1) [.bool false, .int .i64 0, .int .i64 0, .bool false, .int .i64 0, .int .i64 0, .bool false] w1 := (Bx.new (by simp) _ _).step hb1
  have hB : Below w.heap.size w w1 := binto (binto hb1)
  clear hb1
  have HP : Hid _ := hP
  have HR : Hid _ := hR
  have HB : Hid _ := hB
  obtain ⟨⟨c0, c1, c2, c3, c4, c5, c6⟩, f0, f1, f2, f3, f4, f5, f6⟩ := hP.all7
  obtain ⟨⟨b0, b1, b2, b3, b4, b5, b6⟩, g0, g1, g2, g3, g4, g5, g6⟩ := hR.all7
  have hz : w.heap.size + 1 < w1.heap.size := hR.lt
  have hz0 : w.heap.size < w1.heap.size := hP.lt
  clear hP hR hB
  go_wp2_with fail
  refine (cmp_any (x) (y) (n) (d) _ (by omega) (by omega) bn bd).mono ?_
  rintro e w2 ⟨rfl, hb2⟩
  clear c0 c1 c2 c3 c4 c5 c6 f0 f1 f2 f3 f4 f5 f6 g0 g1 g2 g3 g4 g5 g6 b0 b1 b2 b3 b4 b5 b6 hz hz0
  have hP := (HP.out.step (balloc _ _)).step hb2
  have hR := (HR.out.step (balloc _ _)).step hb2
  have hT : Bx w1.heap.size [.int .i64 x, .int .i64 y] w2 := (Bx.new rfl _ _).step hb2
  have hB := bstep (bstep HB.out (balloc _ _)) hb2
  clear hb2 HP HR HB
  have HP : Hid _ := hP
  have HR : Hid _ := hR
  have HB : Hid _ := hB
  obtain ⟨⟨c0, c1, c2, c3, c4, c5, c6⟩, f0, f1, f2, f3, f4, f5, f6⟩ := hP.all7
  obtain ⟨⟨b0, b1, b2, b3, b4, b5, b6⟩, g0, g1, g2, g3, g4, g5, g6⟩ := hR.all7
  have hz : w.heap.size + 1 < w2.heap.size := hR.lt
  have hz0 : w.heap.size < w2.heap.size := hP.lt
  clear hP hR hB
  obtain ⟨t0, t1, _, _⟩ := hT.all2
  clear hT
  have hq0 : ¬ 0 < (x * d - n * y) := by omega
  generalize x * d - n * y = q at hq0 ⊢
  have hq : decide (0 < q) = false := by simpa using hq0
  clear hc hq0
  go_wp2_with fail
  generalize hX : (((((((w2).setCell ⟨w.heap.size + 1, 0, none⟩ (.bool false)).setCell ⟨w.heap.size + 1, 1, none⟩ (.int .i64 n)).setCell ⟨w.heap.size + 1, 2, none⟩ (.int .i64 d)).setCell ⟨w.heap.size + 1, 3, none⟩ (.bool o2)).setCell ⟨w.heap.size + 1, 4, none⟩ (.int .i64 n2)).setCell ⟨w.heap.size + 1, 5, none⟩ (.int .i64 d2)).setCell ⟨w.heap.size + 1, 6, none⟩ (.bool no) = X
  have hXR : Bx (w.heap.size + 1) [.bool false, .int .i64 n, .int .i64 d, .bool o2, .int .i64 n2, .int .i64 d2, .bool no] X := by rw [← hX]; exact (HR.out).set7 _ _ _ _ _ _ _
  have hXB : Below w.heap.size w X := by rw [← hX]; exact bset7 (HB.out) (Nat.le_succ _) _ _ _ _ _ _ _
  obtain ⟨⟨x0, x1, x2, x3, x4, x5, x6⟩, _⟩ := hXR.all7
  exact bodyPost_ret (v := .agg #[.bool false, .int .i64 n, .int .i64 d, .bool o2, .int .i64 n2, .int .i64 d2, .bool no]) (by simp [results, Try.results34, go_sem, x0, x1, x2, x3, x4, x5, x6]) rfl ⟨rfl, hXB⟩

set_option maxHeartbeats 1600000 in
theorem above_d0 (o no : Bool) (n d n2 d2 : Int) (a b : Int) (w : World) (hs : Num.SmallP a b) (hb : b < 0) (x y : Int) (hm : Num.mk (0 - a) b = (x, y, 0)) (hxy : Num.mayB y [x] = true) :
    Calls Try.prog 34 #[spanV ⟨o, n, d, true, n2, d2, no⟩, .int .i64 a, .int .i64 b] w fun e w' => e = .returned (spanV (Num.aboveS ⟨o, n, d, true, n2, d2, no⟩ a b)) ∧ Below w.heap.size w w' := by
  have HE : Hid (Num.aboveS ⟨o, n, d, true, n2, d2, no⟩ a b = ⟨o, n, d, false, x, y, no⟩) := by show _ = _; unfold Num.aboveS; rw [if_neg (by omega), if_neg (by omega), hm]; simp
  rw [Int.zero_sub] at hm
  have HM : Hid (Num.mk (-a) b = (x, y, 0)) := hm
  clear hm
  have ha := hs.a62
  have hb' := hs.b62
  have hxb := Num.may_bd hxy
  clear hs hxy
  have e1 : (b == 0) = false := by simp; omega
  have e2 : decide (0 < b) = false := by simp; omega
  have e3 : decide (b < 0) = true := by simp; omega
  unfold spanV
  rw [HE.out]
  clear HE
  simp only
  go_enter Try.func34, Try.ntmps34
  go_wp2_with fail
  refine (of_any _ _ _ x y 0 HM.out).mono ?_
  rintro e w1 ⟨rfl, hb1⟩
  have hP : Bx w.heap.size [.bool o, .int .i64 n, .int .i64 d, .bool true, .int .i64 n2, .int .i64 d2, .bool no] w1 := ((Bx.new rfl _ _).step (balloc _ _)).step hb1
  have hR : Bx (w.heap.size + 1) [.bool false, .int .i64 0, .int .i64 0, .bool false, .int .i64 0, .int .i64 0, .bool false] w1 := (Bx.new (by simp) _ _).step hb1
  have hB : Below w.heap.size w w1 := binto (binto hb1)
  clear hb1
  have HP : Hid _ := hP
  have HR : Hid _ := hR
  have HB : Hid _ := hB
  obtain ⟨⟨c0, c1, c2, c3, c4, c5, c6⟩, f0, f1, f2, f3, f4, f5, f6⟩ := hP.all7
  obtain ⟨⟨b0, b1, b2, b3, b4, b5, b6⟩, g0, g1, g2, g3, g4, g5, g6⟩ := hR.all7
  have hz : w.heap.size + 1 < w1.heap.size := hR.lt
  have hz0 : w.heap.size < w1.heap.size := hP.lt
  clear hP hR hB
  go_wp2_with fail
  generalize hX : (((((((((((w1).setCell ⟨w.heap.size, 3, none⟩ (.bool false)).setCell ⟨w.heap.size, 4, none⟩ (.int .i64 x)).setCell ⟨w.heap.size, 5, none⟩ (.int .i64 y)).setCell ⟨w.heap.size + 1, 0, none⟩ (.bool o)).setCell ⟨w.heap.size + 1, 1, none⟩ (.int .i64 n)).setCell ⟨w.heap.size + 1, 2, none⟩ (.int .i64 d)).setCell ⟨w.heap.size + 1, 3, none⟩ (.bool false)).setCell ⟨w.heap.size + 1, 4, none⟩ (.int .i64 x)).setCell ⟨w.heap.size + 1, 5, none⟩ (.int .i64 y)).setCell ⟨w.heap.size + 1, 6, none⟩ (.bool no)).alloc (.cells #[.int .i64 x, .int .i64 y] 28) = X
  have hXR : Bx (w.heap.size + 1) [.bool o, .int .i64 n, .int .i64 d, .bool false, .int .i64 x, .int .i64 y, .bool no] X := by rw [← hX]; exact (((((HR.out).other (by omega) 3 _).other (by omega) 4 _).other (by omega) 5 _).set7 _ _ _ _ _ _ _).step (balloc _ _)
  have hXB : Below w.heap.size w X := by rw [← hX]; exact bstep (bset7 (bset (bset (bset (HB.out) (Nat.le_refl _) _) (Nat.le_refl _) _) (Nat.le_refl _) _) (Nat.le_succ _) _ _ _ _ _ _ _) (balloc _ _)
  obtain ⟨⟨x0, x1, x2, x3, x4, x5, x6⟩, _⟩ := hXR.all7
  exact bodyPost_ret (v := .agg #[.bool o, .int .i64 n, .int .i64 d, .bool false, .int .i64 x, .int .i64 y, .bool no]) (by simp [results, Try.results34, go_sem, x0, x1, x2, x3, x4, x5, x6]) rfl ⟨rfl, hXB⟩

set_option maxHeartbeats 1600000 in
theorem above_d1 (o no : Bool) (n d n2 d2 : Int) (a b : Int) (w : World) (hs : Num.SmallP a b) (hb : b < 0) (x y : Int) (hm : Num.mk (0 - a) b = (x, y, 0)) (hxy : Num.mayB y [x] = true) (bn : -1073741824 ≤ n2 ∧ n2 ≤ 1073741824) (bd : -1073741824 ≤ d2 ∧ d2 ≤ 1073741824) (hc : x * d2 < n2 * y) :
    Calls Try.prog 34 #[spanV ⟨o, n, d, false, n2, d2, no⟩, .int .i64 a, .int .i64 b] w fun e w' => e = .returned (spanV (Num.aboveS ⟨o, n, d, false, n2, d2, no⟩ a b)) ∧ Below w.heap.size w w' := by
  have HE : Hid (Num.aboveS ⟨o, n, d, false, n2, d2, no⟩ a b = ⟨o, n, d, false, x, y, no⟩) := by show _ = _; unfold Num.aboveS; rw [if_neg (by omega), if_neg (by omega), hm]; simp only; rw [if_pos (Or.inr hc)]
  rw [Int.zero_sub] at hm
  have HM : Hid (Num.mk (-a) b = (x, y, 0)) := hm
  clear hm
  have ha := hs.a62
  have hb' := hs.b62
  have hxb := Num.may_bd hxy
  clear hs hxy
  have e1 : (b == 0) = false := by simp; omega
  have e2 : decide (0 < b) = false := by simp; omega
  have e3 : decide (b < 0) = true := by simp; omega
  unfold spanV
  rw [HE.out]
  clear HE
  simp only
  go_enter Try.func34, Try.ntmps34
  go_wp2_with fail
  refine (of_any _ _ _ x y 0 HM.out).mono ?_
  rintro e w1 ⟨rfl, hb1⟩
  have hP : Bx w.heap.size [.bool o, .int .i64 n, .int .i64 d, .bool false, .int .i64 n2, .int .i64 d2, .bool no] w1 := ((Bx.new rfl _ _).step (balloc _ _)).step hb1
  have hR : Bx (w.heap.size + 1) [.bool false, .int .i64 0, .int .i64 0, .bool false, .int .i64 0, .int .i64 0, .bool false] w1 := (Bx.new (by simp) _ _).step hb1
  have hB : Below w.heap.size w w1 := binto (binto hb1)
  clear hb1
  have HP : Hid _ := hP
  have HR : Hid _ := hR
  have HB : Hid _ := hB
  obtain ⟨⟨c0, c1, c2, c3, c4, c5, c6⟩, f0, f1, f2, f3, f4, f5, f6⟩ := hP.all7
  obtain ⟨⟨b0, b1, b2, b3, b4, b5, b6⟩, g0, g1, g2, g3, g4, g5, g6⟩ := hR.all7
  have hz : w.heap.size + 1 < w1.heap.size := hR.lt
  have hz0 : w.heap.size < w1.heap.size := hP.lt
  clear hP hR hB
  go_wp2_with fail
  refine (cmp_any (x) (y) (n2) (d2) _ (by omega) (by omega) bn bd).mono ?_
  rintro e w2 ⟨rfl, hb2⟩
  clear c0 c1 c2 c3 c4 c5 c6 f0 f1 f2 f3 f4 f5 f6 g0 g1 g2 g3 g4 g5 g6 b0 b1 b2 b3 b4 b5 b6 hz hz0
  have hP := (HP.out.step (balloc _ _)).step hb2
  have hR := (HR.out.step (balloc _ _)).step hb2
  have hT : Bx w1.heap.size [.int .i64 x, .int .i64 y] w2 := (Bx.new rfl _ _).step hb2
  have hB := bstep (bstep HB.out (balloc _ _)) hb2
  clear hb2 HP HR HB
  have HP : Hid _ := hP
  have HR : Hid _ := hR
  have HB : Hid _ := hB
  obtain ⟨⟨c0, c1, c2, c3, c4, c5, c6⟩, f0, f1, f2, f3, f4, f5, f6⟩ := hP.all7
  obtain ⟨⟨b0, b1, b2, b3, b4, b5, b6⟩, g0, g1, g2, g3, g4, g5, g6⟩ := hR.all7
  have hz : w.heap.size + 1 < w2.heap.size := hR.lt
  have hz0 : w.heap.size < w2.heap.size := hP.lt
  clear hP hR hB
  obtain ⟨t0, t1, _, _⟩ := hT.all2
  clear hT
  have hq0 : (x * d2 - n2 * y) < 0 := by omega
  generalize x * d2 - n2 * y = q at hq0 ⊢
  have hq : decide (q < 0) = true := by simpa using hq0
  clear hc hq0
  go_wp2_with fail
  generalize hX : ((((((((((w2).setCell ⟨w.heap.size, 3, none⟩ (.bool false)).setCell ⟨w.heap.size, 4, none⟩ (.int .i64 x)).setCell ⟨w.heap.size, 5, none⟩ (.int .i64 y)).setCell ⟨w.heap.size + 1, 0, none⟩ (.bool o)).setCell ⟨w.heap.size + 1, 1, none⟩ (.int .i64 n)).setCell ⟨w.heap.size + 1, 2, none⟩ (.int .i64 d)).setCell ⟨w.heap.size + 1, 3, none⟩ (.bool false)).setCell ⟨w.heap.size + 1, 4, none⟩ (.int .i64 x)).setCell ⟨w.heap.size + 1, 5, none⟩ (.int .i64 y)).setCell ⟨w.heap.size + 1, 6, none⟩ (.bool no) = X
  have hXR : Bx (w.heap.size + 1) [.bool o, .int .i64 n, .int .i64 d, .bool false, .int .i64 x, .int .i64 y, .bool no] X := by rw [← hX]; exact ((((HR.out).other (by omega) 3 _).other (by omega) 4 _).other (by omega) 5 _).set7 _ _ _ _ _ _ _
  have hXB : Below w.heap.size w X := by rw [← hX]; exact bset7 (bset (bset (bset (HB.out) (Nat.le_refl _) _) (Nat.le_refl _) _) (Nat.le_refl _) _) (Nat.le_succ _) _ _ _ _ _ _ _
  obtain ⟨⟨x0, x1, x2, x3, x4, x5, x6⟩, _⟩ := hXR.all7
  exact bodyPost_ret (v := .agg #[.bool o, .int .i64 n, .int .i64 d, .bool false, .int .i64 x, .int .i64 y, .bool no]) (by simp [results, Try.results34, go_sem, x0, x1, x2, x3, x4, x5, x6]) rfl ⟨rfl, hXB⟩

set_option maxHeartbeats 1600000 in
theorem above_d2 (o no : Bool) (n d n2 d2 : Int) (a b : Int) (w : World) (hs : Num.SmallP a b) (hb : b < 0) (x y : Int) (hm : Num.mk (0 - a) b = (x, y, 0)) (hxy : Num.mayB y [x] = true) (bn : -1073741824 ≤ n2 ∧ n2 ≤ 1073741824) (bd : -1073741824 ≤ d2 ∧ d2 ≤ 1073741824) (hc : ¬ x * d2 < n2 * y) :
    Calls Try.prog 34 #[spanV ⟨o, n, d, false, n2, d2, no⟩, .int .i64 a, .int .i64 b] w fun e w' => e = .returned (spanV (Num.aboveS ⟨o, n, d, false, n2, d2, no⟩ a b)) ∧ Below w.heap.size w w' := by
  have HE : Hid (Num.aboveS ⟨o, n, d, false, n2, d2, no⟩ a b = ⟨o, n, d, false, n2, d2, no⟩) := by show _ = _; unfold Num.aboveS; rw [if_neg (by omega), if_neg (by omega), hm]; simp only; rw [if_neg (by rintro (h | h); cases h; exact hc h)]
  rw [Int.zero_sub] at hm
  have HM : Hid (Num.mk (-a) b = (x, y, 0)) := hm
  clear hm
  have ha := hs.a62
  have hb' := hs.b62
  have hxb := Num.may_bd hxy
  clear hs hxy
  have e1 : (b == 0) = false := by simp; omega
  have e2 : decide (0 < b) = false := by simp; omega
  have e3 : decide (b < 0) = true := by simp; omega
  unfold spanV
  rw [HE.out]
  clear HE
  simp only
  go_enter Try.func34, Try.ntmps34
  go_wp2_with fail
  refine (of_any _ _ _ x y 0 HM.out).mono ?_
  rintro e w1 ⟨rfl, hb1⟩
  have hP : Bx w.heap.size [.bool o, .int .i64 n, .int .i64 d, .bool false, .int .i64 n2, .int .i64 d2, .bool no] w1 := ((Bx.new rfl _ _).step (balloc _ _)).step hb1
  have hR : Bx (w.heap.size + 1) [.bool false, .int .i64 0, .int .i64 0, .bool false, .int .i64 0, .int .i64 0, .bool false] w1 := (Bx.new (by simp) _ _).step hb1
  have hB : Below w.heap.size w w1 := binto (binto hb1)
  clear hb1
  have HP : Hid _ := hP
  have HR : Hid _ := hR
  have HB : Hid _ := hB
  obtain ⟨⟨c0, c1, c2, c3, c4, c5, c6⟩, f0, f1, f2, f3, f4, f5, f6⟩ := hP.all7
  obtain ⟨⟨b0, b1, b2, b3, b4, b5, b6⟩, g0, g1, g2, g3, g4, g5, g6⟩ := hR.all7
  have hz : w.heap.size + 1 < w1.heap.size := hR.lt
  have hz0 : w.heap.size < w1.heap.size := hP.lt
  clear hP hR hB
  go_wp2_with fail
  refine (cmp_any (x) (y) (n2) (d2) _ (by omega) (by omega) bn bd).mono ?_
  rintro e w2 ⟨rfl, hb2⟩
  clear c0 c1 c2 c3 c4 c5 c6 f0 f1 f2 f3 f4 f5 f6 g0 g1 g2 g3 g4 g5 g6 b0 b1 b2 b3 b4 b5 b6 hz hz0
  have hP := (HP.out.step (balloc _ _)).step hb2
  have hR := (HR.out.step (balloc _ _)).step hb2
  have hT : Bx w1.heap.size [.int .i64 x, .int .i64 y] w2 := (Bx.new rfl _ _).step hb2
  have hB := bstep (bstep HB.out (balloc _ _)) hb2
  clear hb2 HP HR HB
  have HP : Hid _ := hP
  have HR : Hid _ := hR
  have HB : Hid _ := hB
  obtain ⟨⟨c0, c1, c2, c3, c4, c5, c6⟩, f0, f1, f2, f3, f4, f5, f6⟩ := hP.all7
  obtain ⟨⟨b0, b1, b2, b3, b4, b5, b6⟩, g0, g1, g2, g3, g4, g5, g6⟩ := hR.all7
  have hz : w.heap.size + 1 < w2.heap.size := hR.lt
  have hz0 : w.heap.size < w2.heap.size := hP.lt
  clear hP hR hB
  obtain ⟨t0, t1, _, _⟩ := hT.all2
  clear hT
  have hq0 : ¬ (x * d2 - n2 * y) < 0 := by omega
  generalize x * d2 - n2 * y = q at hq0 ⊢
  have hq : decide (q < 0) = false := by simpa using hq0
  clear hc hq0
  go_wp2_with fail
  generalize hX : (((((((w2).setCell ⟨w.heap.size + 1, 0, none⟩ (.bool o)).setCell ⟨w.heap.size + 1, 1, none⟩ (.int .i64 n)).setCell ⟨w.heap.size + 1, 2, none⟩ (.int .i64 d)).setCell ⟨w.heap.size + 1, 3, none⟩ (.bool false)).setCell ⟨w.heap.size + 1, 4, none⟩ (.int .i64 n2)).setCell ⟨w.heap.size + 1, 5, none⟩ (.int .i64 d2)).setCell ⟨w.heap.size + 1, 6, none⟩ (.bool no) = X
  have hXR : Bx (w.heap.size + 1) [.bool o, .int .i64 n, .int .i64 d, .bool false, .int .i64 n2, .int .i64 d2, .bool no] X := by rw [← hX]; exact (HR.out).set7 _ _ _ _ _ _ _
  have hXB : Below w.heap.size w X := by rw [← hX]; exact bset7 (HB.out) (Nat.le_succ _) _ _ _ _ _ _ _
  obtain ⟨⟨x0, x1, x2, x3, x4, x5, x6⟩, _⟩ := hXR.all7
  exact bodyPost_ret (v := .agg #[.bool o, .int .i64 n, .int .i64 d, .bool false, .int .i64 n2, .int .i64 d2, .bool no]) (by simp [results, Try.results34, go_sem, x0, x1, x2, x3, x4, x5, x6]) rfl ⟨rfl, hXB⟩

theorem above7_any (s : Num.Spn) (a b : Int) (w : World) (hs : Num.SmallP a b) (h1 : -1073741824 ≤ s.n ∧ s.n ≤ 1073741824) (h2 : -1073741824 ≤ s.d ∧ s.d ≤ 1073741824) (h3 : -1073741824 ≤ s.n2 ∧ s.n2 ≤ 1073741824) (h4 : -1073741824 ≤ s.d2 ∧ s.d2 ≤ 1073741824) :
    Calls Try.prog 34 #[spanV s, .int .i64 a, .int .i64 b] w fun e w' => e = .returned (spanV (Num.aboveS s a b)) ∧ Below w.heap.size w w' := by
  by_cases hb : b = 0
  · subst hb; exact above_zero s a w
  obtain ⟨x, y, hm, _, hxy⟩ := Num.small_at0 a b hs hb
  obtain ⟨o, n, d, o2, n2, d2, no⟩ := s
  by_cases hp : 0 < b
  · cases o
    · by_cases hc : n * y < x * d
      · exact above_u1 o2 no n d n2 d2 a b w hs hp x y hm hxy h1 h2 hc
      · exact above_u2 o2 no n d n2 d2 a b w hs hp x y hm hxy h1 h2 hc
    · exact above_u0 o2 no n d n2 d2 a b w hs hp x y hm hxy
  · have hp' : b < 0 := by omega
    cases o2
    · by_cases hc : x * d2 < n2 * y
      · exact above_d1 o no n d n2 d2 a b w hs hp' x y hm hxy h3 h4 hc
      · exact above_d2 o no n d n2 d2 a b w hs hp' x y hm hxy h3 h4 hc
    · exact above_d0 o no n d n2 d2 a b w hs hp' x y hm hxy

end Go.Proofs.Ytloncgmgcnaalab
