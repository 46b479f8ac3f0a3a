/- What the document's whole, above, end and Small do (chapter 7). -/
import Derived.Test.YtipcbhodlgoflabPlnB
import Derived.Test.YtipcbhodlgoflabBxs
namespace Go.Proofs.Ytipcbhodlgoflab
open Go.RowKit

/-- A span, as the document's value. -/
def spanV (s : Num.Spn) : Value := .agg #[.bool s.o, .int .i64 s.n, .int .i64 s.d, .bool s.o2, .int .i64 s.n2, .int .i64 s.d2, .bool s.no]

set_option maxHeartbeats 400000 in
theorem whole_any (w : World) :
    Calls Try.prog 33 #[] w fun e w' => e = .returned (spanV Num.wholeS) ∧ Below w.heap.size w w' := by
  go_enter Try.func33, Try.ntmps33
  go_wp2_with fail
  exact bodyPost_ret (v := spanV Num.wholeS) (by simp [results, Try.results33, go_sem, spanV, Num.wholeS]) rfl ⟨rfl, balloc _ _⟩

set_option maxHeartbeats 800000 in
theorem above_zero (s : Num.Spn) (a : Int) (w : World) :
    Calls Try.prog 34 #[spanV s, .int .i64 a, .int .i64 0] w fun e w' => e = .returned (spanV (Num.aboveS s a 0)) ∧ Below w.heap.size w w' := by
  obtain ⟨o, n, d, o2, n2, d2, no⟩ := s
  have HE : Hid (Num.aboveS ⟨o, n, d, o2, n2, d2, no⟩ a 0 = ⟨o, n, d, o2, n2, d2, no || decide (a < 0)⟩) := by show _ = _; unfold Num.aboveS; rw [if_pos rfl]
  unfold spanV
  rw [HE.out]
  clear HE
  simp only
  cases no
  · go_enter Try.func34, Try.ntmps34
    go_wp2_with fail
    exact bodyPost_ret (v := .agg #[.bool o, .int .i64 n, .int .i64 d, .bool o2, .int .i64 n2, .int .i64 d2, .bool (decide (a < 0))]) (by simp [results, Try.results34, go_sem]) rfl ⟨by simp, bstep (balloc _ _) (balloc _ _)⟩
  · go_enter Try.func34, Try.ntmps34
    go_wp2_with fail
    exact bodyPost_ret (v := .agg #[.bool o, .int .i64 n, .int .i64 d, .bool o2, .int .i64 n2, .int .i64 d2, .bool true]) (by simp [results, Try.results34, go_sem]) rfl ⟨by simp, bstep (balloc _ _) (balloc _ _)⟩

theorem Num.may_bd {y x : Int} (h : Num.mayB y [x] = true) : (-1073741824 ≤ x ∧ x ≤ 1073741824) ∧ (1 ≤ y ∧ y ≤ 1073741824) := by
  have A := Num.mayB_bd _ _ h
  rw [Num.withinB_one] at A
  simp only [Bool.and_eq_true, decide_eq_true_eq] at A
  omega

set_option maxHeartbeats 1600000 in
theorem above_u0 (o2 no : Bool) (n d n2 d2 : Int) (a b : Int) (w : World) (hs : Num.SmallP a b) (hb : 0 < b) (x y : Int) (hm : Num.mk (0 - a) b = (x, y, 0)) (hxy : Num.mayB y [x] = true) :
    Calls Try.prog 34 #[spanV ⟨true, n, d, o2, n2, d2, no⟩, .int .i64 a, .int .i64 b] w fun e w' => e = .returned (spanV (Num.aboveS ⟨true, n, d, o2, n2, d2, no⟩ a b)) ∧ Below w.heap.size w w' := by
  have HE : Hid (Num.aboveS ⟨true, n, d, o2, n2, d2, no⟩ a b = ⟨false, x, y, o2, n2, d2, no⟩) := by show _ = _; unfold Num.aboveS; rw [if_neg (by omega), if_pos hb, hm]; simp
  rw [Int.zero_sub] at hm
  have HM : Hid (Num.mk (-a) b = (x, y, 0)) := hm
  clear hm
  have ha := hs.a62
  have hb' := hs.b62
  have hxb := Num.may_bd hxy
  clear hs hxy
  have e1 : (b == 0) = false := by simp; omega
  have e2 : decide (0 < b) = true := by simp; omega
  have e3 : decide (b < 0) = false := by simp; omega
  unfold spanV
  rw [HE.out]
  clear HE
  simp only
  go_enter Try.func34, Try.ntmps34
  go_wp2_with fail
  refine (of_any _ _ _ x y 0 HM.out).mono ?_
  rintro e w1 ⟨rfl, hb1⟩
  have hP : Bx w.heap.size [.bool true, .int .i64 n, .int .i64 d, .bool o2, .int .i64 n2, .int .i64 d2, .bool no] w1 := ((Bx.new rfl _ _).step (balloc _ _)).step hb1
  have hR : Bx (w.heap.size + 1) [.bool false, .int .i64 0, .int .i64 0, .bool false, .int .i64 0, .int .i64 0, .bool false] w1 := (Bx.new (by simp) _ _).step hb1
  have hB : Below w.heap.size w w1 := binto (binto hb1)
  clear hb1
  have HP : Hid _ := hP
  have HR : Hid _ := hR
  have HB : Hid _ := hB
  obtain ⟨⟨c0, c1, c2, c3, c4, c5, c6⟩, f0, f1, f2, f3, f4, f5, f6⟩ := hP.all7
  obtain ⟨⟨b0, b1, b2, b3, b4, b5, b6⟩, g0, g1, g2, g3, g4, g5, g6⟩ := hR.all7
  have hz : w.heap.size + 1 < w1.heap.size := hR.lt
  have hz0 : w.heap.size < w1.heap.size := hP.lt
  clear hP hR hB
  go_wp2_with fail
  generalize hX : (((((((((((w1).setCell ⟨w.heap.size, 0, none⟩ (.bool false)).setCell ⟨w.heap.size, 1, none⟩ (.int .i64 x)).setCell ⟨w.heap.size, 2, none⟩ (.int .i64 y)).setCell ⟨w.heap.size + 1, 0, none⟩ (.bool false)).setCell ⟨w.heap.size + 1, 1, none⟩ (.int .i64 x)).setCell ⟨w.heap.size + 1, 2, none⟩ (.int .i64 y)).setCell ⟨w.heap.size + 1, 3, none⟩ (.bool o2)).setCell ⟨w.heap.size + 1, 4, none⟩ (.int .i64 n2)).setCell ⟨w.heap.size + 1, 5, none⟩ (.int .i64 d2)).setCell ⟨w.heap.size + 1, 6, none⟩ (.bool no)).alloc (.cells #[.int .i64 x, .int .i64 y] 28) = X
  have hXR : Bx (w.heap.size + 1) [.bool false, .int .i64 x, .int .i64 y, .bool o2, .int .i64 n2, .int .i64 d2, .bool no] X := by rw [← hX]; exact (((((HR.out).other (by omega) 0 _).other (by omega) 1 _).other (by omega) 2 _).set7 _ _ _ _ _ _ _).step (balloc _ _)
  have hXB : Below w.heap.size w X := by rw [← hX]; exact bstep (bset7 (bset (bset (bset (HB.out) (Nat.le_refl _) _) (Nat.le_refl _) _) (Nat.le_refl _) _) (Nat.le_succ _) _ _ _ _ _ _ _) (balloc _ _)
  obtain ⟨⟨x0, x1, x2, x3, x4, x5, x6⟩, _⟩ := hXR.all7
  exact bodyPost_ret (v := .agg #[.bool false, .int .i64 x, .int .i64 y, .bool o2, .int .i64 n2, .int .i64 d2, .bool no]) (by simp [results, Try.results34, go_sem, x0, x1, x2, x3, x4, x5, x6]) rfl ⟨rfl, hXB⟩

set_option maxHeartbeats 1600000 in
theorem above_u1 (o2 no : Bool) (n d n2 d2 : Int) (a b : Int) (w : World) (hs : Num.SmallP a b) (hb : 0 < b) (x y : Int) (hm : Num.mk (0 - a) b = (x, y, 0)) (hxy : Num.mayB y [x] = true) (bn : -1073741824 ≤ n ∧ n ≤ 1073741824) (bd : -1073741824 ≤ d ∧ d ≤ 1073741824) (hc : n * y < x * d) :
    Calls Try.prog 34 #[spanV ⟨false, n, d, o2, n2, d2, no⟩, .int .i64 a, .int .i64 b] w fun e w' => e = .returned (spanV (Num.aboveS ⟨false, n, d, o2, n2, d2, no⟩ a b)) ∧ Below w.heap.size w w' := by
  have HE : Hid (Num.aboveS ⟨false, n, d, o2, n2, d2, no⟩ a b = ⟨false, x, y, o2, n2, d2, no⟩) := by show _ = _; unfold Num.aboveS; rw [if_neg (by omega), if_pos hb, hm]; simp only; rw [if_pos (Or.inr hc)]
  rw [Int.zero_sub] at hm
  have HM : Hid (Num.mk (-a) b = (x, y, 0)) := hm
  clear hm
  have ha := hs.a62
  have hb' := hs.b62
  have hxb := Num.may_bd hxy
  clear hs hxy
  have e1 : (b == 0) = false := by simp; omega
  have e2 : decide (0 < b) = true := by simp; omega
  have e3 : decide (b < 0) = false := by simp; omega
  unfold spanV
  rw [HE.out]
  clear HE
  simp only
  go_enter Try.func34, Try.ntmps34
  go_wp2_with fail
  refine (of_any _ _ _ x y 0 HM.out).mono ?_
  rintro e w1 ⟨rfl, hb1⟩
  have hP : Bx w.heap.size [.bool false, .int .i64 n, .int .i64 d, .bool o2, .int .i64 n2, .int .i64 d2, .bool no] w1 := ((Bx.new rfl _ _).step (balloc _ _)).step hb1
  have hR : Bx (w.heap.size + 1) [.bool false, .int .i64 0, .int .i64 0, .bool false, .int .i64 0, .int .i64 0, .bool false] w1 := (Bx.new (by simp) _ _).step hb1
  have hB : Below w.heap.size w w1 := binto (binto hb1)
  clear hb1
  have HP : Hid _ := hP
  have HR : Hid _ := hR
  have HB : Hid _ := hB
  obtain ⟨⟨c0, c1, c2, c3, c4, c5, c6⟩, f0, f1, f2, f3, f4, f5, f6⟩ := hP.all7
  obtain ⟨⟨b0, b1, b2, b3, b4, b5, b6⟩, g0, g1, g2, g3, g4, g5, g6⟩ := hR.all7
  have hz : w.heap.size + 1 < w1.heap.size := hR.lt
  have hz0 : w.heap.size < w1.heap.size := hP.lt
  clear hP hR hB
  go_wp2_with fail
  refine (cmp_any (x) (y) (n) (d) _ (by omega) (by omega) bn bd).mono ?_
  rintro e w2 ⟨rfl, hb2⟩
  clear c0 c1 c2 c3 c4 c5 c6 f0 f1 f2 f3 f4 f5 f6 g0 g1 g2 g3 g4 g5 g6 b0 b1 b2 b3 b4 b5 b6 hz hz0
  have hP := (HP.out.step (balloc _ _)).step hb2
  have hR := (HR.out.step (balloc _ _)).step hb2
  have hT : Bx w1.heap.size [.int .i64 x, .int .i64 y] w2 := (Bx.new rfl _ _).step hb2
  have hB := bstep (bstep HB.out (balloc _ _)) hb2
  clear hb2 HP HR HB
  have HP : Hid _ := hP
  have HR : Hid _ := hR
  have HB : Hid _ := hB
  obtain ⟨⟨c0, c1, c2, c3, c4, c5, c6⟩, f0, f1, f2, f3, f4, f5, f6⟩ := hP.all7
  obtain ⟨⟨b0, b1, b2, b3, b4, b5, b6⟩, g0, g1, g2, g3, g4, g5, g6⟩ := hR.all7
  have hz : w.heap.size + 1 < w2.heap.size := hR.lt
  have hz0 : w.heap.size < w2.heap.size := hP.lt
  clear hP hR hB
  obtain ⟨t0, t1, _, _⟩ := hT.all2
  clear hT
  have hq0 : 0 < (x * d - n * y) := by omega
  generalize x * d - n * y = q at hq0 ⊢
  have hq : decide (0 < q) = true := by simpa using hq0
  clear hc hq0
  go_wp2_with fail
  generalize hX : ((((((((((w2).setCell ⟨w.heap.size, 0, none⟩ (.bool false)).setCell ⟨w.heap.size, 1, none⟩ (.int .i64 x)).setCell ⟨w.heap.size, 2, none⟩ (.int .i64 y)).setCell ⟨w.heap.size + 1, 0, none⟩ (.bool false)).setCell ⟨w.heap.size + 1, 1, none⟩ (.int .i64 x)).setCell ⟨w.heap.size + 1, 2, none⟩ (.int .i64 y)).setCell ⟨w.heap.size + 1, 3, none⟩ (.bool o2)).setCell ⟨w.heap.size + 1, 4, none⟩ (.int .i64 n2)).setCell ⟨w.heap.size + 1, 5, none⟩ (.int .i64 d2)).setCell ⟨w.heap.size + 1, 6, none⟩ (.bool no) = X
  have hXR : Bx (w.heap.size + 1) [.bool false, .int .i64 x, .int .i64 y, .bool o2, .int .i64 n2, .int .i64 d2, .bool no] X := by rw [← hX]; exact ((((HR.out).other (by omega) 0 _).other (by omega) 1 _).other (by omega) 2 _).set7 _ _ _ _ _ _ _
  have hXB : Below w.heap.size w X := by rw [← hX]; exact bset7 (bset (bset (bset (HB.out) (Nat.le_refl _) _) (Nat.le_refl _) _) (Nat.le_refl _) _) (Nat.le_succ _) _ _ _ _ _ _ _
  obtain ⟨⟨x0, x1, x2, x3, x4, x5, x6⟩, _⟩ := hXR.all7
  exact bodyPost_ret (v := .agg #[.bool false, .int .i64 x, .int .i64 y, .bool o2, .int .i64 n2, .int .i64 d2, .bool no]) (by simp [results, Try.results34, go_sem, x0, x1, x2, x3, x4, x5, x6]) rfl ⟨rfl, hXB⟩

set_option maxHeartbeats 1600000 in
theorem above_u2 (o2 no : Bool) (n d n2 d2 : Int) (a b : Int) (w : World) (hs : Num.SmallP a b) (hb : 0 < b) (x y : Int) (hm : Num.mk (0 - a) b = (x, y, 0)) (hxy : Num.mayB y [x] = true) (bn : -1073741824 ≤ n ∧ n ≤ 1073741824) (bd : -1073741824 ≤ d ∧ d ≤ 1073741824) (hc : ¬ n * y < x * d) :
    Calls Try.prog 34 #[spanV ⟨false, n, d, o2, n2, d2, no⟩, .int .i64 a, .int .i64 b] w fun e w' => e = .returned (spanV (Num.aboveS ⟨false, n, d, o2, n2, d2, no⟩ a b)) ∧ Below w.heap.size w w' := by
  have HE : Hid (Num.aboveS ⟨false, n, d, o2, n2, d2, no⟩ a b = ⟨false, n, d, o2, n2, d2, no⟩) := by show _ = _; unfold Num.aboveS; rw [if_neg (by omega), if_pos hb, hm]; simp only; rw [if_neg (by rintro (h | h); cases h; exact hc h)]
  rw [Int.zero_sub] at hm
  have HM : Hid (Num.mk (-a) b = (x, y, 0)) := hm
  clear hm
  have ha := hs.a62
  have hb' := hs.b62
  have hxb := Num.may_bd hxy
  clear hs hxy
  have e1 : (b == 0) = false := by simp; omega
  have e2 : decide (0 < b) = true := by simp; omega
  have e3 : decide (b < 0) = false := by simp; omega
  unfold spanV
  rw [HE.out]
  clear HE
  simp only
  go_enter Try.func34, Try.ntmps34
  go_wp2_with fail
  refine (of_any _ _ _ x y 0 HM.out).mono ?_
  rintro e w1 ⟨rfl, hb1⟩
  have hP : Bx w.heap.size [.bool false, .int .i64 n, .int .i64 d, .bool o2, .int .i64 n2, .int .i64 d2, .bool no] w1 := ((Bx.new rfl _ _).step (balloc _ _)).step hb1
  have hR : Bx (w.heap.size + 1) [.bool false, .int .i64 0, .int .i64 0, .bool false, .int .i64 0, .int .i64 0, .bool false] w1 := (Bx.new (by simp) _ _).step hb1
  have hB : Below w.heap.size w w1 := binto (binto hb1)
  clear hb1
  have HP : Hid _ := hP
  have HR : Hid _ := hR
  have HB : Hid _ := hB
  obtain ⟨⟨c0, c1, c2, c3, c4, c5, c6⟩, f0, f1, f2, f3, f4, f5, f6⟩ := hP.all7
  obtain ⟨⟨b0, b1, b2, b3, b4, b5, b6⟩, g0, g1, g2, g3, g4, g5, g6⟩ := hR.all7
  have hz : w.heap.size + 1 < w1.heap.size := hR.lt
  have hz0 : w.heap.size < w1.heap.size := hP.lt
  clear hP hR hB
  go_wp2_with fail
  refine (cmp_any (x) (y) (n) (d) _ (by omega) (by omega) bn bd).mono ?_
  rintro e w2 ⟨rfl, hb2⟩
  clear c0 c1 c2 c3 c4 c5 c6 f0 f1 f2 f3 f4 f5 f6 g0 g1 g2 g3 g4 g5 g6 b0 b1 b2 b3 b4 b5 b6 hz hz0
  have hP := (HP.out.step (balloc _ _)).step hb2
  have hR := (HR.out.step (balloc _ _)).step hb2
  have hT : Bx w1.heap.size [.int .i64 x, .int .i64 y] w2 := (Bx.new rfl _ _).step hb2
  have hB := bstep (bstep HB.out (balloc _ _)) hb2
  clear hb2 HP HR HB
  have HP : Hid _ := hP
  have HR : Hid _ := hR
  have HB : Hid _ := hB
  obtain ⟨⟨c0, c1, c2, c3, c4, c5, c6⟩, f0, f1, f2, f3, f4, f5, f6⟩ := hP.all7
  obtain ⟨⟨b0, b1, b2, b3, b4, b5, b6⟩, g0, g1, g2, g3, g4, g5, g6⟩ := hR.all7
  have hz : w.heap.size + 1 < w2.heap.size := hR.lt
  have hz0 : w.heap.size < w2.heap.size := hP.lt
  clear hP hR hB
  obtain ⟨t0, t1, _, _⟩ := hT.all2
  clear hT
  have hq0 : ¬ 0 < (x * d - n * y) := by omega
  generalize x * d - n * y = q at hq0 ⊢
  have hq : decide (0 < q) = false := by simpa using hq0
  clear hc hq0
  go_wp2_with fail
  generalize hX : (((((((w2).setCell ⟨w.heap.size + 1, 0, none⟩ (.bool false)).setCell ⟨w.heap.size + 1, 1, none⟩ (.int .i64 n)).setCell ⟨w.heap.size + 1, 2, none⟩ (.int .i64 d)).setCell ⟨w.heap.size + 1, 3, none⟩ (.bool o2)).setCell ⟨w.heap.size + 1, 4, none⟩ (.int .i64 n2)).setCell ⟨w.heap.size + 1, 5, none⟩ (.int .i64 d2)).setCell ⟨w.heap.size + 1, 6, none⟩ (.bool no) = X
  have hXR : Bx (w.heap.size + 1) [.bool false, .int .i64 n, .int .i64 d, .bool o2, .int .i64 n2, .int .i64 d2, .bool no] X := by rw [← hX]; exact (HR.out).set7 _ _ _ _ _ _ _
  have hXB : Below w.heap.size w X := by rw [← hX]; exact bset7 (HB.out) (Nat.le_succ _) _ _ _ _ _ _ _
  obtain ⟨⟨x0, x1, x2, x3, x4, x5, x6⟩, _⟩ := hXR.all7
  exact bodyPost_ret (v := .agg #[.bool false, .int .i64 n, .int .i64 d, .bool o2, .int .i64 n2, .int .i64 d2, .bool no]) (by simp [results, Try.results34, go_sem, x0, x1, x2, x3, x4, x5, x6]) rfl ⟨rfl, hXB⟩

set_option maxHeartbeats 1600000 in
theorem above_d0 (o no : Bool) (n d n2 d2 : Int) (a b : Int) (w : World) (hs : Num.SmallP a b) (hb : b < 0) (x y : Int) (hm : Num.mk (0 - a) b = (x, y, 0)) (hxy : Num.mayB y [x] = true) :
    Calls Try.prog 34 #[spanV ⟨o, n, d, true, n2, d2, no⟩, .int .i64 a, .int .i64 b] w fun e w' => e = .returned (spanV (Num.aboveS ⟨o, n, d, true, n2, d2, no⟩ a b)) ∧ Below w.heap.size w w' := by
  have HE : Hid (Num.aboveS ⟨o, n, d, true, n2, d2, no⟩ a b = ⟨o, n, d, false, x, y, no⟩) := by show _ = _; unfold Num.aboveS; rw [if_neg (by omega), if_neg (by omega), hm]; simp
  rw [Int.zero_sub] at hm
  have HM : Hid (Num.mk (-a) b = (x, y, 0)) := hm
  clear hm
  have ha := hs.a62
  have hb' := hs.b62
  have hxb := Num.may_bd hxy
  clear hs hxy
  have e1 : (b == 0) = false := by simp; omega
  have e2 : decide (0 < b) = false := by simp; omega
  have e3 : decide (b < 0) = true := by simp; omega
  unfold spanV
  rw [HE.out]
  clear HE
  simp only
  go_enter Try.func34, Try.ntmps34
  go_wp2_with fail
  refine (of_any _ _ _ x y 0 HM.out).mono ?_
  rintro e w1 ⟨rfl, hb1⟩
  have hP : Bx w.heap.size [.bool o, .int .i64 n, .int .i64 d, .bool true, .int .i64 n2, .int .i64 d2, .bool no] w1 := ((Bx.new rfl _ _).step (balloc _ _)).step hb1
  have hR : Bx (w.heap.size + 1) [.bool false, .int .i64 0, .int .i64 0, .bool false, .int .i64 0, .int .i64 0, .bool false] w1 := (Bx.new (by simp) _ _).step hb1
  have hB : Below w.heap.size w w1 := binto (binto hb1)
  clear hb1
  have HP : Hid _ := hP
  have HR : Hid _ := hR
  have HB : Hid _ := hB
  obtain ⟨⟨c0, c1, c2, c3, c4, c5, c6⟩, f0, f1, f2, f3, f4, f5, f6⟩ := hP.all7
  obtain ⟨⟨b0, b1, b2, b3, b4, b5, b6⟩, g0, g1, g2, g3, g4, g5, g6⟩ := hR.all7
  have hz : w.heap.size + 1 < w1.heap.size := hR.lt
  have hz0 : w.heap.size < w1.heap.size := hP.lt
  clear hP hR hB
  go_wp2_with fail
  generalize hX : (((((((((((w1).setCell ⟨w.heap.size, 3, none⟩ (.bool false)).setCell ⟨w.heap.size, 4, none⟩ (.int .i64 x)).setCell ⟨w.heap.size, 5, none⟩ (.int .i64 y)).setCell ⟨w.heap.size + 1, 0, none⟩ (.bool o)).setCell ⟨w.heap.size + 1, 1, none⟩ (.int .i64 n)).setCell ⟨w.heap.size + 1, 2, none⟩ (.int .i64 d)).setCell ⟨w.heap.size + 1, 3, none⟩ (.bool false)).setCell ⟨w.heap.size + 1, 4, none⟩ (.int .i64 x)).setCell ⟨w.heap.size + 1, 5, none⟩ (.int .i64 y)).setCell ⟨w.heap.size + 1, 6, none⟩ (.bool no)).alloc (.cells #[.int .i64 x, .int .i64 y] 28) = X
  have hXR : Bx (w.heap.size + 1) [.bool o, .int .i64 n, .int .i64 d, .bool false, .int .i64 x, .int .i64 y, .bool no] X := by rw [← hX]; exact (((((HR.out).other (by omega) 3 _).other (by omega) 4 _).other (by omega) 5 _).set7 _ _ _ _ _ _ _).step (balloc _ _)
  have hXB : Below w.heap.size w X := by rw [← hX]; exact bstep (bset7 (bset (bset (bset (HB.out) (Nat.le_refl _) _) (Nat.le_refl _) _) (Nat.le_refl _) _) (Nat.le_succ _) _ _ _ _ _ _ _) (balloc _ _)
  obtain ⟨⟨x0, x1, x2, x3, x4, x5, x6⟩, _⟩ := hXR.all7
  exact bodyPost_ret (v := .agg #[.bool o, .int .i64 n, .int .i64 d, .bool false, .int .i64 x, .int .i64 y, .bool no]) (by simp [results, Try.results34, go_sem, x0, x1, x2, x3, x4, x5, x6]) rfl ⟨rfl, hXB⟩

set_option maxHeartbeats 1600000 in
theorem above_d1 (o no : Bool) (n d n2 d2 : Int) (a b : Int) (w : World) (hs : Num.SmallP a b) (hb : b < 0) (x y : Int) (hm : Num.mk (0 - a) b = (x, y, 0)) (hxy : Num.mayB y [x] = true) (bn : -1073741824 ≤ n2 ∧ n2 ≤ 1073741824) (bd : -1073741824 ≤ d2 ∧ d2 ≤ 1073741824) (hc : x * d2 < n2 * y) :
    Calls Try.prog 34 #[spanV ⟨o, n, d, false, n2, d2, no⟩, .int .i64 a, .int .i64 b] w fun e w' => e = .returned (spanV (Num.aboveS ⟨o, n, d, false, n2, d2, no⟩ a b)) ∧ Below w.heap.size w w' := by
  have HE : Hid (Num.aboveS ⟨o, n, d, false, n2, d2, no⟩ a b = ⟨o, n, d, false, x, y, no⟩) := by show _ = _; unfold Num.aboveS; rw [if_neg (by omega), if_neg (by omega), hm]; simp only; rw [if_pos (Or.inr hc)]
  rw [Int.zero_sub] at hm
  have HM : Hid (Num.mk (-a) b = (x, y, 0)) := hm
  clear hm
  have ha := hs.a62
  have hb' := hs.b62
  have hxb := Num.may_bd hxy
  clear hs hxy
  have e1 : (b == 0) = false := by simp; omega
  have e2 : decide (0 < b) = false := by simp; omega
  have e3 : decide (b < 0) = true := by simp; omega
  unfold spanV
  rw [HE.out]
  clear HE
  simp only
  go_enter Try.func34, Try.ntmps34
  go_wp2_with fail
  refine (of_any _ _ _ x y 0 HM.out).mono ?_
  rintro e w1 ⟨rfl, hb1⟩
  have hP : Bx w.heap.size [.bool o, .int .i64 n, .int .i64 d, .bool false, .int .i64 n2, .int .i64 d2, .bool no] w1 := ((Bx.new rfl _ _).step (balloc _ _)).step hb1
  have hR : Bx (w.heap.size + 1) [.bool false, .int .i64 0, .int .i64 0, .bool false, .int .i64 0, .int .i64 0, .bool false] w1 := (Bx.new (by simp) _ _).step hb1
  have hB : Below w.heap.size w w1 := binto (binto hb1)
  clear hb1
  have HP : Hid _ := hP
  have HR : Hid _ := hR
  have HB : Hid _ := hB
  obtain ⟨⟨c0, c1, c2, c3, c4, c5, c6⟩, f0, f1, f2, f3, f4, f5, f6⟩ := hP.all7
  obtain ⟨⟨b0, b1, b2, b3, b4, b5, b6⟩, g0, g1, g2, g3, g4, g5, g6⟩ := hR.all7
  have hz : w.heap.size + 1 < w1.heap.size := hR.lt
  have hz0 : w.heap.size < w1.heap.size := hP.lt
  clear hP hR hB
  go_wp2_with fail
  refine (cmp_any (x) (y) (n2) (d2) _ (by omega) (by omega) bn bd).mono ?_
  rintro e w2 ⟨rfl, hb2⟩
  clear c0 c1 c2 c3 c4 c5 c6 f0 f1 f2 f3 f4 f5 f6 g0 g1 g2 g3 g4 g5 g6 b0 b1 b2 b3 b4 b5 b6 hz hz0
  have hP := (HP.out.step (balloc _ _)).step hb2
  have hR := (HR.out.step (balloc _ _)).step hb2
  have hT : Bx w1.heap.size [.int .i64 x, .int .i64 y] w2 := (Bx.new rfl _ _).step hb2
  have hB := bstep (bstep HB.out (balloc _ _)) hb2
  clear hb2 HP HR HB
  have HP : Hid _ := hP
  have HR : Hid _ := hR
  have HB : Hid _ := hB
  obtain ⟨⟨c0, c1, c2, c3, c4, c5, c6⟩, f0, f1, f2, f3, f4, f5, f6⟩ := hP.all7
  obtain ⟨⟨b0, b1, b2, b3, b4, b5, b6⟩, g0, g1, g2, g3, g4, g5, g6⟩ := hR.all7
  have hz : w.heap.size + 1 < w2.heap.size := hR.lt
  have hz0 : w.heap.size < w2.heap.size := hP.lt
  clear hP hR hB
  obtain ⟨t0, t1, _, _⟩ := hT.all2
  clear hT
  have hq0 : (x * d2 - n2 * y) < 0 := by omega
  generalize x * d2 - n2 * y = q at hq0 ⊢
  have hq : decide (q < 0) = true := by simpa using hq0
  clear hc hq0
  go_wp2_with fail
  generalize hX : ((((((((((w2).setCell ⟨w.heap.size, 3, none⟩ (.bool false)).setCell ⟨w.heap.size, 4, none⟩ (.int .i64 x)).setCell ⟨w.heap.size, 5, none⟩ (.int .i64 y)).setCell ⟨w.heap.size + 1, 0, none⟩ (.bool o)).setCell ⟨w.heap.size + 1, 1, none⟩ (.int .i64 n)).setCell ⟨w.heap.size + 1, 2, none⟩ (.int .i64 d)).setCell ⟨w.heap.size + 1, 3, none⟩ (.bool false)).setCell ⟨w.heap.size + 1, 4, none⟩ (.int .i64 x)).setCell ⟨w.heap.size + 1, 5, none⟩ (.int .i64 y)).setCell ⟨w.heap.size + 1, 6, none⟩ (.bool no) = X
  have hXR : Bx (w.heap.size + 1) [.bool o, .int .i64 n, .int .i64 d, .bool false, .int .i64 x, .int .i64 y, .bool no] X := by rw [← hX]; exact ((((HR.out).other (by omega) 3 _).other (by omega) 4 _).other (by omega) 5 _).set7 _ _ _ _ _ _ _
  have hXB : Below w.heap.size w X := by rw [← hX]; exact bset7 (bset (bset (bset (HB.out) (Nat.le_refl _) _) (Nat.le_refl _) _) (Nat.le_refl _) _) (Nat.le_succ _) _ _ _ _ _ _ _
  obtain ⟨⟨x0, x1, x2, x3, x4, x5, x6⟩, _⟩ := hXR.all7
  exact bodyPost_ret (v := .agg #[.bool o, .int .i64 n, .int .i64 d, .bool false, .int .i64 x, .int .i64 y, .bool no]) (by simp [results, Try.results34, go_sem, x0, x1, x2, x3, x4, x5, x6]) rfl ⟨rfl, hXB⟩

set_option maxHeartbeats 1600000 in
theorem above_d2 (o no : Bool) (n d n2 d2 : Int) (a b : Int) (w : World) (hs : Num.SmallP a b) (hb : b < 0) (x y : Int) (hm : Num.mk (0 - a) b = (x, y, 0)) (hxy : Num.mayB y [x] = true) (bn : -1073741824 ≤ n2 ∧ n2 ≤ 1073741824) (bd : -1073741824 ≤ d2 ∧ d2 ≤ 1073741824) (hc : ¬ x * d2 < n2 * y) :
    Calls Try.prog 34 #[spanV ⟨o, n, d, false, n2, d2, no⟩, .int .i64 a, .int .i64 b] w fun e w' => e = .returned (spanV (Num.aboveS ⟨o, n, d, false, n2, d2, no⟩ a b)) ∧ Below w.heap.size w w' := by
  have HE : Hid (Num.aboveS ⟨o, n, d, false, n2, d2, no⟩ a b = ⟨o, n, d, false, n2, d2, no⟩) := by show _ = _; unfold Num.aboveS; rw [if_neg (by omega), if_neg (by omega), hm]; simp only; rw [if_neg (by rintro (h | h); cases h; exact hc h)]
  rw [Int.zero_sub] at hm
  have HM : Hid (Num.mk (-a) b = (x, y, 0)) := hm
  clear hm
  have ha := hs.a62
  have hb' := hs.b62
  have hxb := Num.may_bd hxy
  clear hs hxy
  have e1 : (b == 0) = false := by simp; omega
  have e2 : decide (0 < b) = false := by simp; omega
  have e3 : decide (b < 0) = true := by simp; omega
  unfold spanV
  rw [HE.out]
  clear HE
  simp only
  go_enter Try.func34, Try.ntmps34
  go_wp2_with fail
  refine (of_any _ _ _ x y 0 HM.out).mono ?_
  rintro e w1 ⟨rfl, hb1⟩
  have hP : Bx w.heap.size [.bool o, .int .i64 n, .int .i64 d, .bool false, .int .i64 n2, .int .i64 d2, .bool no] w1 := ((Bx.new rfl _ _).step (balloc _ _)).step hb1
  have hR : Bx (w.heap.size + 1) [.bool false, .int .i64 0, .int .i64 0, .bool false, .int .i64 0, .int .i64 0, .bool false] w1 := (Bx.new (by simp) _ _).step hb1
  have hB : Below w.heap.size w w1 := binto (binto hb1)
  clear hb1
  have HP : Hid _ := hP
  have HR : Hid _ := hR
  have HB : Hid _ := hB
  obtain ⟨⟨c0, c1, c2, c3, c4, c5, c6⟩, f0, f1, f2, f3, f4, f5, f6⟩ := hP.all7
  obtain ⟨⟨b0, b1, b2, b3, b4, b5, b6⟩, g0, g1, g2, g3, g4, g5, g6⟩ := hR.all7
  have hz : w.heap.size + 1 < w1.heap.size := hR.lt
  have hz0 : w.heap.size < w1.heap.size := hP.lt
  clear hP hR hB
  go_wp2_with fail
  refine (cmp_any (x) (y) (n2) (d2) _ (by omega) (by omega) bn bd).mono ?_
  rintro e w2 ⟨rfl, hb2⟩
  clear c0 c1 c2 c3 c4 c5 c6 f0 f1 f2 f3 f4 f5 f6 g0 g1 g2 g3 g4 g5 g6 b0 b1 b2 b3 b4 b5 b6 hz hz0
  have hP := (HP.out.step (balloc _ _)).step hb2
  have hR := (HR.out.step (balloc _ _)).step hb2
  have hT : Bx w1.heap.size [.int .i64 x, .int .i64 y] w2 := (Bx.new rfl _ _).step hb2
  have hB := bstep (bstep HB.out (balloc _ _)) hb2
  clear hb2 HP HR HB
  have HP : Hid _ := hP
  have HR : Hid _ := hR
  have HB : Hid _ := hB
  obtain ⟨⟨c0, c1, c2, c3, c4, c5, c6⟩, f0, f1, f2, f3, f4, f5, f6⟩ := hP.all7
  obtain ⟨⟨b0, b1, b2, b3, b4, b5, b6⟩, g0, g1, g2, g3, g4, g5, g6⟩ := hR.all7
  have hz : w.heap.size + 1 < w2.heap.size := hR.lt
  have hz0 : w.heap.size < w2.heap.size := hP.lt
  clear hP hR hB
  obtain ⟨t0, t1, _, _⟩ := hT.all2
  clear hT
  have hq0 : ¬ (x * d2 - n2 * y) < 0 := by omega
  generalize x * d2 - n2 * y = q at hq0 ⊢
  have hq : decide (q < 0) = false := by simpa using hq0
  clear hc hq0
  go_wp2_with fail
  generalize hX : (((((((w2).setCell ⟨w.heap.size + 1, 0, none⟩ (.bool o)).setCell ⟨w.heap.size + 1, 1, none⟩ (.int .i64 n)).setCell ⟨w.heap.size + 1, 2, none⟩ (.int .i64 d)).setCell ⟨w.heap.size + 1, 3, none⟩ (.bool false)).setCell ⟨w.heap.size + 1, 4, none⟩ (.int .i64 n2)).setCell ⟨w.heap.size + 1, 5, none⟩ (.int .i64 d2)).setCell ⟨w.heap.size + 1, 6, none⟩ (.bool no) = X
  have hXR : Bx (w.heap.size + 1) [.bool o, .int .i64 n, .int .i64 d, .bool false, .int .i64 n2, .int .i64 d2, .bool no] X := by rw [← hX]; exact (HR.out).set7 _ _ _ _ _ _ _
  have hXB : Below w.heap.size w X := by rw [← hX]; exact bset7 (HB.out) (Nat.le_succ _) _ _ _ _ _ _ _
  obtain ⟨⟨x0, x1, x2, x3, x4, x5, x6⟩, _⟩ := hXR.all7
  exact bodyPost_ret (v := .agg #[.bool o, .int .i64 n, .int .i64 d, .bool false, .int .i64 n2, .int .i64 d2, .bool no]) (by simp [results, Try.results34, go_sem, x0, x1, x2, x3, x4, x5, x6]) rfl ⟨rfl, hXB⟩

theorem above7_any (s : Num.Spn) (a b : Int) (w : World) (hs : Num.SmallP a b) (h1 : -1073741824 ≤ s.n ∧ s.n ≤ 1073741824) (h2 : -1073741824 ≤ s.d ∧ s.d ≤ 1073741824) (h3 : -1073741824 ≤ s.n2 ∧ s.n2 ≤ 1073741824) (h4 : -1073741824 ≤ s.d2 ∧ s.d2 ≤ 1073741824) :
    Calls Try.prog 34 #[spanV s, .int .i64 a, .int .i64 b] w fun e w' => e = .returned (spanV (Num.aboveS s a b)) ∧ Below w.heap.size w w' := by
  by_cases hb : b = 0
  · subst hb; exact above_zero s a w
  obtain ⟨x, y, hm, _, hxy⟩ := Num.small_at0 a b hs hb
  obtain ⟨o, n, d, o2, n2, d2, no⟩ := s
  by_cases hp : 0 < b
  · cases o
    · by_cases hc : n * y < x * d
      · exact above_u1 o2 no n d n2 d2 a b w hs hp x y hm hxy h1 h2 hc
      · exact above_u2 o2 no n d n2 d2 a b w hs hp x y hm hxy h1 h2 hc
    · exact above_u0 o2 no n d n2 d2 a b w hs hp x y hm hxy
  · have hp' : b < 0 := by omega
    cases o2
    · by_cases hc : x * d2 < n2 * y
      · exact above_d1 o no n d n2 d2 a b w hs hp' x y hm hxy h3 h4 hc
      · exact above_d2 o no n d n2 d2 a b w hs hp' x y hm hxy h3 h4 hc
    · exact above_d0 o no n d n2 d2 a b w hs hp' x y hm hxy

end Go.Proofs.Ytipcbhodlgoflab

/- What the document's end and Small do (chapter 7), cornerwalkref8.In, and the law's own ends. -/
namespace Go.Proofs.Ytipcbhodlgoflab
open Go.RowKit

def Num.noSpn : Num.Spn := ⟨false, 0, 0, false, 0, 0, false⟩

/-- What the document's end answers. -/
def endV (s : Num.Spn) : Value := if Num.emptyS s = true then .tuple #[spanV Num.noSpn, .bool false] else .tuple #[spanV s, .bool true]

set_option maxHeartbeats 800000 in
theorem end_any (s : Num.Spn) (w : World) (h1 : -1073741824 ≤ s.n ∧ s.n ≤ 1073741824) (h2 : -1073741824 ≤ s.d ∧ s.d ≤ 1073741824) (h3 : -1073741824 ≤ s.n2 ∧ s.n2 ≤ 1073741824) (h4 : -1073741824 ≤ s.d2 ∧ s.d2 ≤ 1073741824) :
    Calls Try.prog 35 #[spanV s] w fun e w' => e = .returned (endV s) ∧ Below w.heap.size w w' := by
  obtain ⟨o, n, d, o2, n2, d2, no⟩ := s
  simp only at h1 h2 h3 h4
  cases no
  · cases o
    · cases o2
      · have HT : Hid (0 < n * d2 - n2 * d → endV ⟨false, n, d, false, n2, d2, false⟩ = .tuple #[.agg #[.bool false, .int .i64 0, .int .i64 0, .bool false, .int .i64 0, .int .i64 0, .bool false], .bool false]) := by
          intro h; unfold endV; rw [if_pos (by unfold Num.emptyS; simp; omega)]; rfl
        have HF : Hid (¬ 0 < n * d2 - n2 * d → endV ⟨false, n, d, false, n2, d2, false⟩ = .tuple #[.agg #[.bool false, .int .i64 n, .int .i64 d, .bool false, .int .i64 n2, .int .i64 d2, .bool false], .bool true]) := by
          intro h; unfold endV; rw [if_neg (by unfold Num.emptyS; simp; omega)]; rfl
        generalize endV ⟨false, n, d, false, n2, d2, false⟩ = res at *
        unfold spanV
        simp only
        go_enter Try.func35, Try.ntmps35
        go_wp2_with fail
        refine (cmp_any n d n2 d2 _ h1 h2 h3 h4).mono ?_
        rintro e w1 ⟨rfl, hb1⟩
        have hP : Bx w.heap.size [.bool false, .int .i64 n, .int .i64 d, .bool false, .int .i64 n2, .int .i64 d2, .bool false] w1 := ((Bx.new rfl _ _).step (balloc _ _)).step hb1
        have hR : Bx (w.heap.size + 1) [.bool false, .int .i64 0, .int .i64 0, .bool false, .int .i64 0, .int .i64 0, .bool false] w1 := (Bx.new (by simp) _ _).step hb1
        have hB : Below w.heap.size w w1 := binto (binto hb1)
        clear hb1
        have HR : Hid _ := hR
        have HB : Hid _ := hB
        obtain ⟨⟨c0, c1, c2, c3, c4, c5, c6⟩, f0, f1, f2, f3, f4, f5, f6⟩ := hP.all7
        obtain ⟨⟨b0, b1, b2, b3, b4, b5, b6⟩, g0, g1, g2, g3, g4, g5, g6⟩ := hR.all7
        have hz : w.heap.size + 1 < w1.heap.size := hR.lt
        have hz0 : w.heap.size < w1.heap.size := hP.lt
        clear hP hR hB
        generalize n * d2 - n2 * d = q at HT HF ⊢
        by_cases hq0 : 0 < q
        · have hq : decide (0 < q) = true := by simpa using hq0
          have hres := HT.out hq0
          subst hres
          clear HT HF
          go_wp2_with fail
          generalize hX : ((((((w1.setCell ⟨w.heap.size + 1, 0, none⟩ (.bool false)).setCell ⟨w.heap.size + 1, 1, none⟩ (.int .i64 0)).setCell ⟨w.heap.size + 1, 2, none⟩ (.int .i64 0)).setCell ⟨w.heap.size + 1, 3, none⟩ (.bool false)).setCell ⟨w.heap.size + 1, 4, none⟩ (.int .i64 0)).setCell ⟨w.heap.size + 1, 5, none⟩ (.int .i64 0)).setCell ⟨w.heap.size + 1, 6, none⟩ (.bool false) = X
          have hXR : Bx (w.heap.size + 1) [.bool false, .int .i64 0, .int .i64 0, .bool false, .int .i64 0, .int .i64 0, .bool false] X := by rw [← hX]; exact HR.out.set7 _ _ _ _ _ _ _
          have hXB : Below w.heap.size w X := by rw [← hX]; exact bset7 HB.out (Nat.le_succ _) _ _ _ _ _ _ _
          obtain ⟨⟨x0, x1, x2, x3, x4, x5, x6⟩, _⟩ := hXR.all7
          exact bodyPost_ret (v := .tuple #[.agg #[.bool false, .int .i64 0, .int .i64 0, .bool false, .int .i64 0, .int .i64 0, .bool false], .bool false]) (by simp [results, Try.results35, go_sem, x0, x1, x2, x3, x4, x5, x6]) rfl ⟨rfl, hXB⟩
        · have hq : decide (0 < q) = false := by simpa using hq0
          have hres := HF.out (by omega)
          subst hres
          clear HT HF
          go_wp2_with fail
          generalize hX : ((((((w1.setCell ⟨w.heap.size + 1, 0, none⟩ (.bool false)).setCell ⟨w.heap.size + 1, 1, none⟩ (.int .i64 n)).setCell ⟨w.heap.size + 1, 2, none⟩ (.int .i64 d)).setCell ⟨w.heap.size + 1, 3, none⟩ (.bool false)).setCell ⟨w.heap.size + 1, 4, none⟩ (.int .i64 n2)).setCell ⟨w.heap.size + 1, 5, none⟩ (.int .i64 d2)).setCell ⟨w.heap.size + 1, 6, none⟩ (.bool false) = X
          have hXR : Bx (w.heap.size + 1) [.bool false, .int .i64 n, .int .i64 d, .bool false, .int .i64 n2, .int .i64 d2, .bool false] X := by rw [← hX]; exact HR.out.set7 _ _ _ _ _ _ _
          have hXB : Below w.heap.size w X := by rw [← hX]; exact bset7 HB.out (Nat.le_succ _) _ _ _ _ _ _ _
          obtain ⟨⟨x0, x1, x2, x3, x4, x5, x6⟩, _⟩ := hXR.all7
          exact bodyPost_ret (v := .tuple #[.agg #[.bool false, .int .i64 n, .int .i64 d, .bool false, .int .i64 n2, .int .i64 d2, .bool false], .bool true]) (by simp [results, Try.results35, go_sem, x0, x1, x2, x3, x4, x5, x6]) rfl ⟨rfl, hXB⟩
      · have HE : Hid (endV ⟨false, n, d, true, n2, d2, false⟩ = .tuple #[.agg #[.bool false, .int .i64 n, .int .i64 d, .bool true, .int .i64 n2, .int .i64 d2, .bool false], .bool true]) := by
          show _ = _; unfold endV; rw [if_neg (by unfold Num.emptyS; simp)]; rfl
        rw [HE.out]
        unfold spanV
        simp only
        go_enter Try.func35, Try.ntmps35
        go_wp2_with fail
        exact bodyPost_ret (v := .tuple #[.agg #[.bool false, .int .i64 n, .int .i64 d, .bool true, .int .i64 n2, .int .i64 d2, .bool false], .bool true]) (by simp [results, Try.results35, go_sem]) rfl ⟨rfl, bstep (balloc _ _) (balloc _ _)⟩
    · have HE : Hid (endV ⟨true, n, d, o2, n2, d2, false⟩ = .tuple #[.agg #[.bool true, .int .i64 n, .int .i64 d, .bool o2, .int .i64 n2, .int .i64 d2, .bool false], .bool true]) := by
        show _ = _; unfold endV; rw [if_neg (by unfold Num.emptyS; simp)]; rfl
      rw [HE.out]
      unfold spanV
      simp only
      go_enter Try.func35, Try.ntmps35
      go_wp2_with fail
      exact bodyPost_ret (v := .tuple #[.agg #[.bool true, .int .i64 n, .int .i64 d, .bool o2, .int .i64 n2, .int .i64 d2, .bool false], .bool true]) (by simp [results, Try.results35, go_sem]) rfl ⟨rfl, bstep (balloc _ _) (balloc _ _)⟩
  · have HE : Hid (endV ⟨o, n, d, o2, n2, d2, true⟩ = .tuple #[.agg #[.bool false, .int .i64 0, .int .i64 0, .bool false, .int .i64 0, .int .i64 0, .bool false], .bool false]) := by
      show _ = _; unfold endV; rw [if_pos (by unfold Num.emptyS; simp)]; rfl
    rw [HE.out]
    unfold spanV
    simp only
    go_enter Try.func35, Try.ntmps35
    go_wp2_with fail
    exact bodyPost_ret (v := .tuple #[.agg #[.bool false, .int .i64 0, .int .i64 0, .bool false, .int .i64 0, .int .i64 0, .bool false], .bool false]) (by simp [results, Try.results35, go_sem]) rfl ⟨rfl, bstep (balloc _ _) (balloc _ _)⟩

set_option maxHeartbeats 400000 in
theorem small_any (m : Int) (many : Nat) (a : Option Addr) (len cap : Nat) (l : List Int) (w : World) (hi : Ints w a len l) (hlen : len ≤ 9223372036854775807) (hmany : many ≤ 9223372036854775807)
    (hm0 : 0 ≤ m) (hm : m ≤ 4611686018427387904) :
    Calls Try.prog 11 #[.slice a len cap, .int .i64 many, .int .i64 m] w fun e w' => e = .returned (.bool (decide (len = many) && Num.withinB m l)) ∧ w' = w := by
  obtain ⟨hll, hi⟩ := hi
  have HL : Hid (len = l.length) := hll
  clear hll
  by_cases hlm : len = many
  · subst hlm
    have HV : Hid ((decide (len = len) && Num.withinB m l) = Num.withinB m l) := by show _ = _; simp
    rw [HV.out]
    clear HV
    go_enter Try.func11, Try.ntmps11
    go_wp2
    go_loop [7] (fun i => ∃ k : Nat, k ≤ len ∧ i = .int .i64 k ∧ Num.withinB m (l.take k) = true) (fun i => len - (intOf i).toNat)
    case atStart => exact ⟨0, Nat.zero_le _, rfl, rfl⟩
    case round =>
      obtain ⟨k, hk, rfl, hw⟩ := hrel
      have HW : Hid (Num.withinB m (l.take k) = true) := hw
      clear hw
      by_cases hlt : k < len
      · rcases hi with hi | ⟨b, off, ha, hb, hc⟩
        · omega
        have hck := hc k hlt
        clear hc
        have hs := Num.withinB_take_succ m l k (by have := HL.out; omega)
        have hf := Num.withinB_false_of m l k (by have := HL.out; omega)
        generalize l[k]?.getD 0 = x at hck hs hf
        have HS : Hid _ := hs
        have HF : Hid _ := hf
        clear hs hf
        subst ha
        by_cases hx1 : x < -m
        · go_wp2
          go_ret
          exact ⟨ret_bool (HF.out (Or.inl hx1)).symm, rfl⟩
        by_cases hx2 : m < x
        · go_wp2
          go_ret
          exact ⟨ret_bool (HF.out (Or.inr hx2)).symm, rfl⟩
        go_wp2
        go_round
        case rel => exact ⟨k + 1, by omega, by go_num, by rw [HS.out, HW.out]; simp; omega⟩
        case measure => simp [intOf]; omega
      · go_wp2
        go_ret
        have hke : k = l.length := by have := HL.out; omega
        refine ⟨ret_bool ?_, rfl⟩
        have := HW.out
        rw [hke, List.take_length] at this
        exact this.symm
  · have HV : Hid ((decide (len = many) && Num.withinB m l) = false) := by show _ = _; simp [hlm]
    rw [HV.out]
    clear HV
    have h1 : ((len : Int) == (many : Int)) = false := by simp; omega
    have h2 : ((len : Int) != (many : Int)) = true := by simp; omega
    go_enter Try.func11, Try.ntmps11
    go_wp2
    go_ret
    exact ⟨rfl, rfl⟩

theorem frac_eq (d : Nat) (a b a' b' : Int) (w : World) : (Op.equalIn (d + 2) 28 (.agg #[.int .i64 a, .int .i64 b]) (.agg #[.int .i64 a', .int .i64 b'])).run Try.prog w = .ok ((a == a') && (b == b')) w := by
  have hS : Try.prog.underlying 28 = some (.struct (Try.prog.fieldsOf 28)) := by kernel_rfl
  have hp : Try.prog.stoodInHeld 28 = false := by kernel_rfl
  have u2 := Try.underlying2
  rw [run_equalIn_agg w (d + 1) 28 _ _ hS hp]
  simp only [Program.fieldsOf, Try.underlying28]
  go_simp
  by_cases h1 : a = a' <;> by_cases h2 : b = b' <;> simp [h1, h2]

theorem end_eq (o : Bool) (a b : Int) (o' : Bool) (a' b' : Int) (w : World) : (Op.equalIn 10000 30 (.agg #[.bool o, .int .i64 a, .int .i64 b]) (.agg #[.bool o', .int .i64 a', .int .i64 b'])).run Try.prog w = .ok ((o == o') && ((a == a') && (b == b'))) w := by
  have hS : Try.prog.underlying 30 = some (.struct (Try.prog.fieldsOf 30)) := by kernel_rfl
  have hp : Try.prog.stoodInHeld 30 = false := by kernel_rfl
  have u2 := Try.underlying4
  have hF := frac_eq 9997 a b a' b'
  rw [show (10000 : Nat) = 9999 + 1 from rfl, run_equalIn_agg w 9999 30 _ _ hS hp]
  simp only [Program.fieldsOf, Try.underlying30]
  go_simp
  cases o <;> cases o' <;> by_cases h1 : a = a' <;> by_cases h2 : b = b' <;> simp [h1, h2]

end Go.Proofs.Ytipcbhodlgoflab
