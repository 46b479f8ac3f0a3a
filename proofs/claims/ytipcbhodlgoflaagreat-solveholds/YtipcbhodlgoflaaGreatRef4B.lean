/- What the document's Holds does with Nothing. -/
import Derived.Test.YtipcbhodlgoflaaGreatRef4A
import Derived.Test.YtipcbhodlgoflaaGreatPrfAB
namespace Go.Proofs.YtipcbhodlgoflaaGreat
open Go.RowKit

set_option maxRecDepth 4000 in
set_option maxHeartbeats 3200000 in
theorem rholds_nothing (ca : Option Addr) (cl cc : Nat) (ra : Option Addr) (m rc : Nat) (p : Num.Lp) (w : World) (hc : Ints w ca cl p.costs) (hcl : cl ≤ 9223372036854775807) (hr : RowsAt w ra m p.rows) (hrl : m ≤ 9223372036854775807) (a : Num.Ans)
    (xa : Option Addr) (xl xc : Nat) (ya : Option Addr) (yl yc : Nat) (za : Option Addr) (zl zc : Nat) (hx : Ints w xa xl a.x) (_hxl : xl ≤ 9223372036854775807) (hy : Ints w ya yl a.y) (hyl : yl ≤ 9223372036854775807) (hz : Ints w za zl a.r) (_hzl : zl ≤ 9223372036854775807) (hm : p.may = true) (hk : a.kind = 3) :
    Calls Tryz.prog 6 #[.agg #[.slice ca cl cc, .slice ra m rc], .agg #[.int .i64 a.kind, .slice xa xl xc, .int .i64 a.xd, .slice ya yl yc, .int .i64 a.yd, .slice za zl zc, .int .i64 a.rd, .int .i64 a.wn, .int .i64 a.wd]] w fun e w' =>
      e = .returned (.bool (Num.holds p a)) ∧ Below w.heap.size w w' := by
  have HC : Hid (Ints w ca cl p.costs) := hc
  have HR : Hid (RowsAt w ra m p.rows) := hr
  have HX : Hid (Ints w xa xl a.x) := hx
  have HY : Hid (Ints w ya yl a.y) := hy
  have HZ : Hid (Ints w za zl a.r) := hz
  have HXL : Hid (xl = a.x.length) := hx.1
  have HYL : Hid (yl = a.y.length) := hy.1
  have HZL : Hid (zl = a.r.length) := hz.1
  have HCL : Hid (cl = p.costs.length) := hc.1
  have HRL : Hid (m = p.rows.length) := hr.1
  clear hr hx hy hz hc
  have hL0 : Below ((w.alloc (.cells #[.slice ca cl cc, .slice ra m rc] 25)).alloc (.cells #[.int .i64 a.kind, .slice xa xl xc, .int .i64 a.xd, .slice ya yl yc, .int .i64 a.yd, .slice za zl zc, .int .i64 a.rd, .int .i64 a.wn, .int .i64 a.wd] 31)).heap.size ((w.alloc (.cells #[.slice ca cl cc, .slice ra m rc] 25)).alloc (.cells #[.int .i64 a.kind, .slice xa xl xc, .int .i64 a.xd, .slice ya yl yc, .int .i64 a.yd, .slice za zl zc, .int .i64 a.rd, .int .i64 a.wn, .int .i64 a.wd] 31)) ((w.alloc (.cells #[.slice ca cl cc, .slice ra m rc] 25)).alloc (.cells #[.int .i64 a.kind, .slice xa xl xc, .int .i64 a.xd, .slice ya yl yc, .int .i64 a.yd, .slice za zl zc, .int .i64 a.rd, .int .i64 a.wn, .int .i64 a.wd] 31)) := Below.refl _ _
  have HM : Hid (p.may = true) := hm
  have hcl4 : cl ≤ 4 := by have := HCL.out; have := (p.may_of hm).1.2; omega
  have hm4 : m ≤ 4 := by have := HRL.out; have := (p.may_of hm).2.2.1.2; omega
  have HH := Num.holds_nothing p a hm hk
  have HN1 := Num.nothing_no p a
  have HN2 := Num.nothing_cov p a
  have HN3 := Num.nothing_yes p a
  rw [← HRL.out, ← HCL.out] at HN2 HN3
  have HEQ : Hid _ := HH
  have H1 : Hid _ := HN1
  have H2 : Hid _ := HN2
  have H3 : Hid _ := HN3
  clear HH HN1 HN2 HN3
  generalize Num.holds p a = res at *
  generalize Num.nothingB p a = rn at *
  obtain ⟨kd, x, xd, y, yd, z, zd, wn, wd⟩ := a
  dsimp only at *
  subst hk
  go_enter Tryz.func6, Tryz.ntmps6
  go_wp2_with fail
  generalize hV : (w.alloc (.cells #[.slice ca cl cc, .slice ra m rc] 25)).alloc (.cells #[.int .i64 3, .slice xa xl xc, .int .i64 xd, .slice ya yl yc, .int .i64 yd, .slice za zl zc, .int .i64 zd, .int .i64 wn, .int .i64 wd] 31) = V at *
  have HBX : Hid (∀ w', Below V.heap.size V w' → (w'.cell? ⟨w.heap.size, 0, none⟩ = some (.slice ca cl cc) ∧ w'.cell? ⟨w.heap.size, 1, none⟩ = some (.slice ra m rc)) ∧ Nine (w.heap.size + 1) (.int .i64 3) (.slice xa xl xc) (.int .i64 xd) (.slice ya yl yc) (.int .i64 yd) (.slice za zl zc) (.int .i64 zd) (.int .i64 wn) (.int .i64 wd) w' ∧ w.heap.size + 1 < w'.heap.size ∧ Below w.heap.size w w') := by
    intro w' h; rw [← hV] at h; exact box29 h
  clear hV
  have hB0 := (HBX.out V hL0).2.2.2
  refine (r2may_any _ _ _ _ _ _ p _ (Ints.below HC.out hB0 (Nat.le_refl _)) hcl (RowsAt.below HR.out hB0 (Nat.le_refl _)) hrl).mono ?_
  rintro e w1 ⟨rfl, hk1⟩
  have hb1 := bstep hL0 hk1
  rw [hm]
  clear hB0 hk1 hL0
  obtain ⟨⟨c0, c1⟩, ⟨n0, n1, n2, n3, n4, n5, n6, n7, n8⟩, hz1, hB1⟩ := HBX.out w1 hb1
  go_upto_region 3 with fail
  go_cut [5] from 17 to 26 (fun s wx => s = .bool (Num.zeroW wn wd) ∧ wx = w1)
  case first =>
    by_cases e1 : ¬ wn = 0
    · have e1' : (wn == 0) = false := by simpa using e1
      go_wp2_with fail
      go_meet
      exact ⟨by unfold Num.zeroW; rw [e1']; rfl, rfl⟩
    obtain rfl : wn = 0 := by omega
    go_wp2_with fail
    go_meet
    exact ⟨by unfold Num.zeroW; simp, rfl⟩
  case rest =>
  obtain ⟨rfl, rfl⟩ := hcut
  go_wp2_with fail
  refine (rempty_any xa xl xc xd x _ HXL.out).mono ?_
  rintro e w2 ⟨rfl, hk2⟩
  have hb2 := bstep hb1 hk2
  clear c0 c1 n0 n1 n2 n3 n4 n5 n6 n7 n8 hz1 hB1 hb1 hk2
  obtain ⟨⟨c0, c1⟩, ⟨n0, n1, n2, n3, n4, n5, n6, n7, n8⟩, hz1, hB1⟩ := HBX.out w2 hb2
  cases t1 : Num.thereB x xd with
  | true =>
    have hf : res = false := by rw [HEQ.out, t1]; rfl
    go_wp2_with fail
    go_ret
    (first | exact ⟨ret_bool hf.symm, hB1⟩ | exact ⟨rfl, hB1⟩)
  | false =>
  go_wp2_with fail
  refine (rempty_any za zl zc zd z _ HZL.out).mono ?_
  rintro e w3 ⟨rfl, hk3⟩
  have hb3 := bstep hb2 hk3
  clear c0 c1 n0 n1 n2 n3 n4 n5 n6 n7 n8 hz1 hB1 hb2 hk3
  obtain ⟨⟨c0, c1⟩, ⟨n0, n1, n2, n3, n4, n5, n6, n7, n8⟩, hz1, hB1⟩ := HBX.out w3 hb3
  cases t2 : Num.thereB z zd with
  | true =>
    have hf : res = false := by rw [HEQ.out, t1, t2]; rfl
    go_wp2_with fail
    go_ret
    (first | exact ⟨ret_bool hf.symm, hB1⟩ | exact ⟨rfl, hB1⟩)
  | false =>
  cases t3 : Num.zeroW wn wd with
  | false =>
    have hf : res = false := by rw [HEQ.out, t1, t2, t3]; rfl
    go_wp2_with fail
    go_ret
    (first | exact ⟨ret_bool hf.symm, hB1⟩ | exact ⟨rfl, hB1⟩)
  | true =>
  have HR1 : Hid (res = rn) := by show res = rn; rw [HEQ.out, t1, t2, t3]; rfl
  clear HEQ
  go_wp2_with fail
  refine (rpoint4_any ya yl yc yd y m _ (Ints.below HY.out hB1 (Nat.le_refl _)) hyl).mono ?_
  rintro e w4 ⟨rfl, hk4⟩
  have hb4 := bstep hb3 hk4
  clear c0 c1 n0 n1 n2 n3 n4 n5 n6 n7 n8 hz1 hB1 hb3 hk4
  obtain ⟨⟨c0, c1⟩, ⟨n0, n1, n2, n3, n4, n5, n6, n7, n8⟩, hz1, hB1⟩ := HBX.out w4 hb4
  cases t4 : Num.pointB m y yd with
  | false =>
    have hf : res = false := by rw [HR1.out]; exact H2.out (Num.covers_no _ _ _ _ _ t4)
    go_wp2_with fail
    go_ret
    (first | exact ⟨ret_bool hf.symm, hB1⟩ | exact ⟨rfl, hB1⟩)
  | true =>
  cases hd : (yd == 1) with
  | false =>
    have hf : res = false := by rw [HR1.out]; exact H1.out hd
    go_wp2_with fail
    go_ret
    (first | exact ⟨ret_bool hf.symm, hB1⟩ | exact ⟨rfl, hB1⟩)
  | true =>
  obtain rfl : yd = 1 := by simpa using hd
  obtain ⟨hym, _, hyw, _, _⟩ := Num.point_of _ _ _ t4
  have HYB : Hid (∀ j : Nat, -1073741824 ≤ y[j]?.getD 0 ∧ y[j]?.getD 0 ≤ 1073741824) := Num.withinB_iff _ _ hyw (by omega)
  have hylm : yl = m := by have := HY.out.1; omega
  have HCA := Num.covers_all p m y 1 (List.replicate cl 0) t4
  rw [List.length_replicate] at HCA
  have HCV : Hid _ := HCA
  clear hyw hym HCA t4
  subst hylm
  go_wp2_with fail
  clear c0 c1 n0 n1 n2 n3 n4 n5 n6 n7 n8 hz1 hB1
  go_loopw [13] (fun i wr => ∃ k : Nat, k ≤ cl ∧ i = .int .i64 k ∧ (List.range k).all (Num.costB p yl y 1 (List.replicate cl 0)) = true ∧ Below V.heap.size V wr) (fun i _ => cl - (intOf i).toNat)
  case atStart => exact ⟨0, Nat.zero_le _, rfl, rfl, hb4⟩
  case round =>
    obtain ⟨k, hk, rfl, hall, hbl⟩ := hrel
    have HALL : Hid _ := hall
    clear hall hb4
    obtain ⟨⟨c0, c1⟩, ⟨n0, n1, n2, n3, n4, n5, n6, n7, n8⟩, hz1, hB1⟩ := HBX.out wr hbl
    by_cases hlt : k < cl
    · have HK : Hid (Num.costB p yl y 1 (List.replicate cl 0) k = decide (0 ≤ Num.dotN (Num.colL p yl k) y yl)) := by
        show Num.costB p yl y 1 (List.replicate cl 0) k = _
        unfold Num.costB
        rw [List.getElem?_replicate, if_pos hlt]
        simp
      go_wp2_with fail
      refine (rpriced_any _ _ _ _ _ _ p _ (RowsAt.below HR.out hB1 (Nat.le_refl _)) HM.out _ _ y 1 (Ints.below HY.out hB1 (Nat.le_refl _)) HYB.out k (by have := HCL.out; omega)).mono ?_
      rintro e v1 ⟨rfl, hk1⟩
      have hbv := bstep hbl hk1
      generalize Num.dotN (Num.colL p yl k) y yl = D at *
      by_cases hg : D < 0
      · have hf : res = false := by
          rw [HR1.out]
          exact H2.out (by rw [HCV.out]; exact Num.range_all_false _ _ k hlt (by rw [HK.out]; simp; omega))
        have hBv := (HBX.out v1 hbv).2.2.2
        go_wp2_with fail
        go_ret
        (first | exact ⟨ret_bool hf.symm, hBv⟩ | exact ⟨rfl, hBv⟩)
      · have hg' : decide (D < 0) = false := by simpa using hg
        clear c0 c1 n0 n1 n2 n3 n4 n5 n6 n7 n8 hz1 hB1 hbl hk1
        go_wp2_with fail
        go_roundw
        case rel => exact ⟨k + 1, hlt, by go_num, by rw [Num.range_all_succ, HALL.out, HK.out]; simp; omega, hbv⟩
        case measure => simp [intOf]; omega
    · have hke : k = cl := by omega
      subst hke
      have HF : Hid (res = decide (Num.pricedN p yl y < 0)) := by show res = _; rw [HR1.out]; exact H3.out hd (by rw [HCV.out]; exact HALL.out)
      go_wp2_with fail
      refine (rmost_any _ _ _ _ _ _ p _ (RowsAt.below HR.out hB1 (Nat.le_refl _)) HM.out _ _ y 1 (Ints.below HY.out hB1 (Nat.le_refl _)) HYB.out).mono ?_
      rintro e v1 ⟨rfl, hk1⟩
      have hBv := bstep hB1 hk1
      go_wp2_with fail
      go_ret
      exact ⟨ret_bool HF.out.symm, hBv⟩

end Go.Proofs.YtipcbhodlgoflaaGreat

/- What the document's Holds does with Endless. -/
namespace Go.Proofs.YtipcbhodlgoflaaGreat
open Go.RowKit

theorem Num.endless_no (p : Num.Lp) (a : Num.Ans) (h : p.goes a.x a.xd = false) : Num.endlessB p a = false := by unfold Num.endlessB; rw [h]; rfl
theorem Num.endless_pt (p : Num.Lp) (a : Num.Ans) (h : Num.pointB p.costs.length a.r a.rd = false) : Num.endlessB p a = false := by unfold Num.endlessB; rw [h]; simp
theorem Num.endless_rd (p : Num.Lp) (a : Num.Ans) (h : (a.rd == 1) = false) : Num.endlessB p a = false := by unfold Num.endlessB; rw [h]; simp
theorem Num.endless_rows (p : Num.Lp) (a : Num.Ans) (h : p.rows.all (Num.rowLevel a.r p.costs.length) = false) : Num.endlessB p a = false := by unfold Num.endlessB; rw [h]; simp
theorem Num.endless_yes (p : Num.Lp) (a : Num.Ans) (h1 : p.goes a.x a.xd = true) (h2 : Num.pointB p.costs.length a.r a.rd = true) (h3 : (a.rd == 1) = true) (h4 : p.rows.all (Num.rowLevel a.r p.costs.length) = true) : Num.endlessB p a = decide (0 < Num.dotN p.costs a.r p.costs.length) := by unfold Num.endlessB; rw [h1, h2, h3, h4]; simp

set_option maxRecDepth 4000 in
set_option maxHeartbeats 3200000 in
theorem rholds_endless (ca : Option Addr) (cl cc : Nat) (ra : Option Addr) (m rc : Nat) (p : Num.Lp) (w : World) (hc : Ints w ca cl p.costs) (hcl : cl ≤ 9223372036854775807) (hr : RowsAt w ra m p.rows) (hrl : m ≤ 9223372036854775807) (a : Num.Ans)
    (xa : Option Addr) (xl xc : Nat) (ya : Option Addr) (yl yc : Nat) (za : Option Addr) (zl zc : Nat) (hx : Ints w xa xl a.x) (hxl : xl ≤ 9223372036854775807) (hy : Ints w ya yl a.y) (_hyl : yl ≤ 9223372036854775807) (hz : Ints w za zl a.r) (hzl : zl ≤ 9223372036854775807) (hm : p.may = true) (hk : a.kind = 2) :
    Calls Tryz.prog 6 #[.agg #[.slice ca cl cc, .slice ra m rc], .agg #[.int .i64 a.kind, .slice xa xl xc, .int .i64 a.xd, .slice ya yl yc, .int .i64 a.yd, .slice za zl zc, .int .i64 a.rd, .int .i64 a.wn, .int .i64 a.wd]] w fun e w' =>
      e = .returned (.bool (Num.holds p a)) ∧ Below w.heap.size w w' := by
  have HC : Hid (Ints w ca cl p.costs) := hc
  have HR : Hid (RowsAt w ra m p.rows) := hr
  have HX : Hid (Ints w xa xl a.x) := hx
  have HY : Hid (Ints w ya yl a.y) := hy
  have HZ : Hid (Ints w za zl a.r) := hz
  have HXL : Hid (xl = a.x.length) := hx.1
  have HYL : Hid (yl = a.y.length) := hy.1
  have HZL : Hid (zl = a.r.length) := hz.1
  have HCL : Hid (cl = p.costs.length) := hc.1
  have HRL : Hid (m = p.rows.length) := hr.1
  clear hr hx hy hz hc
  have hL0 : Below ((w.alloc (.cells #[.slice ca cl cc, .slice ra m rc] 25)).alloc (.cells #[.int .i64 a.kind, .slice xa xl xc, .int .i64 a.xd, .slice ya yl yc, .int .i64 a.yd, .slice za zl zc, .int .i64 a.rd, .int .i64 a.wn, .int .i64 a.wd] 31)).heap.size ((w.alloc (.cells #[.slice ca cl cc, .slice ra m rc] 25)).alloc (.cells #[.int .i64 a.kind, .slice xa xl xc, .int .i64 a.xd, .slice ya yl yc, .int .i64 a.yd, .slice za zl zc, .int .i64 a.rd, .int .i64 a.wn, .int .i64 a.wd] 31)) ((w.alloc (.cells #[.slice ca cl cc, .slice ra m rc] 25)).alloc (.cells #[.int .i64 a.kind, .slice xa xl xc, .int .i64 a.xd, .slice ya yl yc, .int .i64 a.yd, .slice za zl zc, .int .i64 a.rd, .int .i64 a.wn, .int .i64 a.wd] 31)) := Below.refl _ _
  have HM : Hid (p.may = true) := hm
  have hcl4 : cl ≤ 4 := by have := HCL.out; have := (p.may_of hm).1.2; omega
  have hm4 : m ≤ 4 := by have := HRL.out; have := (p.may_of hm).2.2.1.2; omega
  have HH := Num.holds_endless p a hm hk
  have HN1 := Num.endless_no p a
  have HN2 := Num.endless_pt p a
  have HN3 := Num.endless_rd p a
  have HN4 := Num.endless_rows p a
  have HN5 := Num.endless_yes p a
  rw [← HCL.out] at HN2 HN4 HN5
  have HEQ : Hid _ := HH
  have H1 : Hid _ := HN1
  have H2 : Hid _ := HN2
  have H3 : Hid _ := HN3
  have H4 : Hid _ := HN4
  have H5 : Hid _ := HN5
  clear HH HN1 HN2 HN3 HN4 HN5
  generalize Num.holds p a = res at *
  generalize Num.endlessB p a = rn at *
  obtain ⟨kd, x, xd, y, yd, z, zd, wn, wd⟩ := a
  dsimp only at *
  subst hk
  go_enter Tryz.func6, Tryz.ntmps6
  go_wp2_with fail
  generalize hV : (w.alloc (.cells #[.slice ca cl cc, .slice ra m rc] 25)).alloc (.cells #[.int .i64 2, .slice xa xl xc, .int .i64 xd, .slice ya yl yc, .int .i64 yd, .slice za zl zc, .int .i64 zd, .int .i64 wn, .int .i64 wd] 31) = V at *
  have HBX : Hid (∀ w', Below V.heap.size V w' → (w'.cell? ⟨w.heap.size, 0, none⟩ = some (.slice ca cl cc) ∧ w'.cell? ⟨w.heap.size, 1, none⟩ = some (.slice ra m rc)) ∧ Nine (w.heap.size + 1) (.int .i64 2) (.slice xa xl xc) (.int .i64 xd) (.slice ya yl yc) (.int .i64 yd) (.slice za zl zc) (.int .i64 zd) (.int .i64 wn) (.int .i64 wd) w' ∧ w.heap.size + 1 < w'.heap.size ∧ Below w.heap.size w w') := by
    intro w' h; rw [← hV] at h; exact box29 h
  clear hV
  have hB0 := (HBX.out V hL0).2.2.2
  refine (r2may_any _ _ _ _ _ _ p _ (Ints.below HC.out hB0 (Nat.le_refl _)) hcl (RowsAt.below HR.out hB0 (Nat.le_refl _)) hrl).mono ?_
  rintro e w1 ⟨rfl, hk1⟩
  have hb1 := bstep hL0 hk1
  rw [hm]
  clear hB0 hk1 hL0
  obtain ⟨⟨c0, c1⟩, ⟨n0, n1, n2, n3, n4, n5, n6, n7, n8⟩, hz1, hB1⟩ := HBX.out w1 hb1
  go_upto_region 3 with fail
  go_cut [5] from 17 to 26 (fun s wx => s = .bool (Num.zeroW wn wd) ∧ wx = w1)
  case first =>
    by_cases e1 : ¬ wn = 0
    · have e1' : (wn == 0) = false := by simpa using e1
      go_wp2_with fail
      go_meet
      exact ⟨by unfold Num.zeroW; rw [e1']; rfl, rfl⟩
    obtain rfl : wn = 0 := by omega
    go_wp2_with fail
    go_meet
    exact ⟨by unfold Num.zeroW; simp, rfl⟩
  case rest =>
  obtain ⟨rfl, rfl⟩ := hcut
  go_wp2_with fail
  refine (rempty_any ya yl yc yd y _ HYL.out).mono ?_
  rintro e w2 ⟨rfl, hk2⟩
  have hb2 := bstep hb1 hk2
  clear c0 c1 n0 n1 n2 n3 n4 n5 n6 n7 n8 hz1 hB1 hb1 hk2
  obtain ⟨⟨c0, c1⟩, ⟨n0, n1, n2, n3, n4, n5, n6, n7, n8⟩, hz1, hB1⟩ := HBX.out w2 hb2
  cases t1 : Num.thereB y yd with
  | true =>
    have hf : res = false := by rw [HEQ.out, t1]; rfl
    go_wp2_with fail
    go_ret
    (first | exact ⟨ret_bool hf.symm, hB1⟩ | exact ⟨rfl, hB1⟩)
  | false =>
  cases t3 : Num.zeroW wn wd with
  | false =>
    have hf : res = false := by rw [HEQ.out, t1, t3]; rfl
    go_wp2_with fail
    go_ret
    (first | exact ⟨ret_bool hf.symm, hB1⟩ | exact ⟨rfl, hB1⟩)
  | true =>
  have HR1 : Hid (res = rn) := by show res = rn; rw [HEQ.out, t1, t3]; rfl
  clear HEQ
  go_wp2_with fail
  refine (r2goes_any _ _ _ _ _ _ p _ (Ints.below HC.out hB1 (Nat.le_refl _)) hcl (RowsAt.below HR.out hB1 (Nat.le_refl _)) hrl _ _ _ x xd (Ints.below HX.out hB1 (Nat.le_refl _)) hxl).mono ?_
  rintro e w3 ⟨rfl, hk3⟩
  have hb3 := bstep hb2 hk3
  clear c0 c1 n0 n1 n2 n3 n4 n5 n6 n7 n8 hz1 hB1 hb2 hk3
  obtain ⟨⟨c0, c1⟩, ⟨n0, n1, n2, n3, n4, n5, n6, n7, n8⟩, hz1, hB1⟩ := HBX.out w3 hb3
  cases t2 : p.goes x xd with
  | false =>
    have hf : res = false := by rw [HR1.out]; exact H1.out t2
    go_wp2_with fail
    go_ret
    (first | exact ⟨ret_bool hf.symm, hB1⟩ | exact ⟨rfl, hB1⟩)
  | true =>
  go_wp2_with fail
  refine (rpoint4_any za zl zc zd z cl _ (Ints.below HZ.out hB1 (Nat.le_refl _)) hzl).mono ?_
  rintro e w4 ⟨rfl, hk4⟩
  have hb4 := bstep hb3 hk4
  clear c0 c1 n0 n1 n2 n3 n4 n5 n6 n7 n8 hz1 hB1 hb3 hk4
  obtain ⟨⟨c0, c1⟩, ⟨n0, n1, n2, n3, n4, n5, n6, n7, n8⟩, hz1, hB1⟩ := HBX.out w4 hb4
  cases t4 : Num.pointB cl z zd with
  | false =>
    have hf : res = false := by rw [HR1.out]; exact H2.out t4
    go_wp2_with fail
    go_ret
    (first | exact ⟨ret_bool hf.symm, hB1⟩ | exact ⟨rfl, hB1⟩)
  | true =>
  cases hd : (zd == 1) with
  | false =>
    have hf : res = false := by rw [HR1.out]; exact H3.out hd
    go_wp2_with fail
    go_ret
    (first | exact ⟨ret_bool hf.symm, hB1⟩ | exact ⟨rfl, hB1⟩)
  | true =>
  obtain rfl : zd = 1 := by simpa using hd
  obtain ⟨hzm, _, hzw, _, _⟩ := Num.point_of _ _ _ t4
  have HZB : Hid (∀ j : Nat, -1073741824 ≤ z[j]?.getD 0 ∧ z[j]?.getD 0 ≤ 1073741824) := Num.withinB_iff _ _ hzw (by omega)
  have hzlm : zl = cl := by have := HZ.out.1; omega
  have HT4 : Hid _ := t4
  have HCB : Hid (∀ j : Nat, -400 ≤ p.costs[j]?.getD 0 ∧ p.costs[j]?.getD 0 ≤ 400) := Num.withinB_iff _ _ (p.may_of HM.out).2.1 (by omega)
  clear hzw hzm t4
  subst hzlm
  go_wp2_with fail
  clear c0 c1 n0 n1 n2 n3 n4 n5 n6 n7 n8 hz1 hB1
  go_loopw [12] (fun i wr => ∃ k : Nat, k ≤ m ∧ i = .int .i64 k ∧ (p.rows.take k).all (Num.rowLevel z zl) = true ∧ Below V.heap.size V wr) (fun i _ => m - (intOf i).toNat)
  case atStart => exact ⟨0, Nat.zero_le _, rfl, rfl, hb4⟩
  case round =>
    obtain ⟨k, hk, rfl, hall, hbl⟩ := hrel
    have HALL : Hid _ := hall
    clear hall hb4
    obtain ⟨⟨c0, c1⟩, ⟨n0, n1, n2, n3, n4, n5, n6, n7, n8⟩, hz1, hB1⟩ := HBX.out wr hbl
    by_cases hlt : k < m
    · rcases (RowsAt.below HR.out hB1 (Nat.le_refl _)).2 with h | ⟨b, off, ha, hbs, hc⟩
      · omega
      obtain ⟨ta, tl, tc, d0, d1, ht, htl⟩ := hc k hlt
      have hrow := p.row_of HM.out k (by have := HRL.out; omega)
      have HS : Hid ((p.rows.take (k + 1)).all (Num.rowLevel z zl) = ((p.rows.take k).all (Num.rowLevel z zl) && Num.rowLevel z zl (p.rows[k]?.getD ([], 0)))) := Num.all_take_succ (Num.rowLevel z zl) p.rows k (by have := HRL.out; omega) ([], 0)
      have HN : Hid (Num.rowLevel z zl (p.rows[k]?.getD ([], 0)) = false → p.rows.all (Num.rowLevel z zl) = false) := Num.all_false_of (Num.rowLevel z zl) p.rows k (by have := HRL.out; omega) ([], 0)
      generalize (p.rows[k]?.getD ([], 0)) = r at *
      obtain ⟨r1, r2⟩ := r
      dsimp only at *
      obtain ⟨hr0, hr1, _⟩ := hrow
      have hte : tl = zl := by have := ht.1; have := HCL.out; omega
      have HT : Hid (Ints wr ta tl r1) := ht
      have HWR : Hid (∀ j : Nat, -12 ≤ r1[j]?.getD 0 ∧ r1[j]?.getD 0 ≤ 12) := Num.withinB_iff _ _ hr1 (by omega)
      have HG : Hid (Num.rowLevel z zl (r1, r2) = decide (Num.dotN r1 z zl ≤ 0)) := rfl
      clear hr0 hr1 ht hc d1
      subst ha hte
      have q1 : ∀ w', Below wr.heap.size wr w' → w'.cell? ⟨w.heap.size, 1, none⟩ = some (.slice (some ⟨b, off, none⟩) m rc) := fun w' h => (HBX.out w' (bstep hbl h)).1.2
      have q2 : ∀ w', Below wr.heap.size wr w' → w'.cell? ⟨w.heap.size + 1, 5, none⟩ = some (.slice za tl zc) := fun w' h => (HBX.out w' (bstep hbl h)).2.1.n5
      have q3 : ∀ w', Below wr.heap.size wr w' → w'.cell? ⟨b, off + k * 2, none⟩ = some (.slice ta tl tc) := fun w' h => by rw [h.cell (p := ⟨b, off + k * 2, none⟩) hbs]; exact d0
      have KT : Hid (∀ w', Below wr.heap.size wr w' → Calls Tryz.prog 18 #[.slice ta tl tc, .slice za tl zc] w' fun e w'' => e = .returned (.int .i64 (Num.dotN r1 z tl)) ∧ Below wr.heap.size wr w'') := by
        intro w' h
        exact (below_of_drew (dot_any _ _ _ _ _ _ r1 z w' 12 1073741824 (Ints.below HT.out h (Nat.le_refl _)) (Ints.below HZ.out (HBX.out w' (bstep hbl h)).2.2.2 (Nat.le_refl _)) (Nat.le_refl _) (by omega) HWR.out HZB.out (by omega))).mono fun _ _ k => ⟨k.1, bstep h k.2⟩
      have hS0 : Below wr.heap.size wr wr.drew := (Below.refl _ _).drew
      generalize Num.dotN r1 z tl = D at HG KT
      go_wp2_with fail
      go_region_held3 (fun w' => Below wr.heap.size wr w') (first | assumption)
        (first | (go_at_call 18; refine (KT.out _ ?_).mono ?_; assumption; rintro e v1 ⟨rfl, hk1⟩))
      have hbv := bstep hbl hk1
      clear q1 q2 q3 KT hS0 d0 hk1
      by_cases hg : 0 < D
      · have hf : res = false := by
          rw [HR1.out]
          exact H4.out (HN.out (by rw [HG.out]; simp; omega))
        have hBv := (HBX.out v1 hbv).2.2.2
        go_wp2_with fail
        go_ret
        (first | exact ⟨ret_bool hf.symm, hBv⟩ | exact ⟨rfl, hBv⟩)
      · have hg' : decide (0 < D) = false := by simpa using hg
        clear c0 c1 n0 n1 n2 n3 n4 n5 n6 n7 n8 hz1 hB1 hbl
        go_wp2_with fail
        go_roundw
        case rel => exact ⟨k + 1, hlt, by go_num, by rw [HS.out, HALL.out, HG.out]; simp; omega, hbv⟩
        case measure => simp [intOf]; omega
    · have hke : k = p.rows.length := by have := HRL.out; omega
      have HF : Hid (res = decide (0 < Num.dotN p.costs z zl)) := by show res = _; rw [HR1.out]; exact H5.out t2 HT4.out hd (Num.all_full _ _ _ hke HALL.out)
      clear hke
      obtain rfl : k = m := by omega
      go_wp2_with fail
      refine (below_of_drew (dot_any _ _ _ _ _ _ p.costs z _ 400 1073741824 (Ints.below HC.out hB1 (Nat.le_refl _)) (Ints.below HZ.out hB1 (Nat.le_refl _)) (Nat.le_refl _) (by omega) HCB.out HZB.out (by omega))).mono ?_
      rintro e v1 ⟨rfl, hk1⟩
      have hBv := bstep hB1 hk1
      go_wp2_with fail
      go_ret
      exact ⟨ret_bool HF.out.symm, hBv⟩

end Go.Proofs.YtipcbhodlgoflaaGreat

/- What the document's Holds does with Best. -/
namespace Go.Proofs.YtipcbhodlgoflaaGreat
open Go.RowKit

set_option maxRecDepth 4000 in
set_option maxHeartbeats 6400000 in
theorem rholds_best (ca : Option Addr) (cl cc : Nat) (ra : Option Addr) (m rc : Nat) (p : Num.Lp) (w : World) (hc : Ints w ca cl p.costs) (hcl : cl ≤ 9223372036854775807) (hr : RowsAt w ra m p.rows) (hrl : m ≤ 9223372036854775807) (a : Num.Ans)
    (xa : Option Addr) (xl xc : Nat) (ya : Option Addr) (yl yc : Nat) (za : Option Addr) (zl zc : Nat) (hx : Ints w xa xl a.x) (hxl : xl ≤ 9223372036854775807) (hy : Ints w ya yl a.y) (hyl : yl ≤ 9223372036854775807) (hz : Ints w za zl a.r) (_hzl : zl ≤ 9223372036854775807) (hm : p.may = true) (hk : a.kind = 1) :
    Calls Tryz.prog 6 #[.agg #[.slice ca cl cc, .slice ra m rc], .agg #[.int .i64 a.kind, .slice xa xl xc, .int .i64 a.xd, .slice ya yl yc, .int .i64 a.yd, .slice za zl zc, .int .i64 a.rd, .int .i64 a.wn, .int .i64 a.wd]] w fun e w' =>
      e = .returned (.bool (Num.holds p a)) ∧ Below w.heap.size w w' := by
  have HC : Hid (Ints w ca cl p.costs) := hc
  have HR : Hid (RowsAt w ra m p.rows) := hr
  have HX : Hid (Ints w xa xl a.x) := hx
  have HY : Hid (Ints w ya yl a.y) := hy
  have HZ : Hid (Ints w za zl a.r) := hz
  have HXL : Hid (xl = a.x.length) := hx.1
  have HYL : Hid (yl = a.y.length) := hy.1
  have HZL : Hid (zl = a.r.length) := hz.1
  have HCL : Hid (cl = p.costs.length) := hc.1
  have HRL : Hid (m = p.rows.length) := hr.1
  clear hr hx hy hz hc
  have hL0 : Below ((w.alloc (.cells #[.slice ca cl cc, .slice ra m rc] 25)).alloc (.cells #[.int .i64 a.kind, .slice xa xl xc, .int .i64 a.xd, .slice ya yl yc, .int .i64 a.yd, .slice za zl zc, .int .i64 a.rd, .int .i64 a.wn, .int .i64 a.wd] 31)).heap.size ((w.alloc (.cells #[.slice ca cl cc, .slice ra m rc] 25)).alloc (.cells #[.int .i64 a.kind, .slice xa xl xc, .int .i64 a.xd, .slice ya yl yc, .int .i64 a.yd, .slice za zl zc, .int .i64 a.rd, .int .i64 a.wn, .int .i64 a.wd] 31)) ((w.alloc (.cells #[.slice ca cl cc, .slice ra m rc] 25)).alloc (.cells #[.int .i64 a.kind, .slice xa xl xc, .int .i64 a.xd, .slice ya yl yc, .int .i64 a.yd, .slice za zl zc, .int .i64 a.rd, .int .i64 a.wn, .int .i64 a.wd] 31)) := Below.refl _ _
  have HM : Hid (p.may = true) := hm
  have hcl4 : cl ≤ 4 := by have := HCL.out; have := (p.may_of hm).1.2; omega
  have hm4 : m ≤ 4 := by have := HRL.out; have := (p.may_of hm).2.2.1.2; omega
  have HH := Num.holds_best p a hm hk
  have HN1 := Num.best_no p a
  have HN2 := Num.best_cov p a
  have HN3 := Num.best_yes p a
  rw [← HRL.out] at HN2 HN3
  rw [← HCL.out] at HN3
  have HEQ : Hid _ := HH
  have H1 : Hid _ := HN1
  have H2 : Hid _ := HN2
  have H3 : Hid _ := HN3
  clear HH HN1 HN2 HN3
  generalize Num.holds p a = res at *
  generalize Num.bestB p a = rn at *
  obtain ⟨kd, x, xd, y, yd, z, zd, wn, wd⟩ := a
  dsimp only at *
  subst hk
  go_enter Tryz.func6, Tryz.ntmps6
  go_wp2_with fail
  generalize hV : (w.alloc (.cells #[.slice ca cl cc, .slice ra m rc] 25)).alloc (.cells #[.int .i64 1, .slice xa xl xc, .int .i64 xd, .slice ya yl yc, .int .i64 yd, .slice za zl zc, .int .i64 zd, .int .i64 wn, .int .i64 wd] 31) = V at *
  have HBX : Hid (∀ w', Below V.heap.size V w' → (w'.cell? ⟨w.heap.size, 0, none⟩ = some (.slice ca cl cc) ∧ w'.cell? ⟨w.heap.size, 1, none⟩ = some (.slice ra m rc)) ∧ Nine (w.heap.size + 1) (.int .i64 1) (.slice xa xl xc) (.int .i64 xd) (.slice ya yl yc) (.int .i64 yd) (.slice za zl zc) (.int .i64 zd) (.int .i64 wn) (.int .i64 wd) w' ∧ w.heap.size + 1 < w'.heap.size ∧ Below w.heap.size w w') := by
    intro w' h; rw [← hV] at h; exact box29 h
  clear hV
  have hB0 := (HBX.out V hL0).2.2.2
  refine (r2may_any _ _ _ _ _ _ p _ (Ints.below HC.out hB0 (Nat.le_refl _)) hcl (RowsAt.below HR.out hB0 (Nat.le_refl _)) hrl).mono ?_
  rintro e w1 ⟨rfl, hk1⟩
  have hb1 := bstep hL0 hk1
  rw [hm]
  clear hB0 hk1 hL0
  obtain ⟨⟨c0, c1⟩, ⟨n0, n1, n2, n3, n4, n5, n6, n7, n8⟩, hz1, hB1⟩ := HBX.out w1 hb1
  go_upto_region 3 with fail
  go_cut [5] from 17 to 26 (fun s wx => s = .bool (Num.zeroW wn wd) ∧ wx = w1)
  case first =>
    by_cases e1 : ¬ wn = 0
    · have e1' : (wn == 0) = false := by simpa using e1
      go_wp2_with fail
      go_meet
      exact ⟨by unfold Num.zeroW; rw [e1']; rfl, rfl⟩
    obtain rfl : wn = 0 := by omega
    go_wp2_with fail
    go_meet
    exact ⟨by unfold Num.zeroW; simp, rfl⟩
  case rest =>
  obtain ⟨rfl, rfl⟩ := hcut
  go_wp2_with fail
  refine (rempty_any za zl zc zd z _ HZL.out).mono ?_
  rintro e w2 ⟨rfl, hk2⟩
  have hb2 := bstep hb1 hk2
  clear c0 c1 n0 n1 n2 n3 n4 n5 n6 n7 n8 hz1 hB1 hb1 hk2
  obtain ⟨⟨c0, c1⟩, ⟨n0, n1, n2, n3, n4, n5, n6, n7, n8⟩, hz1, hB1⟩ := HBX.out w2 hb2
  cases t1 : Num.thereB z zd with
  | true =>
    have hf : res = false := by rw [HEQ.out, t1]; rfl
    go_wp2_with fail
    go_ret
    (first | exact ⟨ret_bool hf.symm, hB1⟩ | exact ⟨rfl, hB1⟩)
  | false =>
  have HR1 : Hid (res = rn) := by show res = rn; rw [HEQ.out, t1]; rfl
  clear HEQ
  go_wp2_with fail
  refine (r2goes_any _ _ _ _ _ _ p _ (Ints.below HC.out hB1 (Nat.le_refl _)) hcl (RowsAt.below HR.out hB1 (Nat.le_refl _)) hrl _ _ _ x xd (Ints.below HX.out hB1 (Nat.le_refl _)) hxl).mono ?_
  rintro e w3 ⟨rfl, hk3⟩
  have hb3 := bstep hb2 hk3
  clear c0 c1 n0 n1 n2 n3 n4 n5 n6 n7 n8 hz1 hB1 hb2 hk3
  obtain ⟨⟨c0, c1⟩, ⟨n0, n1, n2, n3, n4, n5, n6, n7, n8⟩, hz1, hB1⟩ := HBX.out w3 hb3
  cases t2 : p.goes x xd with
  | false =>
    have hf : res = false := by rw [HR1.out]; exact H1.out t2
    go_wp2_with fail
    go_ret
    (first | exact ⟨ret_bool hf.symm, hB1⟩ | exact ⟨rfl, hB1⟩)
  | true =>
  go_wp2_with fail
  refine (rpoint4_any ya yl yc yd y m _ (Ints.below HY.out hB1 (Nat.le_refl _)) hyl).mono ?_
  rintro e w4 ⟨rfl, hk4⟩
  have hb4 := bstep hb3 hk4
  clear c0 c1 n0 n1 n2 n3 n4 n5 n6 n7 n8 hz1 hB1 hb3 hk4
  obtain ⟨⟨c0, c1⟩, ⟨n0, n1, n2, n3, n4, n5, n6, n7, n8⟩, hz1, hB1⟩ := HBX.out w4 hb4
  cases t4 : Num.pointB m y yd with
  | false =>
    have hf : res = false := by rw [HR1.out]; exact H2.out (Num.covers_no _ _ _ _ _ t4)
    go_wp2_with fail
    go_ret
    (first | exact ⟨ret_bool hf.symm, hB1⟩ | exact ⟨rfl, hB1⟩)
  | true =>
  obtain ⟨hym, hyd, hyw, _, _⟩ := Num.point_of _ _ _ t4
  have HYB : Hid (∀ j : Nat, -1073741824 ≤ y[j]?.getD 0 ∧ y[j]?.getD 0 ≤ 1073741824) := Num.withinB_iff _ _ hyw (by omega)
  have hylm : yl = m := by have := HY.out.1; omega
  have HCA := Num.covers_all p m y yd p.costs t4
  rw [← HCL.out] at HCA
  have HCV : Hid _ := HCA
  have HCB : Hid (∀ j : Nat, -400 ≤ p.costs[j]?.getD 0 ∧ p.costs[j]?.getD 0 ≤ 400) := Num.withinB_iff _ _ (p.may_of HM.out).2.1 (by omega)
  obtain ⟨_, hxn, _, hxw, _, _⟩ := Num.goes_len _ _ _ t2
  have HXB : Hid (∀ j : Nat, -1073741824 ≤ x[j]?.getD 0 ∧ x[j]?.getD 0 ≤ 1073741824) := Num.withinB_iff _ _ hxw (by omega)
  have hxlm : xl = cl := by have := HX.out.1; have := HCL.out; omega
  clear hyw hym HCA t4 hxn hxw
  subst hylm
  subst hxlm
  go_wp2_with fail
  clear c0 c1 n0 n1 n2 n3 n4 n5 n6 n7 n8 hz1 hB1
  go_loopw [7] (fun i wr => ∃ k : Nat, k ≤ xl ∧ i = .int .i64 k ∧ (List.range k).all (Num.costB p yl y yd p.costs) = true ∧ Below V.heap.size V wr) (fun i _ => xl - (intOf i).toNat)
  case atStart => exact ⟨0, Nat.zero_le _, rfl, rfl, hb4⟩
  case round =>
    obtain ⟨k, hk, rfl, hall, hbl⟩ := hrel
    have HALL : Hid _ := hall
    clear hall hb4
    obtain ⟨⟨c0, c1⟩, ⟨n0, n1, n2, n3, n4, n5, n6, n7, n8⟩, hz1, hB1⟩ := HBX.out wr hbl
    by_cases hlt : k < xl
    · rcases (Ints.below HC.out hB1 (Nat.le_refl _)).2 with h | ⟨b, off, ha, hbs, hc⟩
      · omega
      have hck := hc k hlt
      have hcb := HCB.out k
      have hmul := Num.mul_bd2 _ _ 400 1073741824 hcb (by omega : -1073741824 ≤ yd ∧ yd ≤ 1073741824)
      have HK : Hid (Num.costB p yl y yd p.costs k = decide (p.costs[k]?.getD 0 * yd ≤ Num.dotN (Num.colL p yl k) y yl)) := rfl
      have hwr : wrap64 (p.costs[k]?.getD 0 * yd) = p.costs[k]?.getD 0 * yd := IntWalk.wrap64_in _ (by omega)
      have hwr2 : IntKind.i64.wrap (p.costs[k]?.getD 0 * yd) = p.costs[k]?.getD 0 * yd := by rw [IntWalk.i64_left]; exact hwr
      generalize p.costs[k]?.getD 0 = cx at hck hcb hmul HK hwr hwr2
      clear hc
      subst ha
      have q0 : ∀ w', Below wr.heap.size wr w' → w'.cell? ⟨w.heap.size, 0, none⟩ = some (.slice (some ⟨b, off, none⟩) xl cc) := fun w' h => (HBX.out w' (bstep hbl h)).1.1
      have q1 : ∀ w', Below wr.heap.size wr w' → w'.cell? ⟨w.heap.size, 1, none⟩ = some (.slice ra yl rc) := fun w' h => (HBX.out w' (bstep hbl h)).1.2
      have q2 : ∀ w', Below wr.heap.size wr w' → w'.cell? ⟨w.heap.size + 1, 3, none⟩ = some (.slice ya yl yc) := fun w' h => (HBX.out w' (bstep hbl h)).2.1.n3
      have q3 : ∀ w', Below wr.heap.size wr w' → w'.cell? ⟨w.heap.size + 1, 4, none⟩ = some (.int .i64 yd) := fun w' h => (HBX.out w' (bstep hbl h)).2.1.n4
      have q4 : ∀ w', Below wr.heap.size wr w' → w'.cell? ⟨b, off + k, none⟩ = some (.int .i64 cx) := fun w' h => by rw [h.cell (p := ⟨b, off + k, none⟩) hbs]; exact hck
      have KT : Hid (∀ w', Below wr.heap.size wr w' → Calls Tryz.prog 16 #[.agg #[.slice (some ⟨b, off, none⟩) xl cc, .slice ra yl rc], .agg #[.slice ya yl yc, .int .i64 yd], .int .i64 k] w' fun e w'' => e = .returned (.int .i64 (Num.dotN (Num.colL p yl k) y yl)) ∧ Below wr.heap.size wr w'') := by
        intro w' h
        exact (rpriced_any _ _ _ _ _ _ p w' (RowsAt.below HR.out (HBX.out w' (bstep hbl h)).2.2.2 (Nat.le_refl _)) HM.out _ _ y yd (Ints.below HY.out (HBX.out w' (bstep hbl h)).2.2.2 (Nat.le_refl _)) HYB.out k (by have := HCL.out; omega)).mono fun _ _ k => ⟨k.1, bstep h k.2⟩
      have hS0 : Below wr.heap.size wr wr.drew := (Below.refl _ _).drew
      generalize Num.dotN (Num.colL p yl k) y yl = D at HK KT
      go_wp2_with fail
      go_region_held3 (fun w' => Below wr.heap.size wr w') (first | assumption)
        (first | (go_at_call 16; refine (KT.out _ ?_).mono ?_; assumption; rintro e v1 ⟨rfl, hk1⟩))
      have hbv := bstep hbl hk1
      clear q0 q1 q2 q3 q4 KT hS0 hk1 hck
      by_cases hg : D < cx * yd
      · have hf : res = false := by
          rw [HR1.out]
          exact H2.out (by rw [HCV.out]; exact Num.range_all_false _ _ k hlt (by rw [HK.out]; simp; omega))
        have hBv := (HBX.out v1 hbv).2.2.2
        go_wp2_with fail
        go_ret
        (first | exact ⟨ret_bool hf.symm, hBv⟩ | exact ⟨rfl, hBv⟩)
      · have hg' : decide (D < cx * yd) = false := by simpa using hg
        clear c0 c1 n0 n1 n2 n3 n4 n5 n6 n7 n8 hz1 hB1 hbl
        go_wp2_with fail
        go_roundw
        case rel => exact ⟨k + 1, hlt, by go_num, by rw [Num.range_all_succ, HALL.out, HK.out]; simp; omega, hbv⟩
        case measure => simp [intOf]; omega
    · have hke : k = xl := by omega
      subst hke
      have HF0 := H3.out t2 (by rw [HCV.out]; exact HALL.out)
      obtain ⟨⟨u, v, ez⟩, hmk⟩ : ∃ t, Num.mk (Num.dotN p.costs x k) xd = t := ⟨_, rfl⟩
      obtain ⟨⟨u2, v2', z2⟩, hmk2⟩ : ∃ t, Num.mk (Num.pricedN p yl y) yd = t := ⟨_, rfl⟩
      rw [hmk, hmk2] at HF0
      have HF : Hid (res = (decide ((u, v, ez) = (wn, wd, (0 : Int))) && decide ((u2, v2', z2) = (wn, wd, (0 : Int))))) := by show res = _; rw [HR1.out]; exact HF0
      have HMK : Hid _ := hmk
      have HMK2 : Hid _ := hmk2
      clear hmk hmk2 HF0 H1 H2 H3 HR1 HALL HCV
      clear c0 c1 n0 n1 n2 n3 n4 n5 n6 n7 n8 hz1 hB1
      go_upto_region 14 with fail
      generalize wr = W at *
      go_cut [8, 9] from 74 to 86 (fun s8 s9 wx => ∃ b1 : Nat, s8 = .pointer (some ⟨b1, 0, none⟩) ∧ s9 = .int .i64 ez ∧ Hid (wx.cell? ⟨b1, 0, none⟩ = some (.int .i64 u) ∧ wx.cell? ⟨b1, 1, none⟩ = some (.int .i64 v)) ∧ W.heap.size ≤ b1 ∧ Below W.heap.size W wx)
      case first =>
        have q0 : ∀ w', Below W.heap.size W w' → w'.cell? ⟨w.heap.size, 0, none⟩ = some (.slice ca k cc) := fun w' h => (HBX.out w' (bstep hbl h)).1.1
        have q1 : ∀ w', Below W.heap.size W w' → w'.cell? ⟨w.heap.size + 1, 1, none⟩ = some (.slice xa k xc) := fun w' h => (HBX.out w' (bstep hbl h)).2.1.n1
        have q2 : ∀ w', Below W.heap.size W w' → w'.cell? ⟨w.heap.size + 1, 2, none⟩ = some (.int .i64 xd) := fun w' h => (HBX.out w' (bstep hbl h)).2.1.n2
        have KD : Hid (∀ w', Below W.heap.size W w' → Calls Tryz.prog 18 #[.slice ca k cc, .slice xa k xc] w' fun e w'' => e = .returned (.int .i64 (Num.dotN p.costs x k)) ∧ Below W.heap.size W w'' ∧ Below w'.heap.size w' w'') := by
          intro w' h
          exact (below_of_drew (dot_any _ _ _ _ _ _ p.costs x w' 400 1073741824 (Ints.below HC.out (HBX.out w' (bstep hbl h)).2.2.2 (Nat.le_refl _)) (Ints.below HX.out (HBX.out w' (bstep hbl h)).2.2.2 (Nat.le_refl _)) (Nat.le_refl _) (by omega) HCB.out HXB.out (by omega))).mono fun _ _ k => ⟨k.1, bstep h k.2, k.2⟩
        have KM : Hid (∀ w', Below W.heap.size W w' → Calls Tryz.prog 17 #[.int .i64 (Num.dotN p.costs x k), .int .i64 xd] w' fun e w'' => e = .returned (.tuple #[.agg #[.int .i64 u, .int .i64 v], .int .i64 ez]) ∧ Below W.heap.size W w'' ∧ Below w'.heap.size w' w'') := by
          intro w' h
          exact (rmake_any _ _ w' _ _ _ HMK.out).mono fun _ _ k => ⟨k.1, bstep h k.2, k.2⟩
        go_region_held3 (fun w' => Below W.heap.size W w') (first | assumption | exact (Below.refl _ _).drew | exact ((Below.refl _ _).alloc (Nat.le_refl _) _).drew | (refine Below.alloc ?_ ?_ _ <;> first | assumption | (apply Below.size; assumption)) | (refine Below.setCell (Below.setCell ?_ ?_ _) ?_ _ <;> first | assumption | exact Nat.le_refl _ | (apply Below.size; assumption)))
          (first | (go_at_call 18; refine (KD.out _ ?_).mono ?_; assumption; rintro e v1 ⟨rfl, hb1', hk1'⟩; (try (have hz2 := kept2d hk1')))
                 | (go_at_call 17; refine (KM.out _ ?_).mono ?_; assumption; rintro e v2 ⟨rfl, hb2', hk2'⟩; (first | (have hz2 := carry2 hk2' hz2) | (have hz2 := kept2 hk2') | (have hz2 := kept2d hk2') | skip)))
        · rename_i hfin
          have HG : Hid (Below W.heap.size W (v2.alloc (.cells #[.int .i64 u, .int .i64 v] 29))) := hfin
          have HZ0 : Hid _ := cell_new2 (w := v2) rfl (.int .i64 u) (.int .i64 v) 29
          have hle : W.heap.size ≤ v2.heap.size := hb2'.size
          clear q0 q1 q2 KD KM
          go_wp2_with fail
          go_meet
          exact ⟨_, rfl, rfl, HZ0.out, hle, HG.out⟩
        · rename_i hfin
          have HG : Hid (Below W.heap.size W ((v2.setCell ⟨v1.heap.size, 0, none⟩ (.int .i64 u)).setCell ⟨v1.heap.size, 1, none⟩ (.int .i64 v))) := hfin
          obtain ⟨⟨y0, y1⟩, _⟩ := hz2
          have HZ0 : Hid _ := two_set y0 y1 (.int .i64 u) (.int .i64 v) _ rfl
          have hle : W.heap.size ≤ v1.heap.size := hb1'.size
          clear q0 q1 q2 KD KM y0 y1
          go_wp2_with fail
          go_meet
          exact ⟨_, rfl, rfl, HZ0.out, hle, HG.out⟩
        · rename_i hfin
          have HG : Hid (Below W.heap.size W ((v2.setCell ⟨W.heap.size, 0, none⟩ (.int .i64 u)).setCell ⟨W.heap.size, 1, none⟩ (.int .i64 v))) := hfin
          obtain ⟨⟨y0, y1⟩, _⟩ := hz2
          have HZ0 : Hid _ := two_set y0 y1 (.int .i64 u) (.int .i64 v) _ rfl
          clear q0 q1 q2 KD KM y0 y1
          go_wp2_with fail
          go_meet
          exact ⟨_, rfl, rfl, HZ0.out, Nat.le_refl _, HG.out⟩
      case rest =>
      obtain ⟨b1, rfl, rfl, HB1C, hb1l, hbW1⟩ := hcut
      have hbl1 := bstep hbl hbW1
      clear hbW1 hbl hb1l
      go_upto_region 15 with fail
      generalize wc = W' at *
      clear W
      generalize W' = W at *
      go_cut [10, 11] from 87 to 97 (fun s8 s9 wx => ∃ b2 : Nat, s8 = .pointer (some ⟨b2, 0, none⟩) ∧ s9 = .int .i64 z2 ∧ Hid (wx.cell? ⟨b2, 0, none⟩ = some (.int .i64 u2) ∧ wx.cell? ⟨b2, 1, none⟩ = some (.int .i64 v2')) ∧ W.heap.size ≤ b2 ∧ Below W.heap.size W wx)
      case first =>
        have q0 : ∀ w', Below W.heap.size W w' → w'.cell? ⟨w.heap.size, 0, none⟩ = some (.slice ca k cc) := fun w' h => (HBX.out w' (bstep hbl1 h)).1.1
        have q1 : ∀ w', Below W.heap.size W w' → w'.cell? ⟨w.heap.size, 1, none⟩ = some (.slice ra yl rc) := fun w' h => (HBX.out w' (bstep hbl1 h)).1.2
        have q2 : ∀ w', Below W.heap.size W w' → w'.cell? ⟨w.heap.size + 1, 3, none⟩ = some (.slice ya yl yc) := fun w' h => (HBX.out w' (bstep hbl1 h)).2.1.n3
        have q3 : ∀ w', Below W.heap.size W w' → w'.cell? ⟨w.heap.size + 1, 4, none⟩ = some (.int .i64 yd) := fun w' h => (HBX.out w' (bstep hbl1 h)).2.1.n4
        have KD : Hid (∀ w', Below W.heap.size W w' → Calls Tryz.prog 19 #[.agg #[.slice ca k cc, .slice ra yl rc], .agg #[.slice ya yl yc, .int .i64 yd]] w' fun e w'' => e = .returned (.int .i64 (Num.pricedN p yl y)) ∧ Below W.heap.size W w'' ∧ Below w'.heap.size w' w'') := by
          intro w' h
          exact (rmost_any _ _ _ _ _ _ p w' (RowsAt.below HR.out (HBX.out w' (bstep hbl1 h)).2.2.2 (Nat.le_refl _)) HM.out _ _ y yd (Ints.below HY.out (HBX.out w' (bstep hbl1 h)).2.2.2 (Nat.le_refl _)) HYB.out).mono fun _ _ k => ⟨k.1, bstep h k.2, k.2⟩
        have KM : Hid (∀ w', Below W.heap.size W w' → Calls Tryz.prog 17 #[.int .i64 (Num.pricedN p yl y), .int .i64 yd] w' fun e w'' => e = .returned (.tuple #[.agg #[.int .i64 u2, .int .i64 v2'], .int .i64 z2]) ∧ Below W.heap.size W w'' ∧ Below w'.heap.size w' w'') := by
          intro w' h
          exact (rmake_any _ _ w' _ _ _ HMK2.out).mono fun _ _ k => ⟨k.1, bstep h k.2, k.2⟩
        go_region_held3 (fun w' => Below W.heap.size W w') (first | assumption | exact (Below.refl _ _).drew | exact ((Below.refl _ _).alloc (Nat.le_refl _) _).drew | (refine Below.alloc ?_ ?_ _ <;> first | assumption | (apply Below.size; assumption)) | (refine Below.setCell (Below.setCell ?_ ?_ _) ?_ _ <;> first | assumption | exact Nat.le_refl _ | (apply Below.size; assumption)))
          (first | (go_at_call 19; refine (KD.out _ ?_).mono ?_; assumption; rintro e v1 ⟨rfl, hb1', hk1'⟩; (try (have hz2 := kept2d hk1')))
                 | (go_at_call 17; refine (KM.out _ ?_).mono ?_; assumption; rintro e v2 ⟨rfl, hb2', hk2'⟩; (first | (have hz2 := carry2 hk2' hz2) | (have hz2 := kept2 hk2') | (have hz2 := kept2d hk2') | skip)))
        · rename_i hfin
          have HG : Hid (Below W.heap.size W (v2.alloc (.cells #[.int .i64 u2, .int .i64 v2'] 29))) := hfin
          have HZ0 : Hid _ := cell_new2 (w := v2) rfl (.int .i64 u2) (.int .i64 v2') 29
          have hle : W.heap.size ≤ v2.heap.size := hb2'.size
          clear q0 q1 q2 q3 KD KM
          go_wp2_with fail
          go_meet
          exact ⟨_, rfl, rfl, HZ0.out, hle, HG.out⟩
        · rename_i hfin
          have HG : Hid (Below W.heap.size W ((v2.setCell ⟨v1.heap.size, 0, none⟩ (.int .i64 u2)).setCell ⟨v1.heap.size, 1, none⟩ (.int .i64 v2'))) := hfin
          obtain ⟨⟨y0, y1⟩, _⟩ := hz2
          have HZ0 : Hid _ := two_set y0 y1 (.int .i64 u2) (.int .i64 v2') _ rfl
          have hle : W.heap.size ≤ v1.heap.size := hb1'.size
          clear q0 q1 q2 q3 KD KM y0 y1
          go_wp2_with fail
          go_meet
          exact ⟨_, rfl, rfl, HZ0.out, hle, HG.out⟩
        · rename_i hfin
          have HG : Hid (Below W.heap.size W ((v2.setCell ⟨W.heap.size, 0, none⟩ (.int .i64 u2)).setCell ⟨W.heap.size, 1, none⟩ (.int .i64 v2'))) := hfin
          obtain ⟨⟨y0, y1⟩, _⟩ := hz2
          have HZ0 : Hid _ := two_set y0 y1 (.int .i64 u2) (.int .i64 v2') _ rfl
          clear q0 q1 q2 q3 KD KM y0 y1
          go_wp2_with fail
          go_meet
          exact ⟨_, rfl, rfl, HZ0.out, Nat.le_refl _, HG.out⟩
      case rest =>
      obtain ⟨b2, rfl, rfl, HB2C, hb2l, hbW2⟩ := hcut
      have hbl2 := bstep hbl1 hbW2
      have g0 := carry hbW2 HB1C.out.1
      have g1 := carry hbW2 HB1C.out.2
      obtain ⟨f0, f1⟩ := HB2C.out
      obtain ⟨⟨c0, c1⟩, ⟨n0, n1, n2, n3, n4, n5, n6, n7, n8⟩, hz1, hB1⟩ := HBX.out wc hbl2
      clear hbl1 hbW2 hbl2 HB1C HB2C hb2l
      by_cases e1 : ¬ ez = 0
      · have e1' : (ez == 0) = false := by simpa using e1
        have hf : res = false := by rw [HF.out]; simp [e1]
        go_wp2_with fail
        go_ret
        (first | exact ⟨ret_bool hf.symm, hB1⟩ | exact ⟨rfl, hB1⟩)
      obtain rfl : ez = 0 := by omega
      by_cases e2 : ¬ z2 = 0
      · have e2' : (z2 == 0) = false := by simpa using e2
        have hf : res = false := by rw [HF.out]; simp [e2]
        go_wp2_with fail
        go_ret
        (first | exact ⟨ret_bool hf.symm, hB1⟩ | exact ⟨rfl, hB1⟩)
      obtain rfl : z2 = 0 := by omega
      by_cases e3 : ¬ u = u2
      · have e3w : u = wn → ¬ u2 = wn := fun h h2 => e3 (h.trans h2.symm)
        have hf : res = false := by rw [HF.out]; simp; intro h1 _ h3; exact absurd h3 (e3w h1)
        go_wp2_with fail
        go_ret
        (first | exact ⟨ret_bool hf.symm, hB1⟩ | exact ⟨rfl, hB1⟩)
      obtain rfl : u = u2 := by omega
      by_cases e4 : ¬ v = v2'
      · have e4w : v = wd → ¬ v2' = wd := fun h h2 => e4 (h.trans h2.symm)
        have hf : res = false := by rw [HF.out]; simp; intro _ h2 _; exact e4w h2
        go_wp2_with fail
        go_ret
        (first | exact ⟨ret_bool hf.symm, hB1⟩ | exact ⟨rfl, hB1⟩)
      obtain rfl : v = v2' := by omega
      by_cases e5 : ¬ u = wn
      ·
        have hf : res = false := by rw [HF.out]; simp [e5]
        go_wp2_with fail
        go_ret
        (first | exact ⟨ret_bool hf.symm, hB1⟩ | exact ⟨rfl, hB1⟩)
      obtain rfl : u = wn := by omega
      by_cases e6 : ¬ v = wd
      ·
        have hf : res = false := by rw [HF.out]; simp [e6]
        go_wp2_with fail
        go_ret
        (first | exact ⟨ret_bool hf.symm, hB1⟩ | exact ⟨rfl, hB1⟩)
      obtain rfl : v = wd := by omega
      have hf : res = true := by rw [HF.out]; simp
      go_wp2_with fail
      go_ret
      (first | exact ⟨ret_bool hf.symm, hB1⟩ | exact ⟨rfl, hB1⟩)

end Go.Proofs.YtipcbhodlgoflaaGreat
