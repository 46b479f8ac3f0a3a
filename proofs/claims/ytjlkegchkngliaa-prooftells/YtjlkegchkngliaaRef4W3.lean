/- What the document's Holds does with Nothing. -/
import Derived.Test.YtjlkegchkngliaaRef4W2
namespace Go.Proofs.Ytjlkegchkngliaa
open Go.RowKit

set_option maxRecDepth 4000 in
set_option maxHeartbeats 3200000 in
theorem rholds_nothing (ca : Option Addr) (cl cc : Nat) (ra : Option Addr) (m rc : Nat) (p : Num.Lp) (w : World) (hc : Ints w ca cl p.costs) (hcl : cl ≤ 9223372036854775807) (hr : RowsAt w ra m p.rows) (hrl : m ≤ 9223372036854775807) (a : Num.Ans)
    (xa : Option Addr) (xl xc : Nat) (ya : Option Addr) (yl yc : Nat) (za : Option Addr) (zl zc : Nat) (hx : Ints w xa xl a.x) (_hxl : xl ≤ 9223372036854775807) (hy : Ints w ya yl a.y) (hyl : yl ≤ 9223372036854775807) (hz : Ints w za zl a.r) (_hzl : zl ≤ 9223372036854775807) (hm : p.may = true) (hk : a.kind = 3) :
    Calls Try.prog 35 #[.agg #[.slice ca cl cc, .slice ra m rc], .agg #[.int .i64 a.kind, .slice xa xl xc, .int .i64 a.xd, .slice ya yl yc, .int .i64 a.yd, .slice za zl zc, .int .i64 a.rd, .int .i64 a.wn, .int .i64 a.wd]] w fun e w' =>
      e = .returned (.bool (Num.holds p a)) ∧ Below w.heap.size w w' := by
  have HC : Hid (Ints w ca cl p.costs) := hc
  have HR : Hid (RowsAt w ra m p.rows) := hr
  have HX : Hid (Ints w xa xl a.x) := hx
  have HY : Hid (Ints w ya yl a.y) := hy
  have HZ : Hid (Ints w za zl a.r) := hz
  have HXL : Hid (xl = a.x.length) := hx.1
  have HYL : Hid (yl = a.y.length) := hy.1
  have HZL : Hid (zl = a.r.length) := hz.1
  have HCL : Hid (cl = p.costs.length) := hc.1
  have HRL : Hid (m = p.rows.length) := hr.1
  clear hr hx hy hz hc
  have hL0 : Below ((w.alloc (.cells #[.slice ca cl cc, .slice ra m rc] 40)).alloc (.cells #[.int .i64 a.kind, .slice xa xl xc, .int .i64 a.xd, .slice ya yl yc, .int .i64 a.yd, .slice za zl zc, .int .i64 a.rd, .int .i64 a.wn, .int .i64 a.wd] 57)).heap.size ((w.alloc (.cells #[.slice ca cl cc, .slice ra m rc] 40)).alloc (.cells #[.int .i64 a.kind, .slice xa xl xc, .int .i64 a.xd, .slice ya yl yc, .int .i64 a.yd, .slice za zl zc, .int .i64 a.rd, .int .i64 a.wn, .int .i64 a.wd] 57)) ((w.alloc (.cells #[.slice ca cl cc, .slice ra m rc] 40)).alloc (.cells #[.int .i64 a.kind, .slice xa xl xc, .int .i64 a.xd, .slice ya yl yc, .int .i64 a.yd, .slice za zl zc, .int .i64 a.rd, .int .i64 a.wn, .int .i64 a.wd] 57)) := Below.refl _ _
  have HM : Hid (p.may = true) := hm
  have hcl4 : cl ≤ 4 := by have := HCL.out; have := (p.may_of hm).1.2; omega
  have hm4 : m ≤ 4 := by have := HRL.out; have := (p.may_of hm).2.2.1.2; omega
  have HH := Num.holds_nothing p a hm hk
  have HN1 := Num.nothing_no p a
  have HN2 := Num.nothing_cov p a
  have HN3 := Num.nothing_yes p a
  rw [← HRL.out, ← HCL.out] at HN2 HN3
  have HEQ : Hid _ := HH
  have H1 : Hid _ := HN1
  have H2 : Hid _ := HN2
  have H3 : Hid _ := HN3
  clear HH HN1 HN2 HN3
  generalize Num.holds p a = res at *
  generalize Num.nothingB p a = rn at *
  obtain ⟨kd, x, xd, y, yd, z, zd, wn, wd⟩ := a
  dsimp only at *
  subst hk
  go_enter Try.func35, Try.ntmps35
  go_wp2_with fail
  generalize hV : (w.alloc (.cells #[.slice ca cl cc, .slice ra m rc] 40)).alloc (.cells #[.int .i64 3, .slice xa xl xc, .int .i64 xd, .slice ya yl yc, .int .i64 yd, .slice za zl zc, .int .i64 zd, .int .i64 wn, .int .i64 wd] 57) = V at *
  have HBX : Hid (∀ w', Below V.heap.size V w' → (w'.cell? ⟨w.heap.size, 0, none⟩ = some (.slice ca cl cc) ∧ w'.cell? ⟨w.heap.size, 1, none⟩ = some (.slice ra m rc)) ∧ Nine (w.heap.size + 1) (.int .i64 3) (.slice xa xl xc) (.int .i64 xd) (.slice ya yl yc) (.int .i64 yd) (.slice za zl zc) (.int .i64 zd) (.int .i64 wn) (.int .i64 wd) w' ∧ w.heap.size + 1 < w'.heap.size ∧ Below w.heap.size w w') := by
    intro w' h; rw [← hV] at h; exact box29 h
  clear hV
  have hB0 := (HBX.out V hL0).2.2.2
  refine (r2may_any _ _ _ _ _ _ p _ (Ints.below HC.out hB0 (Nat.le_refl _)) hcl (RowsAt.below HR.out hB0 (Nat.le_refl _)) hrl).mono ?_
  rintro e w1 ⟨rfl, hk1⟩
  have hb1 := bstep hL0 hk1
  rw [hm]
  clear hB0 hk1 hL0
  obtain ⟨⟨c0, c1⟩, ⟨n0, n1, n2, n3, n4, n5, n6, n7, n8⟩, hz1, hB1⟩ := HBX.out w1 hb1
  go_upto_region 3 with fail
  go_cut [5] from 17 to 26 (fun s wx => s = .bool (Num.zeroW wn wd) ∧ wx = w1)
  case first =>
    by_cases e1 : ¬ wn = 0
    · have e1' : (wn == 0) = false := by simpa using e1
      go_wp2_with fail
      go_meet
      exact ⟨by unfold Num.zeroW; rw [e1']; rfl, rfl⟩
    obtain rfl : wn = 0 := by omega
    go_wp2_with fail
    go_meet
    exact ⟨by unfold Num.zeroW; simp, rfl⟩
  case rest =>
  obtain ⟨rfl, rfl⟩ := hcut
  go_wp2_with fail
  refine (rempty_any xa xl xc xd x _ HXL.out).mono ?_
  rintro e w2 ⟨rfl, hk2⟩
  have hb2 := bstep hb1 hk2
  clear c0 c1 n0 n1 n2 n3 n4 n5 n6 n7 n8 hz1 hB1 hb1 hk2
  obtain ⟨⟨c0, c1⟩, ⟨n0, n1, n2, n3, n4, n5, n6, n7, n8⟩, hz1, hB1⟩ := HBX.out w2 hb2
  cases t1 : Num.thereB x xd with
  | true =>
    have hf : res = false := by rw [HEQ.out, t1]; rfl
    go_wp2_with fail
    go_ret
    (first | exact ⟨ret_bool hf.symm, hB1⟩ | exact ⟨rfl, hB1⟩)
  | false =>
  go_wp2_with fail
  refine (rempty_any za zl zc zd z _ HZL.out).mono ?_
  rintro e w3 ⟨rfl, hk3⟩
  have hb3 := bstep hb2 hk3
  clear c0 c1 n0 n1 n2 n3 n4 n5 n6 n7 n8 hz1 hB1 hb2 hk3
  obtain ⟨⟨c0, c1⟩, ⟨n0, n1, n2, n3, n4, n5, n6, n7, n8⟩, hz1, hB1⟩ := HBX.out w3 hb3
  cases t2 : Num.thereB z zd with
  | true =>
    have hf : res = false := by rw [HEQ.out, t1, t2]; rfl
    go_wp2_with fail
    go_ret
    (first | exact ⟨ret_bool hf.symm, hB1⟩ | exact ⟨rfl, hB1⟩)
  | false =>
  cases t3 : Num.zeroW wn wd with
  | false =>
    have hf : res = false := by rw [HEQ.out, t1, t2, t3]; rfl
    go_wp2_with fail
    go_ret
    (first | exact ⟨ret_bool hf.symm, hB1⟩ | exact ⟨rfl, hB1⟩)
  | true =>
  have HR1 : Hid (res = rn) := by show res = rn; rw [HEQ.out, t1, t2, t3]; rfl
  clear HEQ
  go_wp2_with fail
  refine (rpoint4_any ya yl yc yd y m _ (Ints.below HY.out hB1 (Nat.le_refl _)) hyl).mono ?_
  rintro e w4 ⟨rfl, hk4⟩
  have hb4 := bstep hb3 hk4
  clear c0 c1 n0 n1 n2 n3 n4 n5 n6 n7 n8 hz1 hB1 hb3 hk4
  obtain ⟨⟨c0, c1⟩, ⟨n0, n1, n2, n3, n4, n5, n6, n7, n8⟩, hz1, hB1⟩ := HBX.out w4 hb4
  cases t4 : Num.pointB m y yd with
  | false =>
    have hf : res = false := by rw [HR1.out]; exact H2.out (Num.covers_no _ _ _ _ _ t4)
    go_wp2_with fail
    go_ret
    (first | exact ⟨ret_bool hf.symm, hB1⟩ | exact ⟨rfl, hB1⟩)
  | true =>
  cases hd : (yd == 1) with
  | false =>
    have hf : res = false := by rw [HR1.out]; exact H1.out hd
    go_wp2_with fail
    go_ret
    (first | exact ⟨ret_bool hf.symm, hB1⟩ | exact ⟨rfl, hB1⟩)
  | true =>
  obtain rfl : yd = 1 := by simpa using hd
  obtain ⟨hym, _, hyw, _, _⟩ := Num.point_of _ _ _ t4
  have HYB : Hid (∀ j : Nat, -1073741824 ≤ y[j]?.getD 0 ∧ y[j]?.getD 0 ≤ 1073741824) := Num.withinB_iff _ _ hyw (by omega)
  have hylm : yl = m := by have := HY.out.1; omega
  have HCA := Num.covers_all p m y 1 (List.replicate cl 0) t4
  rw [List.length_replicate] at HCA
  have HCV : Hid _ := HCA
  clear hyw hym HCA t4
  subst hylm
  go_wp2_with fail
  clear c0 c1 n0 n1 n2 n3 n4 n5 n6 n7 n8 hz1 hB1
  go_loopw [13] (fun i wr => ∃ k : Nat, k ≤ cl ∧ i = .int .i64 k ∧ (List.range k).all (Num.costB p yl y 1 (List.replicate cl 0)) = true ∧ Below V.heap.size V wr) (fun i _ => cl - (intOf i).toNat)
  case atStart => exact ⟨0, Nat.zero_le _, rfl, rfl, hb4⟩
  case round =>
    obtain ⟨k, hk, rfl, hall, hbl⟩ := hrel
    have HALL : Hid _ := hall
    clear hall hb4
    obtain ⟨⟨c0, c1⟩, ⟨n0, n1, n2, n3, n4, n5, n6, n7, n8⟩, hz1, hB1⟩ := HBX.out wr hbl
    by_cases hlt : k < cl
    · have HK : Hid (Num.costB p yl y 1 (List.replicate cl 0) k = decide (0 ≤ Num.dotN (Num.colL p yl k) y yl)) := by
        show Num.costB p yl y 1 (List.replicate cl 0) k = _
        unfold Num.costB
        rw [List.getElem?_replicate, if_pos hlt]
        simp
      go_wp2_with fail
      refine (rpriced_any _ _ _ _ _ _ p _ (RowsAt.below HR.out hB1 (Nat.le_refl _)) HM.out _ _ y 1 (Ints.below HY.out hB1 (Nat.le_refl _)) HYB.out k (by have := HCL.out; omega)).mono ?_
      rintro e v1 ⟨rfl, hk1⟩
      have hbv := bstep hbl hk1
      generalize Num.dotN (Num.colL p yl k) y yl = D at *
      by_cases hg : D < 0
      · have hf : res = false := by
          rw [HR1.out]
          exact H2.out (by rw [HCV.out]; exact Num.range_all_false _ _ k hlt (by rw [HK.out]; simp; omega))
        have hBv := (HBX.out v1 hbv).2.2.2
        go_wp2_with fail
        go_ret
        (first | exact ⟨ret_bool hf.symm, hBv⟩ | exact ⟨rfl, hBv⟩)
      · have hg' : decide (D < 0) = false := by simpa using hg
        clear c0 c1 n0 n1 n2 n3 n4 n5 n6 n7 n8 hz1 hB1 hbl hk1
        go_wp2_with fail
        go_roundw
        case rel => exact ⟨k + 1, hlt, by go_num, by rw [Num.range_all_succ, HALL.out, HK.out]; simp; omega, hbv⟩
        case measure => simp [intOf]; omega
    · have hke : k = cl := by omega
      subst hke
      have HF : Hid (res = decide (Num.pricedN p yl y < 0)) := by show res = _; rw [HR1.out]; exact H3.out hd (by rw [HCV.out]; exact HALL.out)
      go_wp2_with fail
      refine (rmost_any _ _ _ _ _ _ p _ (RowsAt.below HR.out hB1 (Nat.le_refl _)) HM.out _ _ y 1 (Ints.below HY.out hB1 (Nat.le_refl _)) HYB.out).mono ?_
      rintro e v1 ⟨rfl, hk1⟩
      have hBv := bstep hB1 hk1
      go_wp2_with fail
      go_ret
      exact ⟨ret_bool HF.out.symm, hBv⟩

end Go.Proofs.Ytjlkegchkngliaa
