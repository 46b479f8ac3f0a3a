/- What the document's Holds does with Endless. -/
import Derived.Test.YtjlkegchkngliaaRef4W2
namespace Go.Proofs.Ytjlkegchkngliaa
open Go.RowKit

theorem Num.endless_no (p : Num.Lp) (a : Num.Ans) (h : p.goes a.x a.xd = false) : Num.endlessB p a = false := by unfold Num.endlessB; rw [h]; rfl
theorem Num.endless_pt (p : Num.Lp) (a : Num.Ans) (h : Num.pointB p.costs.length a.r a.rd = false) : Num.endlessB p a = false := by unfold Num.endlessB; rw [h]; simp
theorem Num.endless_rd (p : Num.Lp) (a : Num.Ans) (h : (a.rd == 1) = false) : Num.endlessB p a = false := by unfold Num.endlessB; rw [h]; simp
theorem Num.endless_rows (p : Num.Lp) (a : Num.Ans) (h : p.rows.all (Num.rowLevel a.r p.costs.length) = false) : Num.endlessB p a = false := by unfold Num.endlessB; rw [h]; simp
theorem Num.endless_yes (p : Num.Lp) (a : Num.Ans) (h1 : p.goes a.x a.xd = true) (h2 : Num.pointB p.costs.length a.r a.rd = true) (h3 : (a.rd == 1) = true) (h4 : p.rows.all (Num.rowLevel a.r p.costs.length) = true) : Num.endlessB p a = decide (0 < Num.dotN p.costs a.r p.costs.length) := by unfold Num.endlessB; rw [h1, h2, h3, h4]; simp

set_option maxRecDepth 4000 in
set_option maxHeartbeats 3200000 in
theorem rholds_endless (ca : Option Addr) (cl cc : Nat) (ra : Option Addr) (m rc : Nat) (p : Num.Lp) (w : World) (hc : Ints w ca cl p.costs) (hcl : cl ≤ 9223372036854775807) (hr : RowsAt w ra m p.rows) (hrl : m ≤ 9223372036854775807) (a : Num.Ans)
    (xa : Option Addr) (xl xc : Nat) (ya : Option Addr) (yl yc : Nat) (za : Option Addr) (zl zc : Nat) (hx : Ints w xa xl a.x) (hxl : xl ≤ 9223372036854775807) (hy : Ints w ya yl a.y) (_hyl : yl ≤ 9223372036854775807) (hz : Ints w za zl a.r) (hzl : zl ≤ 9223372036854775807) (hm : p.may = true) (hk : a.kind = 2) :
    Calls Try.prog 35 #[.agg #[.slice ca cl cc, .slice ra m rc], .agg #[.int .i64 a.kind, .slice xa xl xc, .int .i64 a.xd, .slice ya yl yc, .int .i64 a.yd, .slice za zl zc, .int .i64 a.rd, .int .i64 a.wn, .int .i64 a.wd]] w fun e w' =>
      e = .returned (.bool (Num.holds p a)) ∧ Below w.heap.size w w' := by
  have HC : Hid (Ints w ca cl p.costs) := hc
  have HR : Hid (RowsAt w ra m p.rows) := hr
  have HX : Hid (Ints w xa xl a.x) := hx
  have HY : Hid (Ints w ya yl a.y) := hy
  have HZ : Hid (Ints w za zl a.r) := hz
  have HXL : Hid (xl = a.x.length) := hx.1
  have HYL : Hid (yl = a.y.length) := hy.1
  have HZL : Hid (zl = a.r.length) := hz.1
  have HCL : Hid (cl = p.costs.length) := hc.1
  have HRL : Hid (m = p.rows.length) := hr.1
  clear hr hx hy hz hc
  have hL0 : Below ((w.alloc (.cells #[.slice ca cl cc, .slice ra m rc] 40)).alloc (.cells #[.int .i64 a.kind, .slice xa xl xc, .int .i64 a.xd, .slice ya yl yc, .int .i64 a.yd, .slice za zl zc, .int .i64 a.rd, .int .i64 a.wn, .int .i64 a.wd] 57)).heap.size ((w.alloc (.cells #[.slice ca cl cc, .slice ra m rc] 40)).alloc (.cells #[.int .i64 a.kind, .slice xa xl xc, .int .i64 a.xd, .slice ya yl yc, .int .i64 a.yd, .slice za zl zc, .int .i64 a.rd, .int .i64 a.wn, .int .i64 a.wd] 57)) ((w.alloc (.cells #[.slice ca cl cc, .slice ra m rc] 40)).alloc (.cells #[.int .i64 a.kind, .slice xa xl xc, .int .i64 a.xd, .slice ya yl yc, .int .i64 a.yd, .slice za zl zc, .int .i64 a.rd, .int .i64 a.wn, .int .i64 a.wd] 57)) := Below.refl _ _
  have HM : Hid (p.may = true) := hm
  have hcl4 : cl ≤ 4 := by have := HCL.out; have := (p.may_of hm).1.2; omega
  have hm4 : m ≤ 4 := by have := HRL.out; have := (p.may_of hm).2.2.1.2; omega
  have HH := Num.holds_endless p a hm hk
  have HN1 := Num.endless_no p a
  have HN2 := Num.endless_pt p a
  have HN3 := Num.endless_rd p a
  have HN4 := Num.endless_rows p a
  have HN5 := Num.endless_yes p a
  rw [← HCL.out] at HN2 HN4 HN5
  have HEQ : Hid _ := HH
  have H1 : Hid _ := HN1
  have H2 : Hid _ := HN2
  have H3 : Hid _ := HN3
  have H4 : Hid _ := HN4
  have H5 : Hid _ := HN5
  clear HH HN1 HN2 HN3 HN4 HN5
  generalize Num.holds p a = res at *
  generalize Num.endlessB p a = rn at *
  obtain ⟨kd, x, xd, y, yd, z, zd, wn, wd⟩ := a
  dsimp only at *
  subst hk
  go_enter Try.func35, Try.ntmps35
  go_wp2_with fail
  generalize hV : (w.alloc (.cells #[.slice ca cl cc, .slice ra m rc] 40)).alloc (.cells #[.int .i64 2, .slice xa xl xc, .int .i64 xd, .slice ya yl yc, .int .i64 yd, .slice za zl zc, .int .i64 zd, .int .i64 wn, .int .i64 wd] 57) = V at *
  have HBX : Hid (∀ w', Below V.heap.size V w' → (w'.cell? ⟨w.heap.size, 0, none⟩ = some (.slice ca cl cc) ∧ w'.cell? ⟨w.heap.size, 1, none⟩ = some (.slice ra m rc)) ∧ Nine (w.heap.size + 1) (.int .i64 2) (.slice xa xl xc) (.int .i64 xd) (.slice ya yl yc) (.int .i64 yd) (.slice za zl zc) (.int .i64 zd) (.int .i64 wn) (.int .i64 wd) w' ∧ w.heap.size + 1 < w'.heap.size ∧ Below w.heap.size w w') := by
    intro w' h; rw [← hV] at h; exact box29 h
  clear hV
  have hB0 := (HBX.out V hL0).2.2.2
  refine (r2may_any _ _ _ _ _ _ p _ (Ints.below HC.out hB0 (Nat.le_refl _)) hcl (RowsAt.below HR.out hB0 (Nat.le_refl _)) hrl).mono ?_
  rintro e w1 ⟨rfl, hk1⟩
  have hb1 := bstep hL0 hk1
  rw [hm]
  clear hB0 hk1 hL0
  obtain ⟨⟨c0, c1⟩, ⟨n0, n1, n2, n3, n4, n5, n6, n7, n8⟩, hz1, hB1⟩ := HBX.out w1 hb1
  go_upto_region 3 with fail
  go_cut [5] from 17 to 26 (fun s wx => s = .bool (Num.zeroW wn wd) ∧ wx = w1)
  case first =>
    by_cases e1 : ¬ wn = 0
    · have e1' : (wn == 0) = false := by simpa using e1
      go_wp2_with fail
      go_meet
      exact ⟨by unfold Num.zeroW; rw [e1']; rfl, rfl⟩
    obtain rfl : wn = 0 := by omega
    go_wp2_with fail
    go_meet
    exact ⟨by unfold Num.zeroW; simp, rfl⟩
  case rest =>
  obtain ⟨rfl, rfl⟩ := hcut
  go_wp2_with fail
  refine (rempty_any ya yl yc yd y _ HYL.out).mono ?_
  rintro e w2 ⟨rfl, hk2⟩
  have hb2 := bstep hb1 hk2
  clear c0 c1 n0 n1 n2 n3 n4 n5 n6 n7 n8 hz1 hB1 hb1 hk2
  obtain ⟨⟨c0, c1⟩, ⟨n0, n1, n2, n3, n4, n5, n6, n7, n8⟩, hz1, hB1⟩ := HBX.out w2 hb2
  cases t1 : Num.thereB y yd with
  | true =>
    have hf : res = false := by rw [HEQ.out, t1]; rfl
    go_wp2_with fail
    go_ret
    (first | exact ⟨ret_bool hf.symm, hB1⟩ | exact ⟨rfl, hB1⟩)
  | false =>
  cases t3 : Num.zeroW wn wd with
  | false =>
    have hf : res = false := by rw [HEQ.out, t1, t3]; rfl
    go_wp2_with fail
    go_ret
    (first | exact ⟨ret_bool hf.symm, hB1⟩ | exact ⟨rfl, hB1⟩)
  | true =>
  have HR1 : Hid (res = rn) := by show res = rn; rw [HEQ.out, t1, t3]; rfl
  clear HEQ
  go_wp2_with fail
  refine (r2goes_any _ _ _ _ _ _ p _ (Ints.below HC.out hB1 (Nat.le_refl _)) hcl (RowsAt.below HR.out hB1 (Nat.le_refl _)) hrl _ _ _ x xd (Ints.below HX.out hB1 (Nat.le_refl _)) hxl).mono ?_
  rintro e w3 ⟨rfl, hk3⟩
  have hb3 := bstep hb2 hk3
  clear c0 c1 n0 n1 n2 n3 n4 n5 n6 n7 n8 hz1 hB1 hb2 hk3
  obtain ⟨⟨c0, c1⟩, ⟨n0, n1, n2, n3, n4, n5, n6, n7, n8⟩, hz1, hB1⟩ := HBX.out w3 hb3
  cases t2 : p.goes x xd with
  | false =>
    have hf : res = false := by rw [HR1.out]; exact H1.out t2
    go_wp2_with fail
    go_ret
    (first | exact ⟨ret_bool hf.symm, hB1⟩ | exact ⟨rfl, hB1⟩)
  | true =>
  go_wp2_with fail
  refine (rpoint4_any za zl zc zd z cl _ (Ints.below HZ.out hB1 (Nat.le_refl _)) hzl).mono ?_
  rintro e w4 ⟨rfl, hk4⟩
  have hb4 := bstep hb3 hk4
  clear c0 c1 n0 n1 n2 n3 n4 n5 n6 n7 n8 hz1 hB1 hb3 hk4
  obtain ⟨⟨c0, c1⟩, ⟨n0, n1, n2, n3, n4, n5, n6, n7, n8⟩, hz1, hB1⟩ := HBX.out w4 hb4
  cases t4 : Num.pointB cl z zd with
  | false =>
    have hf : res = false := by rw [HR1.out]; exact H2.out t4
    go_wp2_with fail
    go_ret
    (first | exact ⟨ret_bool hf.symm, hB1⟩ | exact ⟨rfl, hB1⟩)
  | true =>
  cases hd : (zd == 1) with
  | false =>
    have hf : res = false := by rw [HR1.out]; exact H3.out hd
    go_wp2_with fail
    go_ret
    (first | exact ⟨ret_bool hf.symm, hB1⟩ | exact ⟨rfl, hB1⟩)
  | true =>
  obtain rfl : zd = 1 := by simpa using hd
  obtain ⟨hzm, _, hzw, _, _⟩ := Num.point_of _ _ _ t4
  have HZB : Hid (∀ j : Nat, -1073741824 ≤ z[j]?.getD 0 ∧ z[j]?.getD 0 ≤ 1073741824) := Num.withinB_iff _ _ hzw (by omega)
  have hzlm : zl = cl := by have := HZ.out.1; omega
  have HT4 : Hid _ := t4
  have HCB : Hid (∀ j : Nat, -400 ≤ p.costs[j]?.getD 0 ∧ p.costs[j]?.getD 0 ≤ 400) := Num.withinB_iff _ _ (p.may_of HM.out).2.1 (by omega)
  clear hzw hzm t4
  subst hzlm
  go_wp2_with fail
  clear c0 c1 n0 n1 n2 n3 n4 n5 n6 n7 n8 hz1 hB1
  go_loopw [12] (fun i wr => ∃ k : Nat, k ≤ m ∧ i = .int .i64 k ∧ (p.rows.take k).all (Num.rowLevel z zl) = true ∧ Below V.heap.size V wr) (fun i _ => m - (intOf i).toNat)
  case atStart => exact ⟨0, Nat.zero_le _, rfl, rfl, hb4⟩
  case round =>
    obtain ⟨k, hk, rfl, hall, hbl⟩ := hrel
    have HALL : Hid _ := hall
    clear hall hb4
    obtain ⟨⟨c0, c1⟩, ⟨n0, n1, n2, n3, n4, n5, n6, n7, n8⟩, hz1, hB1⟩ := HBX.out wr hbl
    by_cases hlt : k < m
    · rcases (RowsAt.below HR.out hB1 (Nat.le_refl _)).2 with h | ⟨b, off, ha, hbs, hc⟩
      · omega
      obtain ⟨ta, tl, tc, d0, d1, ht, htl⟩ := hc k hlt
      have hrow := p.row_of HM.out k (by have := HRL.out; omega)
      have HS : Hid ((p.rows.take (k + 1)).all (Num.rowLevel z zl) = ((p.rows.take k).all (Num.rowLevel z zl) && Num.rowLevel z zl (p.rows[k]?.getD ([], 0)))) := Num.all_take_succ (Num.rowLevel z zl) p.rows k (by have := HRL.out; omega) ([], 0)
      have HN : Hid (Num.rowLevel z zl (p.rows[k]?.getD ([], 0)) = false → p.rows.all (Num.rowLevel z zl) = false) := Num.all_false_of (Num.rowLevel z zl) p.rows k (by have := HRL.out; omega) ([], 0)
      generalize (p.rows[k]?.getD ([], 0)) = r at *
      obtain ⟨r1, r2⟩ := r
      dsimp only at *
      obtain ⟨hr0, hr1, _⟩ := hrow
      have hte : tl = zl := by have := ht.1; have := HCL.out; omega
      have HT : Hid (Ints wr ta tl r1) := ht
      have HWR : Hid (∀ j : Nat, -12 ≤ r1[j]?.getD 0 ∧ r1[j]?.getD 0 ≤ 12) := Num.withinB_iff _ _ hr1 (by omega)
      have HG : Hid (Num.rowLevel z zl (r1, r2) = decide (Num.dotN r1 z zl ≤ 0)) := rfl
      clear hr0 hr1 ht hc d1
      subst ha hte
      have q1 : ∀ w', Below wr.heap.size wr w' → w'.cell? ⟨w.heap.size, 1, none⟩ = some (.slice (some ⟨b, off, none⟩) m rc) := fun w' h => (HBX.out w' (bstep hbl h)).1.2
      have q2 : ∀ w', Below wr.heap.size wr w' → w'.cell? ⟨w.heap.size + 1, 5, none⟩ = some (.slice za tl zc) := fun w' h => (HBX.out w' (bstep hbl h)).2.1.n5
      have q3 : ∀ w', Below wr.heap.size wr w' → w'.cell? ⟨b, off + k * 2, none⟩ = some (.slice ta tl tc) := fun w' h => by rw [h.cell (p := ⟨b, off + k * 2, none⟩) hbs]; exact d0
      have KT : Hid (∀ w', Below wr.heap.size wr w' → Calls Try.prog 29 #[.slice ta tl tc, .slice za tl zc] w' fun e w'' => e = .returned (.int .i64 (Num.dotN r1 z tl)) ∧ Below wr.heap.size wr w'') := by
        intro w' h
        exact (below_of_drew (dot_any _ _ _ _ _ _ r1 z w' 12 1073741824 (Ints.below HT.out h (Nat.le_refl _)) (Ints.below HZ.out (HBX.out w' (bstep hbl h)).2.2.2 (Nat.le_refl _)) (Nat.le_refl _) (by omega) HWR.out HZB.out (by omega))).mono fun _ _ k => ⟨k.1, bstep h k.2⟩
      have hS0 : Below wr.heap.size wr wr.drew := (Below.refl _ _).drew
      generalize Num.dotN r1 z tl = D at HG KT
      go_wp2_with fail
      go_region_held3 (fun w' => Below wr.heap.size wr w') (first | assumption)
        (first | (go_at_call 29; refine (KT.out _ ?_).mono ?_; assumption; rintro e v1 ⟨rfl, hk1⟩))
      have hbv := bstep hbl hk1
      clear q1 q2 q3 KT hS0 d0 hk1
      by_cases hg : 0 < D
      · have hf : res = false := by
          rw [HR1.out]
          exact H4.out (HN.out (by rw [HG.out]; simp; omega))
        have hBv := (HBX.out v1 hbv).2.2.2
        go_wp2_with fail
        go_ret
        (first | exact ⟨ret_bool hf.symm, hBv⟩ | exact ⟨rfl, hBv⟩)
      · have hg' : decide (0 < D) = false := by simpa using hg
        clear c0 c1 n0 n1 n2 n3 n4 n5 n6 n7 n8 hz1 hB1 hbl
        go_wp2_with fail
        go_roundw
        case rel => exact ⟨k + 1, hlt, by go_num, by rw [HS.out, HALL.out, HG.out]; simp; omega, hbv⟩
        case measure => simp [intOf]; omega
    · have hke : k = p.rows.length := by have := HRL.out; omega
      have HF : Hid (res = decide (0 < Num.dotN p.costs z zl)) := by show res = _; rw [HR1.out]; exact H5.out t2 HT4.out hd (Num.all_full _ _ _ hke HALL.out)
      clear hke
      obtain rfl : k = m := by omega
      go_wp2_with fail
      refine (below_of_drew (dot_any _ _ _ _ _ _ p.costs z _ 400 1073741824 (Ints.below HC.out hB1 (Nat.le_refl _)) (Ints.below HZ.out hB1 (Nat.le_refl _)) (Nat.le_refl _) (by omega) HCB.out HZB.out (by omega))).mono ?_
      rintro e v1 ⟨rfl, hk1⟩
      have hBv := bstep hB1 hk1
      go_wp2_with fail
      go_ret
      exact ⟨ret_bool HF.out.symm, hBv⟩

end Go.Proofs.Ytjlkegchkngliaa
