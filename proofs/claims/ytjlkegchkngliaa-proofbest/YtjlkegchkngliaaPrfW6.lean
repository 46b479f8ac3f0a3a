/- What proof.isBest does. -/
import Derived.Test.YtjlkegchkngliaaPrfW5
namespace Go.Proofs.Ytjlkegchkngliaa
open Go.RowKit

theorem Num.best_no (p : Num.Lp) (a : Num.Ans) (h : p.goes a.x a.xd = false) : Num.bestB p a = false := by unfold Num.bestB; rw [h]; rfl
theorem Num.best_cov (p : Num.Lp) (a : Num.Ans) (h : Num.coversB p p.rows.length a.y a.yd p.costs = false) : Num.bestB p a = false := by unfold Num.bestB; rw [h]; simp
theorem Num.best_yes (p : Num.Lp) (a : Num.Ans) (h1 : p.goes a.x a.xd = true) (h : Num.coversB p p.rows.length a.y a.yd p.costs = true) :
    Num.bestB p a = (decide (Num.mk (Num.dotN p.costs a.x p.costs.length) a.xd = (a.wn, a.wd, 0)) && decide (Num.mk (Num.pricedN p p.rows.length a.y) a.yd = (a.wn, a.wd, 0))) := by unfold Num.bestB; rw [h, h1]; simp

theorem Num.worth_goes (p : Num.Lp) (x : List Int) (d : Int) (h : p.goes x d = true) : Num.worth p x d = Num.mk (Num.dotN p.costs x p.costs.length) d := by
  have h2 := (Num.goes_len p x d h).2.1
  unfold Lp.goes at h
  simp only [Bool.and_eq_true] at h
  unfold Num.worth
  rw [if_pos h.1.1, h2]

set_option maxHeartbeats 3200000 in
theorem best_any (ca : Option Addr) (cl cc : Nat) (ra : Option Addr) (m rc : Nat) (p : Num.Lp) (w : World) (hc : Ints w ca cl p.costs) (hr : RowsAt w ra m p.rows) (hm : p.may = true) (a : Num.Ans)
    (xa : Option Addr) (xl xc : Nat) (ya : Option Addr) (yl yc : Nat) (za : Option Addr) (zl zc : Nat) (hx : Ints w xa xl a.x) (hxl : xl ≤ 9223372036854775807) (hy : Ints w ya yl a.y) (hyl : yl ≤ 9223372036854775807) :
    Calls Try.prog 67 #[.agg #[.slice ca cl cc, .slice ra m rc], .agg #[.int .i64 a.kind, .slice xa xl xc, .int .i64 a.xd, .slice ya yl yc, .int .i64 a.yd, .slice za zl zc, .int .i64 a.rd, .int .i64 a.wn, .int .i64 a.wd]] w fun e w' =>
      e = .returned (.bool (Num.bestB p a)) ∧ Below w.heap.size w w' := by
  have HC : Hid (Ints w ca cl p.costs) := hc
  have HR : Hid (RowsAt w ra m p.rows) := hr
  have HX : Hid (Ints w xa xl a.x) := hx
  have HY : Hid (Ints w ya yl a.y) := hy
  have HM : Hid (p.may = true) := hm
  have HCL : Hid (cl = p.costs.length) := hc.1
  have HRL : Hid (m = p.rows.length) := hr.1
  have hcl4 : cl ≤ 4 := by have := hc.1; have := (p.may_of hm).1.2; omega
  have hm4 : m ≤ 4 := by have := hr.1; have := (p.may_of hm).2.2.1.2; omega
  have HCB : Hid (∀ j : Nat, -400 ≤ p.costs[j]?.getD 0 ∧ p.costs[j]?.getD 0 ≤ 400) := Num.withinB_iff _ _ (p.may_of hm).2.1 (by omega)
  clear hr hx hy hm hc
  have hL0 : Below ((w.alloc (.cells #[.slice ca cl cc, .slice ra m rc] 40)).alloc (.cells #[.int .i64 a.kind, .slice xa xl xc, .int .i64 a.xd, .slice ya yl yc, .int .i64 a.yd, .slice za zl zc, .int .i64 a.rd, .int .i64 a.wn, .int .i64 a.wd] 57)).heap.size ((w.alloc (.cells #[.slice ca cl cc, .slice ra m rc] 40)).alloc (.cells #[.int .i64 a.kind, .slice xa xl xc, .int .i64 a.xd, .slice ya yl yc, .int .i64 a.yd, .slice za zl zc, .int .i64 a.rd, .int .i64 a.wn, .int .i64 a.wd] 57)) ((w.alloc (.cells #[.slice ca cl cc, .slice ra m rc] 40)).alloc (.cells #[.int .i64 a.kind, .slice xa xl xc, .int .i64 a.xd, .slice ya yl yc, .int .i64 a.yd, .slice za zl zc, .int .i64 a.rd, .int .i64 a.wn, .int .i64 a.wd] 57)) := Below.refl _ _
  have HN1 := Num.best_no p a
  have HN2 := Num.best_cov p a
  have HN3 := Num.best_yes p a
  have HN4 := Num.worth_goes p a.x a.xd
  rw [← HRL.out] at HN2 HN3
  have H1 : Hid _ := HN1
  have H2 : Hid _ := HN2
  have H3 : Hid _ := HN3
  have H4 : Hid _ := HN4
  clear HN1 HN2 HN3 HN4
  generalize Num.bestB p a = res at *
  obtain ⟨kd, x, xd, y, yd, z, zd, wn, wd⟩ := a
  dsimp only at *
  go_enter Try.func67, Try.ntmps67
  go_wp2_with fail
  generalize hV : (w.alloc (.cells #[.slice ca cl cc, .slice ra m rc] 40)).alloc (.cells #[.int .i64 kd, .slice xa xl xc, .int .i64 xd, .slice ya yl yc, .int .i64 yd, .slice za zl zc, .int .i64 zd, .int .i64 wn, .int .i64 wd] 57) = V at *
  have HBX : Hid (∀ w', Below V.heap.size V w' → (w'.cell? ⟨w.heap.size, 0, none⟩ = some (.slice ca cl cc) ∧ w'.cell? ⟨w.heap.size, 1, none⟩ = some (.slice ra m rc)) ∧ Nine (w.heap.size + 1) (.int .i64 kd) (.slice xa xl xc) (.int .i64 xd) (.slice ya yl yc) (.int .i64 yd) (.slice za zl zc) (.int .i64 zd) (.int .i64 wn) (.int .i64 wd) w' ∧ w.heap.size + 1 < w'.heap.size ∧ Below w.heap.size w w') := by
    intro w' h; rw [← hV] at h; exact box29 h
  clear hV
  have KG : Hid (∀ w', Below V.heap.size V w' → Calls Try.prog 24 #[.agg #[.slice ca cl cc, .slice ra m rc], .agg #[.slice xa xl xc, .int .i64 xd]] w' fun e w'' => e = .returned (.bool (p.goes x xd)) ∧ Below V.heap.size V w'') := by
    intro w' h
    exact (goes_any _ _ _ _ _ _ p w' (Ints.below HC.out (HBX.out w' h).2.2.2 (Nat.le_refl _)) (by omega) (RowsAt.below HR.out (HBX.out w' h).2.2.2 (Nat.le_refl _)) (by omega) _ _ _ x xd (Ints.below HX.out (HBX.out w' h).2.2.2 (Nat.le_refl _)) hxl).mono fun _ _ k => ⟨k.1, bstep h k.2⟩
  have KC : Hid (∀ w', Below V.heap.size V w' → Calls Try.prog 93 #[.agg #[.slice ca cl cc, .slice ra m rc], .agg #[.slice ya yl yc, .int .i64 yd], .slice ca cl cc] w' fun e w'' => e = .returned (.bool (Num.coversB p m y yd p.costs)) ∧ Below V.heap.size V w'') := by
    intro w' h
    exact (covers_any _ _ _ _ _ _ p w' (RowsAt.below HR.out (HBX.out w' h).2.2.2 (Nat.le_refl _)) HM.out _ _ _ y yd (Ints.below HY.out (HBX.out w' h).2.2.2 (Nat.le_refl _)) hyl _ _ _ p.costs (Ints.below HC.out (HBX.out w' h).2.2.2 (Nat.le_refl _)) hcl4 HCB.out).mono fun _ _ k => ⟨k.1, bstep h k.2⟩
  refine (KG.out _ hL0).mono ?_
  rintro e w1 ⟨rfl, hb1⟩
  obtain ⟨⟨c0, c1⟩, ⟨n0, n1, n2, n3, n4, n5, n6, n7, n8⟩, hz1, hB1⟩ := HBX.out w1 hb1
  cases h1 : p.goes x xd with
  | false =>
    have hf : res = false := H1.out h1
    go_wp2_with fail
    go_ret
    exact ⟨ret_bool hf.symm, hB1⟩
  | true =>
  go_wp2_with fail
  refine (KC.out _ hb1).mono ?_
  rintro e w2 ⟨rfl, hb2⟩
  clear c0 c1 n0 n1 n2 n3 n4 n5 n6 n7 n8 hz1 hB1 hb1
  obtain ⟨⟨c0, c1⟩, ⟨n0, n1, n2, n3, n4, n5, n6, n7, n8⟩, hz2, hB2⟩ := HBX.out w2 hb2
  cases hcv : Num.coversB p m y yd p.costs with
  | false =>
    have hf : res = false := H2.out hcv
    go_wp2_with fail
    go_ret
    exact ⟨ret_bool hf.symm, hB2⟩
  | true =>
  obtain ⟨hpt, _⟩ := Num.covers_of _ _ _ _ _ hcv
  obtain ⟨hym, _, hyw, _, _⟩ := Num.point_of _ _ _ hpt
  have HYB : Hid (∀ j : Nat, -1073741824 ≤ y[j]?.getD 0 ∧ y[j]?.getD 0 ≤ 1073741824) := Num.withinB_iff _ _ hyw (by omega)
  have hylm : yl = m := by have := HY.out.1; omega
  have hf := H3.out h1 hcv
  have hwt := H4.out h1
  clear hpt hyw hym hcv H1 H2 H3 H4 KG KC
  subst hylm
  obtain ⟨⟨u, v, ez⟩, hmk⟩ : ∃ t, Num.mk (Num.dotN p.costs x p.costs.length) xd = t := ⟨_, rfl⟩
  rw [hmk] at hwt hf
  have HWT : Hid _ := hwt
  have HF : Hid _ := hf
  clear hwt hf hmk
  go_wp2_with fail
  refine (worth_any _ _ _ _ _ _ p _ (Ints.below HC.out hB2 (Nat.le_refl _)) (by omega) (RowsAt.below HR.out hB2 (Nat.le_refl _)) (by omega) _ _ _ x xd (Ints.below HX.out hB2 (Nat.le_refl _)) hxl u v ez HWT.out).mono ?_
  rintro e w3 ⟨rfl, hk3⟩
  have hb3 := bstep hb2 hk3
  clear c0 c1 n0 n1 n2 n3 n4 n5 n6 n7 n8 hz2 hB2 hb2 hk3
  obtain ⟨⟨c0, c1⟩, ⟨n0, n1, n2, n3, n4, n5, n6, n7, n8⟩, hz3, hB3⟩ := HBX.out w3 hb3
  have hB3' := bstep hB3 (balloc w3 (.cells #[.int .i64 u, .int .i64 v] 24))
  by_cases e1 : ¬ ez = 0
  · have e1' : (ez == 0) = false := by simpa using e1
    have hf : res = false := by rw [HF.out]; simp [e1]
    go_wp2_with fail
    go_ret
    exact ⟨ret_bool hf.symm, hB3'⟩
  obtain rfl : ez = 0 := by omega
  by_cases e2 : ¬ u = wn
  · have hf : res = false := by rw [HF.out]; simp [e2]
    go_wp2_with fail
    go_ret
    exact ⟨ret_bool hf.symm, hB3'⟩
  obtain rfl : u = wn := by omega
  by_cases e3 : ¬ v = wd
  · have hf : res = false := by rw [HF.out]; simp [e3]
    go_wp2_with fail
    go_ret
    exact ⟨ret_bool hf.symm, hB3'⟩
  obtain rfl : v = wd := by omega
  clear e1 e2 e3
  obtain ⟨⟨u2, v2, z2⟩, hmk2⟩ : ∃ t, Num.mk (Num.pricedN p yl y) yd = t := ⟨_, rfl⟩
  have HF2 : Hid (res = decide ((u2, v2, z2) = (u, v, (0 : Int)))) := by show res = _; rw [HF.out, ← hmk2]; simp
  have HMK : Hid _ := hmk2
  clear hmk2 HF HWT
  go_wp2_with fail
  have hbW := bstep hb3 (balloc w3 (.cells #[.int .i64 u, .int .i64 v] 24))
  clear c0 c1 n0 n1 n2 n3 n4 n5 n6 n7 n8 hz3 hB3 hb3 hB3'
  generalize w3.alloc (.cells #[.int .i64 u, .int .i64 v] 24) = W at *
  obtain ⟨⟨c0, c1⟩, ⟨n0, n1, n2, n3, n4, n5, n6, n7, n8⟩, hzW, hBW⟩ := HBX.out W hbW
  have HBW : Hid (∀ w', Below W.heap.size W w' → Below w.heap.size w w') := fun w' h => bstep hBW h
  have q0 : ∀ w', Below W.heap.size W w' → w'.cell? ⟨w.heap.size, 0, none⟩ = some (.slice ca cl cc) := fun w' h => (HBX.out w' (bstep hbW h)).1.1
  have q1 : ∀ w', Below W.heap.size W w' → w'.cell? ⟨w.heap.size, 1, none⟩ = some (.slice ra yl rc) := fun w' h => (HBX.out w' (bstep hbW h)).1.2
  have q3 : ∀ w', Below W.heap.size W w' → w'.cell? ⟨w.heap.size + 1, 3, none⟩ = some (.slice ya yl yc) := fun w' h => (HBX.out w' (bstep hbW h)).2.1.n3
  have q4 : ∀ w', Below W.heap.size W w' → w'.cell? ⟨w.heap.size + 1, 4, none⟩ = some (.int .i64 yd) := fun w' h => (HBX.out w' (bstep hbW h)).2.1.n4
  have HQ7 : Hid (∀ w', Below W.heap.size W w' → w'.cell? ⟨w.heap.size + 1, 7, none⟩ = some (.int .i64 u) ∧ w'.cell? ⟨w.heap.size + 1, 8, none⟩ = some (.int .i64 v)) := fun w' h => ⟨(HBX.out w' (bstep hbW h)).2.1.n7, (HBX.out w' (bstep hbW h)).2.1.n8⟩
  have KP : Hid (∀ w', Below W.heap.size W w' → Calls Try.prog 94 #[.agg #[.slice ca cl cc, .slice ra yl rc], .agg #[.slice ya yl yc, .int .i64 yd]] w' fun e w'' => e = .returned (.int .i64 (Num.pricedN p yl y)) ∧ Below W.heap.size W w'' ∧ Below w'.heap.size w' w'') := by
    intro w' h
    exact (priced_any _ _ _ _ _ _ p w' (RowsAt.below HR.out (HBW.out w' h) (Nat.le_refl _)) HM.out _ _ y yd (Ints.below HY.out (HBW.out w' h) (Nat.le_refl _)) HYB.out).mono fun _ _ k => ⟨k.1, bstep h k.2, k.2⟩
  have KM : Hid (∀ w', Below W.heap.size W w' → Calls Try.prog 14 #[.int .i64 (Num.pricedN p yl y), .int .i64 yd] w' fun e w'' => e = .returned (.tuple #[.agg #[.int .i64 u2, .int .i64 v2], .int .i64 z2]) ∧ Below W.heap.size W w'' ∧ Below w'.heap.size w' w'') := by
    intro w' h
    exact (make_any _ _ w' _ _ _ HMK.out).mono fun _ _ k => ⟨k.1, bstep h k.2, k.2⟩
  clear c0 c1 n0 n1 n2 n3 n4 n5 n6 n7 n8
  go_region_held3 (fun w' => Below W.heap.size W w') (first | assumption | exact (Below.refl _ _).drew | exact ((Below.refl _ _).alloc (Nat.le_refl _) _).drew | (refine Below.alloc ?_ ?_ _ <;> first | assumption | (apply Below.size; assumption)) | (refine Below.setCell (Below.setCell ?_ ?_ _) ?_ _ <;> first | assumption | exact Nat.le_refl _ | (apply Below.size; assumption)))
    (first | (go_at_call 94; refine (KP.out _ ?_).mono ?_; assumption; rintro e v1 ⟨rfl, hb1, hk1⟩; (try (have hz2 := kept2d hk1)))
           | (go_at_call 14; refine (KM.out _ ?_).mono ?_; assumption; rintro e v2' ⟨rfl, hb2, hk2⟩; (first | (have hz2 := carry2 hk2 hz2) | (have hz2 := kept2 hk2) | (have hz2 := kept2d hk2) | skip)))
  · rename_i hfin
    obtain ⟨p0, p1⟩ := HQ7.out v2' hb2
    have hlt : w.heap.size + 1 < v2'.heap.size := by have := hb2.size; omega
    clear q0 q1 q3 q4 KP KM
    have HFIN : Hid _ := HBW.out _ hfin
    by_cases e1 : ¬ z2 = 0
    · have e1' : (z2 == 0) = false := by simpa using e1
      have hf : res = false := by rw [HF2.out]; simp [e1]
      go_wp2_with fail
      go_ret
      (first | exact ⟨ret_bool hf.symm, HFIN.out⟩ | exact ⟨rfl, HFIN.out⟩)
    obtain rfl : z2 = 0 := by omega
    by_cases e2 : ¬ u2 = u
    · have hf : res = false := by rw [HF2.out]; simp [e2]
      go_wp2_with fail
      go_ret
      (first | exact ⟨ret_bool hf.symm, HFIN.out⟩ | exact ⟨rfl, HFIN.out⟩)
    obtain rfl : u2 = u := by omega
    by_cases e3 : ¬ v2 = v
    · have hf : res = false := by rw [HF2.out]; simp [e3]
      go_wp2_with fail
      go_ret
      (first | exact ⟨ret_bool hf.symm, HFIN.out⟩ | exact ⟨rfl, HFIN.out⟩)
    obtain rfl : v2 = v := by omega
    have hf : res = true := by rw [HF2.out]; simp
    go_wp2_with fail
    go_ret
    (first | exact ⟨ret_bool hf.symm, HFIN.out⟩ | exact ⟨rfl, HFIN.out⟩)
  · rename_i hfin
    obtain ⟨p0, p1⟩ := HQ7.out v2' hb2
    have hne : ¬ w.heap.size + 1 = v1.heap.size := by have := hb1.size; omega
    clear q0 q1 q3 q4 KP KM
    obtain ⟨⟨y0, y1⟩, _, _⟩ := hz2
    have HFIN : Hid _ := HBW.out _ hfin
    by_cases e1 : ¬ z2 = 0
    · have e1' : (z2 == 0) = false := by simpa using e1
      have hf : res = false := by rw [HF2.out]; simp [e1]
      go_wp2_with fail
      go_ret
      (first | exact ⟨ret_bool hf.symm, HFIN.out⟩ | exact ⟨rfl, HFIN.out⟩)
    obtain rfl : z2 = 0 := by omega
    by_cases e2 : ¬ u2 = u
    · have hf : res = false := by rw [HF2.out]; simp [e2]
      go_wp2_with fail
      go_ret
      (first | exact ⟨ret_bool hf.symm, HFIN.out⟩ | exact ⟨rfl, HFIN.out⟩)
    obtain rfl : u2 = u := by omega
    by_cases e3 : ¬ v2 = v
    · have hf : res = false := by rw [HF2.out]; simp [e3]
      go_wp2_with fail
      go_ret
      (first | exact ⟨ret_bool hf.symm, HFIN.out⟩ | exact ⟨rfl, HFIN.out⟩)
    obtain rfl : v2 = v := by omega
    have hf : res = true := by rw [HF2.out]; simp
    go_wp2_with fail
    go_ret
    (first | exact ⟨ret_bool hf.symm, HFIN.out⟩ | exact ⟨rfl, HFIN.out⟩)
  · rename_i hfin
    obtain ⟨p0, p1⟩ := HQ7.out v2' hb2
    have hne : ¬ w.heap.size + 1 = W.heap.size := by omega
    clear q0 q1 q3 q4 KP KM
    obtain ⟨⟨y0, y1⟩, _, _⟩ := hz2
    have HFIN : Hid _ := HBW.out _ hfin
    by_cases e1 : ¬ z2 = 0
    · have e1' : (z2 == 0) = false := by simpa using e1
      have hf : res = false := by rw [HF2.out]; simp [e1]
      go_wp2_with fail
      go_ret
      (first | exact ⟨ret_bool hf.symm, HFIN.out⟩ | exact ⟨rfl, HFIN.out⟩)
    obtain rfl : z2 = 0 := by omega
    by_cases e2 : ¬ u2 = u
    · have hf : res = false := by rw [HF2.out]; simp [e2]
      go_wp2_with fail
      go_ret
      (first | exact ⟨ret_bool hf.symm, HFIN.out⟩ | exact ⟨rfl, HFIN.out⟩)
    obtain rfl : u2 = u := by omega
    by_cases e3 : ¬ v2 = v
    · have hf : res = false := by rw [HF2.out]; simp [e3]
      go_wp2_with fail
      go_ret
      (first | exact ⟨ret_bool hf.symm, HFIN.out⟩ | exact ⟨rfl, HFIN.out⟩)
    obtain rfl : v2 = v := by omega
    have hf : res = true := by rw [HF2.out]; simp
    go_wp2_with fail
    go_ret
    (first | exact ⟨ret_bool hf.symm, HFIN.out⟩ | exact ⟨rfl, HFIN.out⟩)

end Go.Proofs.Ytjlkegchkngliaa
