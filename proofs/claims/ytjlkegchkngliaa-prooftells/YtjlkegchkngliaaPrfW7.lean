/- What proof.Holds does. -/
import Derived.Test.YtjlkegchkngliaaPrfW6
namespace Go.Proofs.Ytjlkegchkngliaa
open Go.RowKit

theorem Num.holds_b (p : Num.Lp) (a : Num.Ans) (h : p.may = true) (hk : a.kind = 1) : Num.holds p a = ((Num.thereB a.x a.xd && Num.thereB a.y a.yd && !Num.thereB a.r a.rd && !Num.zeroW a.wn a.wd) && Num.bestB p a) := by
  rw [Num.holds_best p a h hk]
  cases hb : Num.bestB p a with
  | false => simp
  | true => obtain ⟨h1, h2, h3⟩ := Num.best_parts p a hb; rw [h1, h2, h3]; simp

theorem Num.holds_e (p : Num.Lp) (a : Num.Ans) (h : p.may = true) (hk : a.kind = 2) : Num.holds p a = ((Num.thereB a.x a.xd && !Num.thereB a.y a.yd && Num.thereB a.r a.rd && Num.zeroW a.wn a.wd) && Num.endlessB p a) := by
  rw [Num.holds_endless p a h hk]
  cases hb : Num.endlessB p a with
  | false => simp
  | true => obtain ⟨h1, h2⟩ := Num.endless_parts p a hb; rw [h1, h2]; simp

theorem Num.holds_n (p : Num.Lp) (a : Num.Ans) (h : p.may = true) (hk : a.kind = 3) : Num.holds p a = ((!Num.thereB a.x a.xd && Num.thereB a.y a.yd && !Num.thereB a.r a.rd && Num.zeroW a.wn a.wd) && Num.nothingB p a) := by
  rw [Num.holds_nothing p a h hk]
  cases hb : Num.nothingB p a with
  | false => simp
  | true => have h1 := Num.nothing_parts p h a hb; rw [h1]; simp

theorem parts_eq (b0 b1 b2 b3 c0 c1 c2 c3 : Bool) (w : World) : (Op.equalIn 10000 92 (.agg #[.bool b0, .bool b1, .bool b2, .bool b3]) (.agg #[.bool c0, .bool c1, .bool c2, .bool c3])).run Try.prog w = .ok ((b0 == c0) && (b1 == c1) && (b2 == c2) && (b3 == c3)) w := by
  cases b0 <;> cases b1 <;> cases b2 <;> cases b3 <;> cases c0 <;> cases c1 <;> cases c2 <;> cases c3 <;> kernel_rfl

set_option maxHeartbeats 3200000 in
theorem holds_any (ca : Option Addr) (cl cc : Nat) (ra : Option Addr) (m rc : Nat) (p : Num.Lp) (w : World) (hc : Ints w ca cl p.costs) (hcl : cl ≤ 9223372036854775807) (hr : RowsAt w ra m p.rows) (hrl : m ≤ 9223372036854775807) (a : Num.Ans)
    (xa : Option Addr) (xl xc : Nat) (ya : Option Addr) (yl yc : Nat) (za : Option Addr) (zl zc : Nat) (hx : Ints w xa xl a.x) (hxl : xl ≤ 9223372036854775807) (hy : Ints w ya yl a.y) (hyl : yl ≤ 9223372036854775807) (hz : Ints w za zl a.r) (hzl : zl ≤ 9223372036854775807) :
    Calls Try.prog 34 #[.agg #[.slice ca cl cc, .slice ra m rc], .agg #[.int .i64 a.kind, .slice xa xl xc, .int .i64 a.xd, .slice ya yl yc, .int .i64 a.yd, .slice za zl zc, .int .i64 a.rd, .int .i64 a.wn, .int .i64 a.wd]] w fun e w' =>
      e = .returned (.bool (Num.holds p a)) ∧ Below w.heap.size w w' := by
  have HC : Hid (Ints w ca cl p.costs) := hc
  have HR : Hid (RowsAt w ra m p.rows) := hr
  have HX : Hid (Ints w xa xl a.x) := hx
  have HY : Hid (Ints w ya yl a.y) := hy
  have HZ : Hid (Ints w za zl a.r) := hz
  have HXL : Hid (xl = a.x.length) := hx.1
  have HYL : Hid (yl = a.y.length) := hy.1
  have HZL : Hid (zl = a.r.length) := hz.1
  clear hr hx hy hz hc
  have hL0 : Below ((w.alloc (.cells #[.slice ca cl cc, .slice ra m rc] 40)).alloc (.cells #[.int .i64 a.kind, .slice xa xl xc, .int .i64 a.xd, .slice ya yl yc, .int .i64 a.yd, .slice za zl zc, .int .i64 a.rd, .int .i64 a.wn, .int .i64 a.wd] 57)).heap.size ((w.alloc (.cells #[.slice ca cl cc, .slice ra m rc] 40)).alloc (.cells #[.int .i64 a.kind, .slice xa xl xc, .int .i64 a.xd, .slice ya yl yc, .int .i64 a.yd, .slice za zl zc, .int .i64 a.rd, .int .i64 a.wn, .int .i64 a.wd] 57)) ((w.alloc (.cells #[.slice ca cl cc, .slice ra m rc] 40)).alloc (.cells #[.int .i64 a.kind, .slice xa xl xc, .int .i64 a.xd, .slice ya yl yc, .int .i64 a.yd, .slice za zl zc, .int .i64 a.rd, .int .i64 a.wn, .int .i64 a.wd] 57)) := Below.refl _ _
  have HH1 : Hid _ := Num.holds_no p a
  have HH2 : Hid _ := Num.holds_b p a
  have HH3 : Hid _ := Num.holds_e p a
  have HH4 : Hid _ := Num.holds_n p a
  have HH5 : Hid _ := Num.holds_none p a
  generalize Num.holds p a = res at *
  go_enter Try.func34, Try.ntmps34
  go_wp2_with fail
  generalize hV : (w.alloc (.cells #[.slice ca cl cc, .slice ra m rc] 40)).alloc (.cells #[.int .i64 a.kind, .slice xa xl xc, .int .i64 a.xd, .slice ya yl yc, .int .i64 a.yd, .slice za zl zc, .int .i64 a.rd, .int .i64 a.wn, .int .i64 a.wd] 57) = V at *
  have HBX : Hid (∀ w', Below V.heap.size V w' → (w'.cell? ⟨w.heap.size, 0, none⟩ = some (.slice ca cl cc) ∧ w'.cell? ⟨w.heap.size, 1, none⟩ = some (.slice ra m rc)) ∧ Nine (w.heap.size + 1) (.int .i64 a.kind) (.slice xa xl xc) (.int .i64 a.xd) (.slice ya yl yc) (.int .i64 a.yd) (.slice za zl zc) (.int .i64 a.rd) (.int .i64 a.wn) (.int .i64 a.wd) w' ∧ w.heap.size + 1 < w'.heap.size ∧ Below w.heap.size w w') := by
    intro w' h; rw [← hV] at h; exact box29 h
  clear hV
  have hB0 := (HBX.out V hL0).2.2.2
  refine (lmay_any _ _ _ _ _ _ p _ (Ints.below HC.out hB0 (Nat.le_refl _)) hcl (RowsAt.below HR.out hB0 (Nat.le_refl _)) hrl).mono ?_
  rintro e w1 ⟨rfl, hk1⟩
  have hb1 := bstep hL0 hk1
  clear hB0 hk1
  obtain ⟨⟨c0, c1⟩, ⟨n0, n1, n2, n3, n4, n5, n6, n7, n8⟩, hz1, hB1⟩ := HBX.out w1 hb1
  cases hm : p.may with
  | false =>
    have hf : res = false := HH1.out hm
    go_wp2_with fail
    go_ret
    (first | exact ⟨ret_bool hf.symm, hB1⟩ | exact ⟨rfl, hB1⟩)
  | true =>
  have KP : Hid (∀ w', Below V.heap.size V w' → Calls Try.prog 66 #[.agg #[.int .i64 a.kind, .slice xa xl xc, .int .i64 a.xd, .slice ya yl yc, .int .i64 a.yd, .slice za zl zc, .int .i64 a.rd, .int .i64 a.wn, .int .i64 a.wd]] w' fun e w'' => e = .returned (.agg #[.bool (Num.thereB a.x a.xd), .bool (Num.thereB a.y a.yd), .bool (Num.thereB a.r a.rd), .bool (!Num.zeroW a.wn a.wd)]) ∧ Below V.heap.size V w'') := by
    intro w' h
    exact (parts_any a.kind xa xl xc a.xd ya yl yc a.yd za zl zc a.rd a.wn a.wd a.x a.y a.r w' HXL.out HYL.out HZL.out).mono fun _ _ k => ⟨k.1, bstep h k.2⟩
  have HK : Hid (∀ w', Below V.heap.size V w' → Ints w' ca cl p.costs ∧ RowsAt w' ra m p.rows ∧ Ints w' xa xl a.x ∧ Ints w' ya yl a.y ∧ Ints w' za zl a.r) := fun w' h =>
    ⟨Ints.below HC.out (HBX.out w' h).2.2.2 (Nat.le_refl _), RowsAt.below HR.out (HBX.out w' h).2.2.2 (Nat.le_refl _), Ints.below HX.out (HBX.out w' h).2.2.2 (Nat.le_refl _), Ints.below HY.out (HBX.out w' h).2.2.2 (Nat.le_refl _), Ints.below HZ.out (HBX.out w' h).2.2.2 (Nat.le_refl _)⟩
  have KB : Hid (∀ w', Below V.heap.size V w' → Calls Try.prog 67 #[.agg #[.slice ca cl cc, .slice ra m rc], .agg #[.int .i64 a.kind, .slice xa xl xc, .int .i64 a.xd, .slice ya yl yc, .int .i64 a.yd, .slice za zl zc, .int .i64 a.rd, .int .i64 a.wn, .int .i64 a.wd]] w' fun e w'' => e = .returned (.bool (Num.bestB p a)) ∧ Below V.heap.size V w'') := by
    intro w' h
    obtain ⟨k1, k2, k3, k4, k5⟩ := HK.out w' h
    exact (best_any _ _ _ _ _ _ p w' k1 k2 hm a _ _ _ _ _ _ _ _ _ k3 hxl k4 hyl).mono fun _ _ k => ⟨k.1, bstep h k.2⟩
  have KE : Hid (∀ w', Below V.heap.size V w' → Calls Try.prog 68 #[.agg #[.slice ca cl cc, .slice ra m rc], .agg #[.int .i64 a.kind, .slice xa xl xc, .int .i64 a.xd, .slice ya yl yc, .int .i64 a.yd, .slice za zl zc, .int .i64 a.rd, .int .i64 a.wn, .int .i64 a.wd]] w' fun e w'' => e = .returned (.bool (Num.endlessB p a)) ∧ Below V.heap.size V w'') := by
    intro w' h
    obtain ⟨k1, k2, k3, k4, k5⟩ := HK.out w' h
    exact (endless_any _ _ _ _ _ _ p w' k1 k2 hm a _ _ _ _ _ _ _ _ _ k3 hxl k5 hzl).mono fun _ _ k => ⟨k.1, bstep h k.2⟩
  have KN : Hid (∀ w', Below V.heap.size V w' → Calls Try.prog 69 #[.agg #[.slice ca cl cc, .slice ra m rc], .agg #[.int .i64 a.kind, .slice xa xl xc, .int .i64 a.xd, .slice ya yl yc, .int .i64 a.yd, .slice za zl zc, .int .i64 a.rd, .int .i64 a.wn, .int .i64 a.wd]] w' fun e w'' => e = .returned (.bool (Num.nothingB p a)) ∧ Below V.heap.size V w'') := by
    intro w' h
    obtain ⟨k1, k2, k3, k4, k5⟩ := HK.out w' h
    exact (nothing_any _ _ _ _ _ _ p w' k1 k2 hm a _ _ _ _ _ _ _ _ _ k4 hyl).mono fun _ _ k => ⟨k.1, bstep h k.2⟩
  clear HK HXL HYL HZL HX HY HZ HC HR HH1 hL0
  have hcmp := parts_eq (Num.thereB a.x a.xd) (Num.thereB a.y a.yd) (Num.thereB a.r a.rd) (!Num.zeroW a.wn a.wd)
  generalize hb0 : Num.thereB a.x a.xd = b0 at *
  generalize hb1' : Num.thereB a.y a.yd = b1 at *
  generalize hb2' : Num.thereB a.r a.rd = b2 at *
  generalize hb3' : Num.zeroW a.wn a.wd = b3 at *
  clear hb0 hb1' hb2' hb3'
  generalize Num.bestB p a = rb at *
  generalize Num.endlessB p a = re at *
  generalize Num.nothingB p a = rn at *
  obtain ⟨kd, x, xd, y, yd, z, zd, wn, wd⟩ := a
  dsimp only at *
  by_cases k1 : kd = 1
  · subst k1
    have hf := HH2.out hm rfl
    have hc' := hcmp true true false true
    clear HH2 HH3 HH4 HH5 KE KN hcmp
    cases hp : (b0 && b1 && !b2 && !b3) with
    | false =>
      have hq : (((b0 == true) && (b1 == true) && (b2 == false) && ((!b3) == true))) = false := by revert hp; cases b0 <;> cases b1 <;> cases b2 <;> cases b3 <;> simp
      rw [hq] at hc'
      rw [hp] at hf
      have hf' : res = false := hf
      clear hf hq
      go_wp2_with fail
      refine (KP.out _ hb1).mono ?_
      rintro e w2 ⟨rfl, hb2⟩
      have hB2 := (HBX.out w2 hb2).2.2.2
      go_wp2_with fail
      go_ret
      (first | exact ⟨ret_bool hf'.symm, hB2⟩ | exact ⟨rfl, hB2⟩)
    | true =>
      have hq : (((b0 == true) && (b1 == true) && (b2 == false) && ((!b3) == true))) = true := by revert hp; cases b0 <;> cases b1 <;> cases b2 <;> cases b3 <;> simp
      rw [hq] at hc'
      rw [hp] at hf
      have HF' : Hid (res = rb) := hf
      clear hf hq
      go_wp2_with fail
      refine (KP.out _ hb1).mono ?_
      rintro e w2 ⟨rfl, hb2⟩
      clear c0 c1 n0 n1 n2 n3 n4 n5 n6 n7 n8 hz1 hB1
      obtain ⟨⟨c0, c1⟩, ⟨n0, n1, n2, n3, n4, n5, n6, n7, n8⟩, hz2, hB2⟩ := HBX.out w2 hb2
      go_wp2_with fail
      refine (KB.out _ hb2).mono ?_
      rintro e w3 ⟨rfl, hb3⟩
      have hB3 := (HBX.out w3 hb3).2.2.2
      go_wp2_with fail
      go_ret
      exact ⟨ret_bool HF'.out.symm, hB3⟩
  by_cases k2 : kd = 2
  · subst k2
    have hf := HH3.out hm rfl
    have hc' := hcmp true false true false
    clear HH2 HH3 HH4 HH5 KB KN hcmp
    cases hp : (b0 && !b1 && b2 && b3) with
    | false =>
      have hq : (((b0 == true) && (b1 == false) && (b2 == true) && ((!b3) == false))) = false := by revert hp; cases b0 <;> cases b1 <;> cases b2 <;> cases b3 <;> simp
      rw [hq] at hc'
      rw [hp] at hf
      have hf' : res = false := hf
      clear hf hq
      go_wp2_with fail
      refine (KP.out _ hb1).mono ?_
      rintro e w2 ⟨rfl, hb2⟩
      have hB2 := (HBX.out w2 hb2).2.2.2
      go_wp2_with fail
      go_ret
      (first | exact ⟨ret_bool hf'.symm, hB2⟩ | exact ⟨rfl, hB2⟩)
    | true =>
      have hq : (((b0 == true) && (b1 == false) && (b2 == true) && ((!b3) == false))) = true := by revert hp; cases b0 <;> cases b1 <;> cases b2 <;> cases b3 <;> simp
      rw [hq] at hc'
      rw [hp] at hf
      have HF' : Hid (res = re) := hf
      clear hf hq
      go_wp2_with fail
      refine (KP.out _ hb1).mono ?_
      rintro e w2 ⟨rfl, hb2⟩
      clear c0 c1 n0 n1 n2 n3 n4 n5 n6 n7 n8 hz1 hB1
      obtain ⟨⟨c0, c1⟩, ⟨n0, n1, n2, n3, n4, n5, n6, n7, n8⟩, hz2, hB2⟩ := HBX.out w2 hb2
      go_wp2_with fail
      refine (KE.out _ hb2).mono ?_
      rintro e w3 ⟨rfl, hb3⟩
      have hB3 := (HBX.out w3 hb3).2.2.2
      go_wp2_with fail
      go_ret
      exact ⟨ret_bool HF'.out.symm, hB3⟩
  by_cases k3 : kd = 3
  · subst k3
    have hf := HH4.out hm rfl
    have hc' := hcmp false true false false
    clear HH2 HH3 HH4 HH5 KB KE hcmp
    cases hp : (!b0 && b1 && !b2 && b3) with
    | false =>
      have hq : (((b0 == false) && (b1 == true) && (b2 == false) && ((!b3) == false))) = false := by revert hp; cases b0 <;> cases b1 <;> cases b2 <;> cases b3 <;> simp
      rw [hq] at hc'
      rw [hp] at hf
      have hf' : res = false := hf
      clear hf hq
      go_wp2_with fail
      refine (KP.out _ hb1).mono ?_
      rintro e w2 ⟨rfl, hb2⟩
      have hB2 := (HBX.out w2 hb2).2.2.2
      go_wp2_with fail
      go_ret
      (first | exact ⟨ret_bool hf'.symm, hB2⟩ | exact ⟨rfl, hB2⟩)
    | true =>
      have hq : (((b0 == false) && (b1 == true) && (b2 == false) && ((!b3) == false))) = true := by revert hp; cases b0 <;> cases b1 <;> cases b2 <;> cases b3 <;> simp
      rw [hq] at hc'
      rw [hp] at hf
      have HF' : Hid (res = rn) := hf
      clear hf hq
      go_wp2_with fail
      refine (KP.out _ hb1).mono ?_
      rintro e w2 ⟨rfl, hb2⟩
      clear c0 c1 n0 n1 n2 n3 n4 n5 n6 n7 n8 hz1 hB1
      obtain ⟨⟨c0, c1⟩, ⟨n0, n1, n2, n3, n4, n5, n6, n7, n8⟩, hz2, hB2⟩ := HBX.out w2 hb2
      go_wp2_with fail
      refine (KN.out _ hb2).mono ?_
      rintro e w3 ⟨rfl, hb3⟩
      have hB3 := (HBX.out w3 hb3).2.2.2
      go_wp2_with fail
      go_ret
      exact ⟨ret_bool HF'.out.symm, hB3⟩
  have hf : res = false := HH5.out k1 k2 k3
  have k1' : (kd == 1) = false := by simpa using k1
  have k2' : (kd == 2) = false := by simpa using k2
  have k3' : (kd == 3) = false := by simpa using k3
  clear HH2 HH3 HH4 HH5 KB KE KN KP hcmp
  go_wp2_with fail
  go_ret
  (first | exact ⟨ret_bool hf.symm, hB1⟩ | exact ⟨rfl, hB1⟩)

end Go.Proofs.Ytjlkegchkngliaa
