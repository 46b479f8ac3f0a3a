/- The walk of ProofEndless. -/
import Derived.Test.YtipcbhodlgoflaaKnown
import Derived.Test.YtipcbhodlgoflaaPrfN
import Derived.Test.YtipcbhodlgoflaaRef2A
import Derived.Deep.CutRange
namespace Go.Proofs.Ytipcbhodlgoflaa
open Go.RowKit

theorem own_kept {w w' : World} {base n : Nat} {t : TypeId} {v : Value} {xs : List Value} (h : w.ownsRow base t 1 v n xs) (hb : Below w.heap.size w w') : w'.ownsRow base t 1 v n xs :=
  World.ownsRow.kept (row := none) h ⟨hb.os, hb.tape, hb.output, hb.size, fun k hk _ => hb.block k hk⟩ (by cases v.ownBlock <;> simp)

set_option maxRecDepth 4000 in
set_option maxHeartbeats 3200000 in
theorem proofEndless.walk (ca : Option Addr) (cl cc : Nat) (ra : Option Addr) (m rc : Nat) (p : Num.Lp) (w : World) (hc : Ints w ca cl p.costs) (hcl : cl ≤ 9223372036854775807) (hr : RowsAt w ra m p.rows) (hrl : m ≤ 9223372036854775807) (a : Num.Ans)
    (xa : Option Addr) (xl xc : Nat) (ya : Option Addr) (yl yc : Nat) (za : Option Addr) (zl zc : Nat) (hx : Ints w xa xl a.x) (hxl : xl ≤ 9223372036854775807) (hy : Ints w ya yl a.y) (hyl : yl ≤ 9223372036854775807) (hz : Ints w za zl a.r) (hzl : zl ≤ 9223372036854775807) (t : Nat) (ht : t < 65536) :
    Calls Try.prog 10 #[.agg #[.slice ca cl cc, .slice ra m rc], .agg #[.int .i64 a.kind, .slice xa xl xc, .int .i64 a.xd, .slice ya yl yc, .int .i64 a.yd, .slice za zl zc, .int .i64 a.rd, .int .i64 a.wn, .int .i64 a.wd], .int .u16 t] w fun e w' => e = .returned (.bool true) ∧ Below w.heap.size w w' := by
  have HC : Hid (Ints w ca cl p.costs) := hc
  have HR : Hid (RowsAt w ra m p.rows) := hr
  have HX : Hid (Ints w xa xl a.x) := hx
  have HZ : Hid (Ints w za zl a.r) := hz
  have KH : Hid (∀ w', Below w.heap.size w w' → Calls Try.prog 34 #[.agg #[.slice ca cl cc, .slice ra m rc], .agg #[.int .i64 a.kind, .slice xa xl xc, .int .i64 a.xd, .slice ya yl yc, .int .i64 a.yd, .slice za zl zc, .int .i64 a.rd, .int .i64 a.wn, .int .i64 a.wd]] w' fun e w'' => e = .returned (.bool (Num.holds p a)) ∧ Below w'.heap.size w' w'') := fun w' h =>
    holds_any ca cl cc ra m rc p w' (hc.below h (Nat.le_refl _)) hcl (hr.below h (Nat.le_refl _)) hrl a xa xl xc ya yl yc za zl zc (hx.below h (Nat.le_refl _)) hxl (hy.below h (Nat.le_refl _)) hyl (hz.below h (Nat.le_refl _)) hzl
  clear hc hr hx hy hz
  have hL0 : Below ((w.alloc (.cells #[.slice ca cl cc, .slice ra m rc] 40)).alloc (.cells #[.int .i64 a.kind, .slice xa xl xc, .int .i64 a.xd, .slice ya yl yc, .int .i64 a.yd, .slice za zl zc, .int .i64 a.rd, .int .i64 a.wn, .int .i64 a.wd] 57)).heap.size ((w.alloc (.cells #[.slice ca cl cc, .slice ra m rc] 40)).alloc (.cells #[.int .i64 a.kind, .slice xa xl xc, .int .i64 a.xd, .slice ya yl yc, .int .i64 a.yd, .slice za zl zc, .int .i64 a.rd, .int .i64 a.wn, .int .i64 a.wd] 57)) ((w.alloc (.cells #[.slice ca cl cc, .slice ra m rc] 40)).alloc (.cells #[.int .i64 a.kind, .slice xa xl xc, .int .i64 a.xd, .slice ya yl yc, .int .i64 a.yd, .slice za zl zc, .int .i64 a.rd, .int .i64 a.wn, .int .i64 a.wd] 57)) := Below.refl _ _
  go_enter Try.func10, Try.ntmps10
  go_wp2_with fail
  generalize hV : (w.alloc (.cells #[.slice ca cl cc, .slice ra m rc] 40)).alloc (.cells #[.int .i64 a.kind, .slice xa xl xc, .int .i64 a.xd, .slice ya yl yc, .int .i64 a.yd, .slice za zl zc, .int .i64 a.rd, .int .i64 a.wn, .int .i64 a.wd] 57) = V at *
  have HBX : Hid (∀ w', Below V.heap.size V w' → (w'.cell? ⟨w.heap.size, 0, none⟩ = some (.slice ca cl cc) ∧ w'.cell? ⟨w.heap.size, 1, none⟩ = some (.slice ra m rc)) ∧ Nine (w.heap.size + 1) (.int .i64 a.kind) (.slice xa xl xc) (.int .i64 a.xd) (.slice ya yl yc) (.int .i64 a.yd) (.slice za zl zc) (.int .i64 a.rd) (.int .i64 a.wn) (.int .i64 a.wd) w' ∧ w.heap.size + 1 < w'.heap.size ∧ Below w.heap.size w w') := by
    intro w' h; rw [← hV] at h; exact box29 h
  clear hV
  refine (KH.out _ (HBX.out V hL0).2.2.2).mono ?_
  rintro e w1 ⟨rfl, hk1⟩
  have hL1 := bstep hL0 hk1
  clear hk1 hL0
  obtain ⟨⟨c0, c1⟩, ⟨n0, n1, n2, n3, n4, n5, n6, n7, n8⟩, hz1, hB1⟩ := HBX.out w1 hL1
  cases hh : Num.holds p a with
  | false =>
    go_wp2_with fail
    refine (known_any w1).mono ?_
    rintro e w2 ⟨rfl, hk2⟩
    go_wp2_with fail
    go_ret
    exact ⟨rfl, bstep hB1 hk2⟩
  | true =>
  have HMAY : Hid (p.may = true) := by
    show p.may = true
    cases hm : p.may with
    | true => rfl
    | false => rw [Num.holds_no p a hm] at hh; cases hh
  by_cases k1 : a.kind = 1
  · obtain ⟨kd, x, xd, y, yd, z, zd, wn, wd⟩ := a
    dsimp only at *
    subst k1
    go_wp2_with fail
    go_ret
    exact ⟨rfl, hB1⟩
  by_cases k3 : a.kind = 3
  · obtain ⟨kd, x, xd, y, yd, z, zd, wn, wd⟩ := a
    dsimp only at *
    subst k3
    go_wp2_with fail
    go_ret
    exact ⟨rfl, hB1⟩
  have k2 : a.kind = 2 := by
    by_cases k2 : a.kind = 2
    · exact k2
    rw [Num.holds_none p a k1 k2 k3] at hh
    cases hh
  clear k1 k3
  have hend : Num.endlessB p a = true := by
    rw [Num.holds_endless p a HMAY.out k2] at hh
    simp only [Bool.and_eq_true] at hh
    exact hh.2
  obtain ⟨hxn, hzn, hxd, hxnn, hznn, hxw, hzw, hrowx, hrowz, hcz⟩ := Num.endless_parts2 p a hend
  have HCL : Hid (cl = p.costs.length) := HC.out.1
  have HRL : Hid (m = p.rows.length) := HR.out.1
  have hcl4 : cl ≤ 4 := by have := HCL.out; have := (p.may_of HMAY.out).1.2; omega
  have hcl1 : 1 ≤ cl := by have := HCL.out; have := (p.may_of HMAY.out).1.1; omega
  have hm4 : m ≤ 4 := by have := HRL.out; have := (p.may_of HMAY.out).2.2.1.2; omega
  have hxc' : xl = cl := by have := HX.out.1; have := HCL.out; omega
  have hzc' : zl = cl := by have := HZ.out.1; have := HCL.out; omega
  have HXN : Hid _ := hxnn
  have HZN : Hid _ := hznn
  have HXW : Hid _ := hxw
  have HZW : Hid _ := hzw
  have HRX : Hid _ := hrowx
  have HRZ : Hid _ := hrowz
  have HCZ : Hid _ := hcz
  clear hh hend hxn hzn hxnn hznn hxw hzw hrowx hrowz hcz KH
  obtain ⟨kd, x, xd, y, yd, z, zd, wn, wd⟩ := a
  dsimp only at *
  subst k2
  subst hxc'
  subst hzc'
  go_wp2_with fail
  refine (r2may_any _ _ _ _ _ _ p _ (Ints.below HC.out hB1 (Nat.le_refl _)) hcl (RowsAt.below HR.out hB1 (Nat.le_refl _)) hrl).mono ?_
  rintro e w2 ⟨rfl, hk2⟩
  rw [HMAY.out]
  have hL2 := bstep hL1 hk2
  clear c0 c1 n0 n1 n2 n3 n4 n5 n6 n7 n8 hz1 hB1 hL1 hk2
  obtain ⟨⟨c0, c1⟩, ⟨n0, n1, n2, n3, n4, n5, n6, n7, n8⟩, hz1, hB1⟩ := HBX.out w2 hL2
  go_wp2_with fail
  have hKK : 0 ≤ (t : Int) % 1001 ∧ (t : Int) % 1001 ≤ 1000 := by omega
  generalize (t : Int) % 1001 = KK at *
  obtain ⟨j0, hjf, hy0, hy1, hy2⟩ := info_parts Try.info64
  clear c0 c1 n0 n1 n2 n3 n4 n5 n6 n7 n8 hz1 hB1
  go_loopw [11, 12] (fun v q wr => ∃ i : Nat, i ≤ zl ∧ q = .int .i64 i ∧ wr.ownsRow w2.heap.size 2 1 v i ((Num.alongL x z KK xd i).map (Value.int .i64)) ∧ Below w2.heap.size w2 wr ∧ (∀ j, j < i → z[j]?.getD 0 ≤ 1000000) ∧ (i = 0 ∨ xd ≤ 1000000)) (fun _ q _ => zl - (intOf q).toNat)
  case atStart => exact ⟨0, Nat.zero_le _, rfl, World.ownsRow_nil _ _ _ _, Below.refl _ _, fun j hj => absurd hj (Nat.not_lt_zero _), Or.inl rfl⟩
  case round =>
    obtain ⟨i, hi, rfl, hown, hbl, hzs, hxs⟩ := hrel
    obtain ⟨va, vc, hve⟩ := own_shape hown
    subst hve
    have HOWN : Hid _ := hown
    have HZS : Hid (∀ j, j < i → z[j]?.getD 0 ≤ 1000000) := hzs
    have HXS : Hid (i = 0 ∨ xd ≤ 1000000) := hxs
    clear hown hzs hxs
    obtain ⟨⟨c0, c1⟩, ⟨n0, n1, n2, n3, n4, n5, n6, n7, n8⟩, hz1, hB1⟩ := HBX.out wr (bstep hL2 hbl)
    by_cases hlt : i < zl
    · rcases HX.out.2 with h | ⟨xb, xo, hxa, hxbs, hxcc⟩
      · omega
      rcases HZ.out.2 with h | ⟨zb, zo, hza, hzbs, hzcc⟩
      · omega
      have hQX : ∀ w', Below w2.heap.size w2 w' → w'.cell? ⟨xb, xo + i, none⟩ = some (.int .i64 (x[i]?.getD 0)) := fun w' h => by rw [(HBX.out w' (bstep hL2 h)).2.2.2.cell (p := ⟨xb, xo + i, none⟩) hxbs]; exact hxcc i hlt
      have hQZ : ∀ w', Below w2.heap.size w2 w' → w'.cell? ⟨zb, zo + i, none⟩ = some (.int .i64 (z[i]?.getD 0)) := fun w' h => by rw [(HBX.out w' (bstep hL2 h)).2.2.2.cell (p := ⟨zb, zo + i, none⟩) hzbs]; exact hzcc i hlt
      have ex := hQX wr hbl
      have er := hQZ wr hbl
      have hb := trivial
      have HQX : Hid _ := hQX
      have HQZ : Hid _ := hQZ
      clear hQX hQZ hb
      have hx0 := HXN.out i
      have hr0 := HZN.out i
      have hx1 := HXW.out i
      have HAL : Hid (Num.alongL x z KK xd (i + 1) = Num.alongL x z KK xd i ++ [x[i]?.getD 0 + KK * z[i]?.getD 0 * xd]) := Num.along_succ x z KK xd i
      have HZI : Hid (z[i]?.getD 0 = z[i]?.getD 0) := rfl
      clear hxcc hzcc
      generalize x[i]?.getD 0 = x0 at ex hx0 hx1 HAL HQX
      generalize hzr : z[i]?.getD 0 = r0 at er hr0 HAL HQZ
      have HZR : Hid _ := hzr
      clear hzr HZI
      subst hxa hza
      have t1 : decide (x0 < 0) = false := by simpa using hx0
      have t2 : decide (r0 < 0) = false := by simpa using hr0
      by_cases t3 : 1000000 < xd
      · go_wp2_with fail
        go_ret
        exact ⟨rfl, hB1⟩
      have t3' : decide (1000000 < xd) = false := by simpa using t3
      by_cases t4 : 1000000 < r0
      · go_wp2_with fail
        go_ret
        exact ⟨rfl, hB1⟩
      have t4' : decide (1000000 < r0) = false := by simpa using t4
      have g1 := Num.mul_bd2 KK r0 1000 1000000 (by omega) (by omega)
      have g2 : 0 ≤ KK * r0 := Int.mul_nonneg hKK.1 hr0
      have g3 := Num.mul_bd2 (KK * r0) xd 1000000000 1000000 (by omega) (by omega)
      have g4 : 0 ≤ KK * r0 * xd := Int.mul_nonneg g2 (by omega)
      have u1 : wrap64 (KK * r0) = KK * r0 := IntWalk.wrap64_in _ (by omega)
      have u2 : wrap64 (KK * r0 * xd) = KK * r0 * xd := IntWalk.wrap64_in _ (by omega)
      have u3 : wrap64 (x0 + KK * r0 * xd) = x0 + KK * r0 * xd := IntWalk.wrap64_in _ (by omega)
      have u1' : IntKind.i64.wrap (KK * r0) = KK * r0 := by rw [IntWalk.i64_left]; exact u1
      have u2' : IntKind.i64.wrap (KK * r0 * xd) = KK * r0 * xd := by rw [IntWalk.i64_left]; exact u2
      have u3' : IntKind.i64.wrap (x0 + KK * r0 * xd) = x0 + KK * r0 * xd := by rw [IntWalk.i64_left]; exact u3
      clear g1 g2 g3 g4
      go_wp2_with fail
      have HOA : Hid ((wr.alloc (.cells #[.int .i64 (x0 + KK * r0 * xd)] 2)).drew.ownsRow w2.heap.size 2 1 (.slice va i vc) i ((Num.alongL x z KK xd i).map (Value.int .i64))) := own_kept HOWN.out (((Below.refl _ _).alloc (Nat.le_refl _) _).drew)
      have HNW : Hid (∀ (j : Nat) (u : Value), [Value.int .i64 (x0 + KK * r0 * xd)][j]? = some u → (wr.alloc (.cells #[.int .i64 (x0 + KK * r0 * xd)] 2)).drew.cell? (Addr.add ⟨wr.heap.size, 0, none⟩ j) = some u) := fun j u h => news_one (w := wr) rfl _ _ j u h
      have hszA : w2.heap.size ≤ (wr.alloc (.cells #[.int .i64 (x0 + KK * r0 * xd)] 2)).drew.heap.size := by have := hbl.size; show w2.heap.size ≤ (wr.alloc (.cells #[.int .i64 (x0 + KK * r0 * xd)] 2)).heap.size; simp; omega
      have HGR : Hid (∀ (v' : Value) (w' : World), (wr.alloc (.cells #[.int .i64 (x0 + KK * r0 * xd)] 2)).drew.grownBy w' (Value.slice va i vc).ownBlock → Below w2.heap.size w2 w') := fun v' w' hg => Below.grown (Below.drew (Below.alloc hbl hbl.size _)) hg hszA (fun j hj => (World.ownsRow.lt HOA.out j hj).1)
      have q1 : ∀ w', Below w2.heap.size w2 w' → w'.cell? ⟨w.heap.size + 1, 1, none⟩ = some (.slice (some ⟨xb, xo, none⟩) zl xc) := fun w' h => (HBX.out w' (bstep hL2 h)).2.1.n1
      have q2 : ∀ w', Below w2.heap.size w2 w' → w'.cell? ⟨w.heap.size + 1, 2, none⟩ = some (.int .i64 xd) := fun w' h => (HBX.out w' (bstep hL2 h)).2.1.n2
      have q3 : ∀ w', Below w2.heap.size w2 w' → w'.cell? ⟨w.heap.size + 1, 5, none⟩ = some (.slice (some ⟨zb, zo, none⟩) zl zc) := fun w' h => (HBX.out w' (bstep hL2 h)).2.1.n5
      have q4 := HQX.out
      have q5 := HQZ.out
      have hS0 : Below w2.heap.size w2 wr.drew := hbl.drew
      clear c0 c1 n0 n1 n2 n3 n4 n5 n6 n7 n8 ex er t1 t2 t3' t4' hB1 hz1
      refine wp_region_held_drew (S := fun w' => Below w2.heap.size w2 w') (by kernel_rfl) ?_ (fun hHeld => ?_)
      · assumption
      refine takeH (i := 0) (v := ?_) rfl (by kernel_rfl) (by kernel_rfl) (by kernel_rfl) (fun _ _ _ h => h) (Or.inl ⟨by rfl, ?_⟩) (by assumption) ?_
      rotate_left
      · (intro w' hSw; go_simp; (try with_reducible rfl))
      simp only [Act.put, List.setIfInBounds_toArray, List.set_cons_zero, List.set_cons_succ]
      refine takeH (i := 1) (v := ?_) rfl (by kernel_rfl) (by kernel_rfl) (by kernel_rfl) (fun _ _ _ h => h) (Or.inl ⟨by rfl, ?_⟩) (by assumption) ?_
      rotate_left
      · (intro w' hSw; go_simp; (try with_reducible rfl))
      simp only [Act.put, List.setIfInBounds_toArray, List.set_cons_zero, List.set_cons_succ]
      refine takeH (i := 2) (v := ?_) rfl (by kernel_rfl) (by kernel_rfl) (by kernel_rfl) (fun _ _ _ h => h) (Or.inl ⟨by rfl, ?_⟩) (by assumption) ?_
      rotate_left
      · (intro w' hSw; go_simp; (try with_reducible rfl))
      simp only [Act.put, List.setIfInBounds_toArray, List.set_cons_zero, List.set_cons_succ]
      refine takeH (i := 3) (v := ?_) rfl (by kernel_rfl) (by kernel_rfl) (by kernel_rfl) (fun _ _ _ h => h) (Or.inl ⟨by rfl, ?_⟩) (by assumption) ?_
      rotate_left
      · (intro w' hSw; go_simp; (try with_reducible rfl))
      simp only [Act.put, List.setIfInBounds_toArray, List.set_cons_zero, List.set_cons_succ]
      refine takeH (i := 4) (v := ?_) rfl (by kernel_rfl) (by kernel_rfl) (by kernel_rfl) (fun _ _ _ h => h) (Or.inl ⟨by rfl, ?_⟩) (by assumption) ?_
      rotate_left
      · (intro w' hSw; go_simp; (try with_reducible rfl))
      simp only [Act.put, List.setIfInBounds_toArray, List.set_cons_zero, List.set_cons_succ]
      refine takeH (i := 5) (v := ?_) rfl (by kernel_rfl) (by kernel_rfl) (by kernel_rfl) (fun _ _ _ h => h) (Or.inl ⟨by rfl, ?_⟩) (by assumption) ?_
      rotate_left
      · (intro w' hSw; go_simp; (try with_reducible rfl))
      simp only [Act.put, List.setIfInBounds_toArray, List.set_cons_zero, List.set_cons_succ]
      refine takeH (i := 6) (v := ?_) rfl (by kernel_rfl) (by kernel_rfl) (by kernel_rfl) (fun _ _ _ h => h) (Or.inl ⟨by rfl, ?_⟩) (by assumption) ?_
      rotate_left
      · (intro w' hSw; go_simp; (try with_reducible rfl))
      simp only [Act.put, List.setIfInBounds_toArray, List.set_cons_zero, List.set_cons_succ]
      refine takeH (i := 7) (v := ?_) rfl (by kernel_rfl) (by kernel_rfl) (by kernel_rfl) (fun _ _ _ h => h) (Or.inl ⟨by rfl, ?_⟩) (by assumption) ?_
      rotate_left
      · (intro w' hSw; go_simp; (try with_reducible rfl))
      simp only [Act.put, List.setIfInBounds_toArray, List.set_cons_zero, List.set_cons_succ]
      refine takeH (i := 8) (v := ?_) rfl (by kernel_rfl) (by kernel_rfl) (by kernel_rfl) (fun _ _ _ h => h) (Or.inl ⟨by rfl, ?_⟩) (by assumption) ?_
      rotate_left
      · (intro w' hSw; go_simp; (try with_reducible rfl))
      simp only [Act.put, List.setIfInBounds_toArray, List.set_cons_zero, List.set_cons_succ]
      refine takeH (i := 9) (v := ?_) rfl (by kernel_rfl) (by kernel_rfl) (by kernel_rfl) (fun _ _ _ h => h) (Or.inl ⟨by rfl, ?_⟩) (by assumption) ?_
      rotate_left
      · (intro w' hSw; go_simp; (try with_reducible rfl))
      simp only [Act.put, List.setIfInBounds_toArray, List.set_cons_zero, List.set_cons_succ]
      refine takeH (i := 10) (v := ?_) rfl (by kernel_rfl) (by kernel_rfl) (by kernel_rfl) (fun _ _ _ h => h) (Or.inl ⟨by rfl, ?_⟩) (by assumption) ?_
      rotate_left
      · (intro w' hSw; go_simp; (try with_reducible rfl))
      simp only [Act.put, List.setIfInBounds_toArray, List.set_cons_zero, List.set_cons_succ]
      refine takeH (i := 11) (v := ?_) rfl (by kernel_rfl) (by kernel_rfl) (by kernel_rfl) (fun _ _ _ h => h) (Or.inl ⟨by rfl, ?_⟩) (by assumption) ?_
      rotate_left
      · (intro w' hSw; go_simp; (try with_reducible rfl))
      simp only [Act.put, List.setIfInBounds_toArray, List.set_cons_zero, List.set_cons_succ]
      refine takeH (i := 12) (v := ?_) rfl (by kernel_rfl) (by kernel_rfl) (by kernel_rfl) (fun _ _ _ h => h) (Or.inl ⟨by rfl, ?_⟩) (by assumption) ?_
      rotate_left
      · (intro w' hSw; go_simp; (try with_reducible rfl))
      simp only [Act.put, List.setIfInBounds_toArray, List.set_cons_zero, List.set_cons_succ]
      refine takeH (i := 13) (v := ?_) rfl (by kernel_rfl) (by kernel_rfl) (by kernel_rfl) (fun _ _ _ h => h) (Or.inl ⟨by rfl, ?_⟩) (by assumption) ?_
      rotate_left
      · (intro w' hSw; go_simp; (try with_reducible rfl))
      simp only [Act.put, List.setIfInBounds_toArray, List.set_cons_zero, List.set_cons_succ]
      refine takeH (i := 14) (v := ?_) rfl (by kernel_rfl) (by kernel_rfl) (by kernel_rfl) (fun _ _ _ h => h) (Or.inl ⟨by rfl, ?_⟩) (by assumption) ?_
      rotate_left
      · (intro w' hSw; go_simp; (try with_reducible rfl))
      simp only [Act.put, List.setIfInBounds_toArray, List.set_cons_zero, List.set_cons_succ]
      refine takeH (i := 15) (v := ?_) rfl (by kernel_rfl) (by kernel_rfl) (by kernel_rfl) (fun _ _ _ h => h) (Or.inl ⟨by rfl, ?_⟩) (by assumption) ?_
      rotate_left
      · (intro w' hSw; go_simp; (try with_reducible rfl))
      simp only [Act.put, List.setIfInBounds_toArray, List.set_cons_zero, List.set_cons_succ]
      refine takeH (i := 16) (v := ?_) rfl (by kernel_rfl) (by kernel_rfl) (by kernel_rfl) (fun _ _ _ h => h) (Or.inl ⟨by rfl, ?_⟩) (by assumption) ?_
      rotate_left
      · (intro w' hSw; go_simp; (try with_reducible rfl))
      simp only [Act.put, List.setIfInBounds_toArray, List.set_cons_zero, List.set_cons_succ]
      refine takeH (i := 17) (v := ?_) rfl (by kernel_rfl) (by kernel_rfl) (by kernel_rfl) (fun _ _ _ h => h) (Or.inl ⟨by rfl, ?_⟩) (by assumption) ?_
      rotate_left
      · (intro w' hSw; go_simp; (try with_reducible rfl))
      simp only [Act.put, List.setIfInBounds_toArray, List.set_cons_zero, List.set_cons_succ]
      refine takeH (i := 18) (v := ?_) rfl (by kernel_rfl) (by kernel_rfl) (by kernel_rfl) (fun _ _ _ h => h) (Or.inl ⟨by rfl, ?_⟩) (by assumption) ?_
      rotate_left
      · (intro w' hSw; go_simp; (try with_reducible rfl))
      simp only [Act.put, List.setIfInBounds_toArray, List.set_cons_zero, List.set_cons_succ]
      refine takeH (i := 19) (v := ?_) rfl (by kernel_rfl) (by kernel_rfl) (by kernel_rfl) (fun _ _ _ h => h) (Or.inl ⟨by rfl, ?_⟩) (by assumption) ?_
      rotate_left
      · (intro w' hSw; go_simp; (try with_reducible rfl))
      simp only [Act.put, List.setIfInBounds_toArray, List.set_cons_zero, List.set_cons_succ]
      refine wpAnyH_ready (rs := [20]) (by kernel_rfl) (by simp) ?_
      refine readyH rfl (fun K hK => ?_)
      go_simp
      refine hK.out _ _ ?_ (fun hHeld => ?_)
      · (first | assumption | exact Below.drew (Below.alloc hbl hbl.size _) | (refine Below.alloc ?_ ?_ _ <;> first | assumption | (apply Below.size; assumption)))
      clear hK K
      refine wpAnyH_ready (rs := [21]) (by kernel_rfl) (by simp) ?_
      refine readyH rfl (fun K hK => ?_)
      rw [if_pos (by rfl)]
      refine wp_append_own _ (.tmp 103) (.tmp 123) 22 rfl w2.heap.size 2 j0 (.int .i64 0) 1 8 Try.underlying22 hjf hy0 hy1 hy2 rfl (by decide) _ i _ rfl HOA.out ⟨wr.heap.size, 0, none⟩ 1 1 [.int .i64 (x0 + KK * r0 * xd)] rfl rfl ?p1 ?p2 ?p3 ?p4 ?p5 ?p6
      case p1 => exact HNW.out
      case p2 => (intro u hu; simp at hu; subst hu; rfl)
      case p3 => unfold maxLen; omega
      case p4 => omega
      case p5 => exact hszA
      intro v' w' ho hg _
      have HO' : Hid _ := ho
      have hbl' : Below w2.heap.size w2 w' := HGR.out v' w' hg
      refine hK.out _ _ hbl' (fun hHeld => ?_)
      clear hK K
      simp only [Act.put, List.setIfInBounds_toArray, List.set_cons_zero, List.set_cons_succ]
      refine takeH (i := 22) (v := ?_) rfl (by kernel_rfl) (by kernel_rfl) (by kernel_rfl) (fun _ _ _ h => h) (Or.inl ⟨by rfl, ?_⟩) (by assumption) ?_
      rotate_left
      · (intro w' hSw; go_simp; (try with_reducible rfl))
      simp only [Act.put, List.setIfInBounds_toArray, List.set_cons_zero, List.set_cons_succ]
      refine wpAnyH_done (by kernel_rfl) ?_ _
      clear q1 q2 q3 q4 q5 hS0 u1 u2 u3 u1' u2' u3' HOA HNW HGR hszA hHeld
      go_wp2_with fail
      go_roundw
      case rel => exact ⟨i + 1, hlt, by go_num, by rw [HAL.out, List.map_append]; exact HO'.out, hbl', fun j hj => by (by_cases hji : j < i; exact HZS.out j hji; obtain rfl : j = i := by omega); rw [HZR.out]; omega, Or.inr (by omega)⟩
      case measure => simp [intOf]; omega
    · have hie : zl = i := by omega
      subst hie
      have hxd6 : xd ≤ 1000000 := by have := HXS.out; omega
      obtain ⟨va', vc', hve, hIL, _⟩ := Ints.ofOwnAny HOWN.out (Num.along_len x z KK xd zl).symm
      have hIL2 : Ints wr va zl (Num.alongL x z KK xd zl) := by
        simp only [Value.slice.injEq] at hve
        rw [hve.1]; exact hIL
      have HIL : Hid _ := hIL2
      have HAB : Hid (∀ j : Nat, -1100000000000000 ≤ (Num.alongL x z KK xd zl)[j]?.getD 0 ∧ (Num.alongL x z KK xd zl)[j]?.getD 0 ≤ 1100000000000000) := Num.along_bd x z KK xd zl hKK ⟨by omega, hxd6⟩ (fun j => ⟨HXN.out j, HXW.out j⟩) (fun j hj => ⟨HZN.out j, HZS.out j hj⟩)
      have HAD : Hid (∀ c : List Int, Num.dotN c (Num.alongL x z KK xd zl) zl = Num.dotN c x zl + KK * xd * Num.dotN c z zl) := fun c => Num.along_dot c x z KK xd zl
      have HCB : Hid (∀ j : Nat, -400 ≤ p.costs[j]?.getD 0 ∧ p.costs[j]?.getD 0 ≤ 400) := Num.withinB_iff _ _ (p.may_of HMAY.out).2.1 (by omega)
      have HXB : Hid (∀ j : Nat, -1073741824 ≤ x[j]?.getD 0 ∧ x[j]?.getD 0 ≤ 1073741824) := fun j => ⟨by have := HXN.out j; omega, HXW.out j⟩
      have hL5 := bstep hL2 hbl
      have hkd : 0 ≤ KK * xd := Int.mul_nonneg hKK.1 (by omega)
      have hkd2 := Num.mul_bd2 KK xd 1000 1000000 (by omega) (by omega)
      clear hIL hIL2 hve HOWN HZS HXS HXN HZN HXW HZW hbl hL2
      generalize Num.alongL x z KK xd zl = L at *
      go_wp2_with fail
      clear c0 c1 n0 n1 n2 n3 n4 n5 n6 n7 n8 hz1 hB1
      generalize wr = W5 at *
      go_loopw [13] (fun q wr => ∃ i : Nat, i ≤ m ∧ q = .int .i64 i ∧ Below W5.heap.size W5 wr) (fun q _ => m - (intOf q).toNat)
      case atStart => exact ⟨0, Nat.zero_le _, rfl, Below.refl _ _⟩
      case round =>
        obtain ⟨i, hi, rfl, hbl⟩ := hrel
        have hLr := bstep hL5 hbl
        obtain ⟨⟨c0, c1⟩, ⟨n0, n1, n2, n3, n4, n5, n6, n7, n8⟩, hz1, hB1⟩ := HBX.out wr hLr
        by_cases hlm : i < m
        · rcases HR.out.2 with h | ⟨b, off, ha, hbs, hc⟩
          · omega
          obtain ⟨ta, tl, tc, d0, d1, hti, htl⟩ := hc i hlm
          have hrow := p.row_of HMAY.out i (by have := HRL.out; omega)
          have hrx := HRX.out i (by have := HRL.out; omega)
          have hrz := HRZ.out i (by have := HRL.out; omega)
          rw [← HCL.out] at hrx hrz
          generalize (p.rows[i]?.getD ([], 0)) = rr at *
          obtain ⟨r1, r2⟩ := rr
          dsimp only at *
          obtain ⟨hr0, hr1, hr2⟩ := hrow
          have hte : tl = zl := by have := hti.1; have := HCL.out; omega
          have HTI : Hid (Ints w ta tl r1) := hti
          have HWR : Hid (∀ j : Nat, -12 ≤ r1[j]?.getD 0 ∧ r1[j]?.getD 0 ≤ 12) := Num.withinB_iff _ _ hr1 (by omega)
          have hmx := Num.mul_bd2 r2 xd 12 1000000 hr2 (by omega)
          have hD : Num.dotN r1 L zl ≤ r2 * xd := by
            rw [HAD.out r1]
            have : KK * xd * Num.dotN r1 z zl ≤ 0 := Int.mul_nonpos_of_nonneg_of_nonpos hkd hrz
            omega
          have hwr : wrap64 (r2 * xd) = r2 * xd := IntWalk.wrap64_in _ (by omega)
          have hwr2 : IntKind.i64.wrap (r2 * xd) = r2 * xd := by rw [IntWalk.i64_left]; exact hwr
          have q1 : ∀ w', Below wr.heap.size wr w' → w'.cell? ⟨w.heap.size, 1, none⟩ = some (.slice ra m rc) := fun w' h => (HBX.out w' (bstep hLr h)).1.2
          have q2 : ∀ w', Below wr.heap.size wr w' → w'.cell? ⟨w.heap.size + 1, 2, none⟩ = some (.int .i64 xd) := fun w' h => (HBX.out w' (bstep hLr h)).2.1.n2
          have q3 : ∀ w', Below wr.heap.size wr w' → w'.cell? ⟨b, off + i * 2, none⟩ = some (.slice ta tl tc) := fun w' h => by rw [(HBX.out w' (bstep hLr h)).2.2.2.cell (p := ⟨b, off + i * 2, none⟩) hbs]; exact d0
          have q4 : ∀ w', Below wr.heap.size wr w' → w'.cell? ⟨b, off + i * 2 + 1, none⟩ = some (.int .i64 r2) := fun w' h => by rw [(HBX.out w' (bstep hLr h)).2.2.2.cell (p := ⟨b, off + i * 2 + 1, none⟩) hbs]; exact d1
          subst hte
          have KT : Hid (∀ w', Below wr.heap.size wr w' → Calls Try.prog 29 #[.slice ta tl tc, .slice va tl vc] w' fun e w'' => e = .returned (.int .i64 (Num.dotN r1 L tl)) ∧ Below wr.heap.size wr w'') := by
            intro w' h
            exact (below_of_drew (dot_any _ _ _ _ _ _ r1 L w' 12 1100000000000000 (Ints.below HTI.out (HBX.out w' (bstep hLr h)).2.2.2 (Nat.le_refl _)) (Ints.below HIL.out (bstep hbl h) (Nat.le_refl _)) (Nat.le_refl _) (by omega) HWR.out HAB.out (by omega))).mono fun _ _ k => ⟨k.1, bstep h k.2⟩
          have hS0 : Below wr.heap.size wr wr.drew := (Below.refl _ _).drew
          subst ha
          generalize Num.dotN r1 L tl = D at hD KT
          clear hr0 hr1 hti hc d0 d1 hrx hrz
          go_wp2_with fail
          go_region_held3 (fun w' => Below wr.heap.size wr w') (first | assumption)
            (first | (go_at_call 29; refine (KT.out _ ?_).mono ?_; assumption; rintro e v1 ⟨rfl, hk1⟩))
          have hbv := bstep hbl hk1
          have hg' : decide (r2 * xd < D) = false := by simpa using hD
          clear q1 q2 q3 q4 KT hS0 hk1 c0 c1 n0 n1 n2 n3 n4 n5 n6 n7 n8 hz1 hB1 hbl hLr
          go_wp2_with fail
          go_roundw
          case rel => exact ⟨i + 1, hlm, by go_num, hbv⟩
          case measure => simp [intOf]; omega
        · have him : m = i := by omega
          subst him
          have hcz := HCZ.out
          rw [← HCL.out] at hcz
          have hcx := Num.dotN_bd p.costs x 400 1073741824 HCB.out HXB.out zl
          have hcl' := Num.dotN_bd p.costs L 400 1100000000000000 HCB.out HAB.out zl
          have hdl := HAD.out p.costs
          have hmore : KK * xd ≤ Num.dotN p.costs L zl - Num.dotN p.costs x zl := by
            rw [hdl]
            have : KK * xd * 1 ≤ KK * xd * Num.dotN p.costs z zl := Int.mul_le_mul_of_nonneg_left (by omega) hkd
            omega
          have q0 : ∀ w', Below wr.heap.size wr w' → w'.cell? ⟨w.heap.size, 0, none⟩ = some (.slice ca zl cc) := fun w' h => (HBX.out w' (bstep hLr h)).1.1
          have q1 : ∀ w', Below wr.heap.size wr w' → w'.cell? ⟨w.heap.size + 1, 1, none⟩ = some (.slice xa zl xc) := fun w' h => (HBX.out w' (bstep hLr h)).2.1.n1
          have KL : Hid (∀ w', Below wr.heap.size wr w' → Calls Try.prog 29 #[.slice ca zl cc, .slice va zl vc] w' fun e w'' => e = .returned (.int .i64 (Num.dotN p.costs L zl)) ∧ Below wr.heap.size wr w'') := by
            intro w' h
            exact (below_of_drew (dot_any _ _ _ _ _ _ p.costs L w' 400 1100000000000000 (Ints.below HC.out (HBX.out w' (bstep hLr h)).2.2.2 (Nat.le_refl _)) (Ints.below HIL.out (bstep hbl h) (Nat.le_refl _)) (Nat.le_refl _) (by omega) HCB.out HAB.out (by omega))).mono fun _ _ k => ⟨k.1, bstep h k.2⟩
          have KX : Hid (∀ w', Below wr.heap.size wr w' → Calls Try.prog 29 #[.slice ca zl cc, .slice xa zl xc] w' fun e w'' => e = .returned (.int .i64 (Num.dotN p.costs x zl)) ∧ Below wr.heap.size wr w'') := by
            intro w' h
            exact (below_of_drew (dot_any _ _ _ _ _ _ p.costs x w' 400 1073741824 (Ints.below HC.out (HBX.out w' (bstep hLr h)).2.2.2 (Nat.le_refl _)) (Ints.below HX.out (HBX.out w' (bstep hLr h)).2.2.2 (Nat.le_refl _)) (Nat.le_refl _) (by omega) HCB.out HXB.out (by omega))).mono fun _ _ k => ⟨k.1, bstep h k.2⟩
          have hS0 : Below wr.heap.size wr wr.drew := (Below.refl _ _).drew
          clear hdl hcz
          generalize Num.dotN p.costs L zl = DL at hmore hcl' KL
          generalize Num.dotN p.costs x zl = DX at hmore hcx KX
          have hb1 : -1760001000000000000 ≤ DL ∧ DL ≤ 1760001000000000000 := by omega
          have hb2 : -2000000000000 ≤ DX ∧ DX ≤ 2000000000000 := by omega
          clear hcl' hcx
          have u1 : wrap64 (DL - DX) = DL - DX := IntWalk.wrap64_in _ (by omega)
          have u1' : IntKind.i64.wrap (DL - DX) = DL - DX := by rw [IntWalk.i64_left]; exact u1
          have u2 : wrap64 (KK * xd) = KK * xd := IntWalk.wrap64_in _ (by omega)
          have u2' : IntKind.i64.wrap (KK * xd) = KK * xd := by rw [IntWalk.i64_left]; exact u2
          go_wp2_with fail
          go_region_held3 (fun w' => Below wr.heap.size wr w') (first | assumption)
            (first | (go_at_call_of 29 (Value.slice va zl vc); refine (KL.out _ ?_).mono ?_; assumption; rintro e v1 ⟨rfl, hk1⟩)
                   | (go_at_call_of 29 (Value.slice xa zl xc); refine (KX.out _ ?_).mono ?_; assumption; rintro e v2 ⟨rfl, hk2⟩))
          have hLv := bstep hLr hk2
          clear q0 q1 KL KX hS0 hk1 c0 c1 n0 n1 n2 n3 n4 n5 n6 n7 n8 hz1 hB1
          obtain ⟨⟨c0, c1⟩, ⟨n0, n1, n2, n3, n4, n5, n6, n7, n8⟩, hz1, hB1⟩ := HBX.out v2 hLv
          have hg' : decide (KK * xd ≤ DL - DX) = true := by simpa using hmore
          go_wp2_with fail
          go_ret
          exact ⟨rfl, hB1⟩

end Go.Proofs.Ytipcbhodlgoflaa
