/- What span.Mosts does. -/
import Derived.Test.YtipcbhodlgoflabSpnWB
namespace Go.Proofs.Ytipcbhodlgoflab
open Go.RowKit

set_option maxHeartbeats 1600000 in
theorem spanMosts_any (ca : Option Addr) (cl cc : Nat) (ra : Option Addr) (rl rc : Nat) (p : Num.Lp) (w : World) (hc : Ints w ca cl p.costs) (hcl : cl ≤ 9223372036854775807) (hr : RowsAt w ra rl p.rows) (hrl : rl ≤ 9223372036854775807)
    (aa : Option Addr) (al ac : Nat) (at' : List Int) (ha : Ints w aa al at') (hal : al ≤ 9223372036854775807) (ba : Option Addr) (bl bc : Nat) (y : List Int) (hy : Ints w ba bl y) (hbl : bl ≤ 9223372036854775807) :
    Calls Try.prog 7 #[.agg #[.slice ca cl cc, .slice ra rl rc], .slice aa al ac, .slice ba bl bc] w fun e w' => e = .returned (mostsV p at' y) ∧ Below w.heap.size w w' := by
  have HC : Hid (Ints w ca cl p.costs) := hc
  have HRo : Hid (RowsAt w ra rl p.rows) := hr
  have HA : Hid (Ints w aa al at') := ha
  have HY : Hid (Ints w ba bl y) := hy
  have HLB : Hid (bl = y.length) := hy.1
  have HLC : Hid (cl = p.costs.length) := hc.1
  have HLR : Hid (rl = p.rows.length) := hr.1
  clear hc hr ha hy
  generalize hv : mostsV p at' y = res
  have HV0 : Hid (mostsV p at' y = res) := hv
  clear hv
  have HB0 : Hid (Below w.heap.size w (((w.alloc (.cells #[.slice ca cl cc, .slice ra rl rc] 25)).alloc (.cells #[.bool false, .int .i64 0, .int .i64 0] 30)).alloc (.cells #[.bool false, .int .i64 0, .int .i64 0] 30))) := bstep (bstep (balloc _ _) (balloc _ _)) (balloc _ _)
  go_enter Try.func7, Try.ntmps7
  go_wp2_with fail
  refine (look_new _ _ _ _ _ _ p _ (Ints.below HC.out HB0.out (Nat.le_refl _)) hcl (RowsAt.below HRo.out HB0.out (Nat.le_refl _)) hrl _ _ _ at' (Ints.below HA.out HB0.out (Nat.le_refl _)) hal).mono ?_
  rintro e w1 ⟨xa, xl, xc, ya, yl, yc, ga, gl, gc, rfl, hx, _, hg, hxl, _, hgl, hb1, _, hnew⟩
  have HP : Hid (Bx (w.heap.size) [.slice ca cl cc, .slice ra rl rc] w1) := (((Bx.new rfl _ _).step (balloc _ _)).step (balloc _ _)).step hb1
  have HR : Hid (Bx (w.heap.size + 1) [.bool false, .int .i64 0, .int .i64 0] w1) := ((Bx.new (by simp) _ _).step (balloc _ _)).step hb1
  have HT : Hid (Bx (w.heap.size + 1 + 1) [.bool false, .int .i64 0, .int .i64 0] w1) := (Bx.new (by simp) _ _).step hb1
  have HB : Hid (Below w.heap.size w w1) := bstep HB0.out hb1
  have HG : Hid (Ints w1 xa xl (Num.look p at').x) := hx
  have HNEW : Hid (xl = 0 ∨ ∃ g, xa = some ⟨g, 0, none⟩ ∧ w.heap.size + 1 + 1 + 1 ≤ g) := by show _ ∨ _; have h := hnew.x; simpa using h
  clear hb1 hx hg hnew HB0
  obtain ⟨p0, p1, _, _⟩ := HP.out.all2
  obtain ⟨r0, r1, r2, rf0, rf1, rf2⟩ := HR.out.all3
  obtain ⟨t0, t1, t2, tf0, tf1, tf2⟩ := HT.out.all3
  have z0 : w.heap.size < w1.heap.size := HP.out.lt
  have z1 : w.heap.size + 1 < w1.heap.size := HR.out.lt
  have z2 : w.heap.size + 1 + 1 < w1.heap.size := HT.out.lt
  have HOK : Hid ((Num.look p at').err = 0 → p.may = true ∧ Num.rightB at' p.rows.length (p.costs.length + p.rows.length) = true ∧ Num.denL p at' p.rows.length ≠ 0) := Num.look_ok_of p at'
  have HER : Hid ((Num.look p at').err ≠ 0 → wrongV (Num.look p at').err = res) := by
    intro h; rw [← HV0.out]; unfold mostsV; rw [if_pos h]
  generalize hdx : (Num.look p at').xd = dx
  generalize hdy : (Num.look p at').yd = dy
  generalize hdg : (Num.look p at').gd = dg
  have HDX : Hid ((Num.look p at').xd = dx) := hdx
  clear hdx hdy hdg
  generalize her0 : (Num.look p at').err = er at HOK HER
  have HE0 : Hid ((Num.look p at').err = er) := her0
  clear her0
  by_cases her : er = 0
  · subst her
    have HOK2 : Hid (p.may = true ∧ Num.rightB at' p.rows.length (p.costs.length + p.rows.length) = true ∧ Num.denL p at' p.rows.length ≠ 0) := HOK.out rfl
    clear HOK HER
    by_cases hlen : bl = rl
    · have hl1 : ((bl : Int) == (rl : Int)) = true := by simp; omega
      have hl2 : ((bl : Int) != (rl : Int)) = false := by simp; omega
      have HLEN : Hid (bl = rl) := hlen
      clear hlen
      go_wp2_with fail
      refine (within_any 12 _ _ _ y _ (Ints.below HY.out (bstep HB.out (balloc _ _)) (Nat.le_refl _)) hbl (by omega) (by omega)).mono ?_
      rintro e w1' ⟨rfl, rfl⟩
      cases hw : Num.withinB 12 y
      · have HV : Hid (wrongV 1 = res) := by
          show _ = _
          rw [← HV0.out]; unfold mostsV; rw [if_neg (by rw [HE0.out]; simp), if_neg (by rintro ⟨_, h1⟩; rw [hw] at h1; cases h1)]
        go_wp2_with fail
        generalize hX : (((((((w1).setCell ⟨w.heap.size + 1, 0, none⟩ (.bool false)).setCell ⟨w.heap.size + 1, 1, none⟩ (.int .i64 0)).setCell ⟨w.heap.size + 1, 2, none⟩ (.int .i64 0)).setCell ⟨w.heap.size + 1 + 1, 0, none⟩ (.bool false)).setCell ⟨w.heap.size + 1 + 1, 1, none⟩ (.int .i64 0)).setCell ⟨w.heap.size + 1 + 1, 2, none⟩ (.int .i64 0)).alloc (.cells #[.slice xa xl xc, .int .i64 dx, .slice ya yl yc, .int .i64 dy, .slice ga gl gc, .int .i64 dg] 39) = X
        have hX2 : Bx (w.heap.size + 1) [.bool false, .int .i64 0, .int .i64 0] X := by rw [← hX]; exact ((HR.out.set3 _ _ _).other3 (by omega) _ _ _).step (balloc _ _)
        have hX3 : Bx (w.heap.size + 1 + 1) [.bool false, .int .i64 0, .int .i64 0] X := by rw [← hX]; exact ((HT.out.other3 (by omega) _ _ _).set3 _ _ _).step (balloc _ _)
        have hXB : Below w.heap.size w X := by rw [← hX]; exact bstep (bset3 (bset3 HB.out (by omega) _ _ _) (by omega) _ _ _) (balloc _ _)
        obtain ⟨x0, x1, x2, _⟩ := hX2.all3
        obtain ⟨y0, y1, y2, _⟩ := hX3.all3
        exact bodyPost_ret (v := .tuple #[.agg #[.bool false, .int .i64 0, .int .i64 0], .agg #[.bool false, .int .i64 0, .int .i64 0], .int .i64 1]) (by simp [results, Try.results7, go_sem, x0, x1, x2, y0, y1, y2]) rfl ⟨congrArg Ending.returned HV.out, hXB⟩
      · obtain ⟨hm, hri, hde⟩ := HOK2.out
        have HLY : Hid (y.length = p.rows.length) := by show _ = _; have h1 := HLEN.out; have h2 := HLB.out; have h3 := HLR.out; omega
        have h44 : (cl ≤ 4 ∧ rl ≤ 4) ∧ 1 ≤ rl := by have h2 := HLC.out; have h3 := HLR.out; have := (p.may_of hm).1.2; have := (p.may_of hm).2.2.1.2; have := (p.may_of hm).2.2.1.1; omega
        obtain ⟨N, hN⟩ : ∃ N, N = p.costs.length + p.rows.length := ⟨_, rfl⟩
        have HNN : Hid (N = p.costs.length + p.rows.length) := hN
        have hN8 : N ≤ 8 := by have h2 := HLC.out; have h3 := HLR.out; omega
        clear hN
        obtain ⟨k1, k2, k5, k6⟩ := Num.mosts_parts p at' y HOK2.out hw N HNN.out
        have HV : Hid (endsV (Num.mostsN p at' y) = res) := by
          show _ = _
          rw [← HV0.out]; unfold mostsV; rw [if_neg (by rw [HE0.out]; simp), if_pos ⟨HLY.out, hw⟩]
        have hgl0 : N = xl := by have := HG.out.1; omega
        subst hgl0
        have HK5 : Hid _ := k5
        have HK6 : Hid _ := k6
        have HK2 : Hid _ := k2
        have KA : Hid (∀ v, Below w.heap.size w v → Calls Try.prog 27 #[.agg #[.slice ca cl cc, .slice ra rl rc], .slice ba bl bc] v fun e v' => ∃ g, e = .returned (.agg #[.slice ca cl cc, .slice (some ⟨g, 0, none⟩) rl rl]) ∧ RowsAt v' (some ⟨g, 0, none⟩) rl (Num.withM p y).rows ∧ Below v.heap.size v v') := by
          intro v h
          have e := HLEN.out
          have hy := Ints.below HY.out h (Nat.le_refl _)
          rw [e] at hy ⊢
          exact asking_gen ca cl cc ra rl rc p.rows v (RowsAt.below HRo.out h (Nat.le_refl _)) h44.1.2 h44.2 y _ _ hy
        clear k1 k2 k5 k6 hm hri hde
        have HB2 : Hid (Below w.heap.size w (w1.alloc (.cells #[.slice xa N xc, .int .i64 dx, .slice ya yl yc, .int .i64 dy, .slice ga gl gc, .int .i64 dg] 39))) := bstep HB.out (balloc _ _)
        go_wp2_with fail
        refine (KA.out _ HB2.out).mono ?_
        rintro e w3 ⟨gr, rfl, hrw, hb3⟩
        have HB4 : Hid (Below w.heap.size w w3) := bstep HB2.out hb3
        have HC9 : Hid (Bx w1.heap.size [.slice xa N xc, .int .i64 dx, .slice ya yl yc, .int .i64 dy, .slice ga gl gc, .int .i64 dg] w3) := (Bx.new rfl _ _).step hb3
        have HR3 : Hid (Bx (w.heap.size + 1) [.bool false, .int .i64 0, .int .i64 0] w3) := (HR.out.step (balloc _ _)).step hb3
        have HT3 : Hid (Bx (w.heap.size + 1 + 1) [.bool false, .int .i64 0, .int .i64 0] w3) := (HT.out.step (balloc _ _)).step hb3
        have HGG : Hid (Ints w3 xa N (Num.look p at').x) := Ints.below (Ints.below HG.out (balloc _ _) (Nat.le_refl _)) hb3 (Nat.le_refl _)
        have HRW : Hid (RowsAt w3 (some ⟨gr, 0, none⟩) rl (Num.withM p y).rows) := hrw
        clear hb3 hrw HR HT HG HB2 HB HP p0 p1 r0 r1 r2 rf0 rf1 rf2 t0 t1 t2 tf0 tf1 tf2 z0 z1 z2 KA
        go_wp2_with fail
        refine (look_new _ _ _ _ _ _ (Num.withM p y) _ (Ints.below HC.out HB4.out (Nat.le_refl _)) hcl HRW.out hrl _ _ _ at' (Ints.below HA.out HB4.out (Nat.le_refl _)) hal).mono ?_
        rintro e w2 ⟨xa2, xl2, xc2, ya2, yl2, yc2, ga2, gl2, gc2, rfl, hx2, _, _, _, _, _, hb2, _, _⟩
        have hgl3 : N = xl2 := by have := hx2.1; have := HK2.out; omega
        subst hgl3
        have HX2 : Hid (Ints w2 xa2 N (Num.look (Num.withM p y) at').x) := hx2
        have HC92 : Hid (Bx w1.heap.size [.slice xa N xc, .int .i64 dx, .slice ya yl yc, .int .i64 dy, .slice ga gl gc, .int .i64 dg] w2) := HC9.out.step hb2
        have HR2 : Hid (Bx (w.heap.size + 1) [.bool false, .int .i64 0, .int .i64 0] w2) := HR3.out.step hb2
        have HT2 : Hid (Bx (w.heap.size + 1 + 1) [.bool false, .int .i64 0, .int .i64 0] w2) := HT3.out.step hb2
        have HGG2 : Hid (Ints w2 xa N (Num.look p at').x) := Ints.below HGG.out hb2 (Nat.le_refl _)
        have HB3 : Hid (Below w.heap.size w w2) := bstep HB4.out hb2
        clear hb2 hx2 HC9 HR3 HT3 HGG HB4 HRW
        have HKN : Hid (NBn N (Num.look p at').x (Num.look (Num.withM p y) at').x dx (Num.look (Num.withM p y) at').xd) := by have := HK5.out; rw [HDX.out] at this; exact this
        have HKS : Hid (endsV (Num.spanS (fun j => (Num.look p at').x[j]?.getD 0 * (Num.look (Num.withM p y) at').xd) (fun j => (Num.look (Num.withM p y) at').x[j]?.getD 0 * dx) N) = res) := by
          show _ = _
          have := HK6.out
          rw [HDX.out] at this
          rw [this]
          exact HV.out
        clear HK5 HK6 HV HV0 HE0 HDX HOK2 HLY HK2 hw
        generalize (Num.look (Num.withM p y) at').gd = dg2 at *
        generalize (Num.look (Num.withM p y) at').xd = dx2 at *
        generalize (Num.look (Num.withM p y) at').yd = dy2 at *
        generalize (Num.look (Num.withM p y) at').err = er2 at *
        generalize (Num.look (Num.withM p y) at').x = lx2 at *
        generalize (Num.look p at').x = lx at *
        obtain ⟨so, sn, sd, so2, sn2, sd2, ser, hform⟩ := endsV_form (Num.spanS (fun j => lx[j]?.getD 0 * dx2) (fun j => lx2[j]?.getD 0 * dx) N)
        have HRES : Hid (.tuple #[.agg #[.bool so, .int .i64 sn, .int .i64 sd], .agg #[.bool so2, .int .i64 sn2, .int .i64 sd2], .int .i64 ser] = res) := by show _ = _; rw [← hform]; exact HKS.out
        have KB : Hid (∀ v, Ints v xa N lx → Ints v xa2 N lx2 → Calls Try.prog 25 #[.agg #[.slice xa N xc, .int .i64 dx], .agg #[.slice xa2 N xc2, .int .i64 dx2]] v fun e v' => e = .returned (.tuple #[.agg #[.bool so, .int .i64 sn, .int .i64 sd], .agg #[.bool so2, .int .i64 sn2, .int .i64 sd2], .int .i64 ser]) ∧ Below v.heap.size v v') := by
          intro v h1 h2
          refine (notBelow_any _ _ N xc xc2 _ _ dx dx2 v h1 h2 HKN.out).mono ?_
          rintro e v' ⟨rfl, h3⟩
          exact ⟨by rw [hform], h3⟩
        clear hform HKN HKS
        have c0 := HC92.out.c 0 _ rfl
        have c1 := HC92.out.c 1 _ rfl
        have z9 : w1.heap.size < w2.heap.size := HC92.out.lt
        go_wp2_with fail
        refine (KB.out _ (Ints.below HGG2.out (balloc _ _) (Nat.le_refl _)) (Ints.below HX2.out (balloc _ _) (Nat.le_refl _))).mono ?_
        rintro e w5 ⟨rfl, hb5⟩
        have HR5 : Hid (Bx (w.heap.size + 1) [.bool false, .int .i64 0, .int .i64 0] w5) := (HR2.out.step (balloc _ _)).step hb5
        have HT5 : Hid (Bx (w.heap.size + 1 + 1) [.bool false, .int .i64 0, .int .i64 0] w5) := (HT2.out.step (balloc _ _)).step hb5
        have HB5 : Hid (Below w.heap.size w w5) := bstep (bstep HB3.out (balloc _ _)) hb5
        clear hb5 HR2 HT2 HB3 c0 c1 HGG2 HX2 KB HC92
        obtain ⟨r0, r1, r2, rf0, rf1, rf2⟩ := HR5.out.all3
        obtain ⟨t0, t1, t2, tf0, tf1, tf2⟩ := HT5.out.all3
        have z1 : w.heap.size + 1 < w5.heap.size := HR5.out.lt
        have z2 : w.heap.size + 1 + 1 < w5.heap.size := HT5.out.lt
        go_wp2_with fail
        generalize hX : (((((w5.setCell ⟨w.heap.size + 1, 0, none⟩ (.bool so)).setCell ⟨w.heap.size + 1, 1, none⟩ (.int .i64 sn)).setCell ⟨w.heap.size + 1, 2, none⟩ (.int .i64 sd)).setCell ⟨w.heap.size + 1 + 1, 0, none⟩ (.bool so2)).setCell ⟨w.heap.size + 1 + 1, 1, none⟩ (.int .i64 sn2)).setCell ⟨w.heap.size + 1 + 1, 2, none⟩ (.int .i64 sd2) = X
        have hX2 : Bx (w.heap.size + 1) [.bool so, .int .i64 sn, .int .i64 sd] X := by rw [← hX]; exact (HR5.out.set3 _ _ _).other3 (by omega) _ _ _
        have hX3 : Bx (w.heap.size + 1 + 1) [.bool so2, .int .i64 sn2, .int .i64 sd2] X := by rw [← hX]; exact (HT5.out.other3 (by omega) _ _ _).set3 _ _ _
        have hXB : Below w.heap.size w X := by rw [← hX]; exact bset3 (bset3 HB5.out (by omega) _ _ _) (by omega) _ _ _
        obtain ⟨x0, x1, x2, _⟩ := hX2.all3
        obtain ⟨x3, x4, x5, _⟩ := hX3.all3
        exact bodyPost_ret (v := .tuple #[.agg #[.bool so, .int .i64 sn, .int .i64 sd], .agg #[.bool so2, .int .i64 sn2, .int .i64 sd2], .int .i64 ser]) (by simp [results, Try.results7, go_sem, x0, x1, x2, x3, x4, x5]) rfl ⟨congrArg Ending.returned HRES.out, hXB⟩
    · have HV : Hid (wrongV 1 = res) := by
        show _ = _
        rw [← HV0.out]; unfold mostsV; rw [if_neg (by rw [HE0.out]; simp), if_neg (by rintro ⟨h1, _⟩; have h2 := HLB.out; have h3 := HLR.out; omega)]
      have hl1 : ((bl : Int) == (rl : Int)) = false := by simp; omega
      have hl2 : ((bl : Int) != (rl : Int)) = true := by simp; omega
      go_wp2_with fail
      generalize hX : (((((((w1).setCell ⟨w.heap.size + 1, 0, none⟩ (.bool false)).setCell ⟨w.heap.size + 1, 1, none⟩ (.int .i64 0)).setCell ⟨w.heap.size + 1, 2, none⟩ (.int .i64 0)).setCell ⟨w.heap.size + 1 + 1, 0, none⟩ (.bool false)).setCell ⟨w.heap.size + 1 + 1, 1, none⟩ (.int .i64 0)).setCell ⟨w.heap.size + 1 + 1, 2, none⟩ (.int .i64 0)).alloc (.cells #[.slice xa xl xc, .int .i64 dx, .slice ya yl yc, .int .i64 dy, .slice ga gl gc, .int .i64 dg] 39) = X
      have hX2 : Bx (w.heap.size + 1) [.bool false, .int .i64 0, .int .i64 0] X := by rw [← hX]; exact ((HR.out.set3 _ _ _).other3 (by omega) _ _ _).step (balloc _ _)
      have hX3 : Bx (w.heap.size + 1 + 1) [.bool false, .int .i64 0, .int .i64 0] X := by rw [← hX]; exact ((HT.out.other3 (by omega) _ _ _).set3 _ _ _).step (balloc _ _)
      have hXB : Below w.heap.size w X := by rw [← hX]; exact bstep (bset3 (bset3 HB.out (by omega) _ _ _) (by omega) _ _ _) (balloc _ _)
      obtain ⟨x0, x1, x2, _⟩ := hX2.all3
      obtain ⟨y0, y1, y2, _⟩ := hX3.all3
      exact bodyPost_ret (v := .tuple #[.agg #[.bool false, .int .i64 0, .int .i64 0], .agg #[.bool false, .int .i64 0, .int .i64 0], .int .i64 1]) (by simp [results, Try.results7, go_sem, x0, x1, x2, y0, y1, y2]) rfl ⟨congrArg Ending.returned HV.out, hXB⟩
  · have e1 : (er != 0) = true := by simpa using her
    have HV : Hid (wrongV er = res) := HER.out her
    go_wp2_with fail
    generalize hX : (((((((w1).setCell ⟨w.heap.size + 1, 0, none⟩ (.bool false)).setCell ⟨w.heap.size + 1, 1, none⟩ (.int .i64 0)).setCell ⟨w.heap.size + 1, 2, none⟩ (.int .i64 0)).setCell ⟨w.heap.size + 1 + 1, 0, none⟩ (.bool false)).setCell ⟨w.heap.size + 1 + 1, 1, none⟩ (.int .i64 0)).setCell ⟨w.heap.size + 1 + 1, 2, none⟩ (.int .i64 0)).alloc (.cells #[.slice xa xl xc, .int .i64 dx, .slice ya yl yc, .int .i64 dy, .slice ga gl gc, .int .i64 dg] 39) = X
    have hX2 : Bx (w.heap.size + 1) [.bool false, .int .i64 0, .int .i64 0] X := by rw [← hX]; exact ((HR.out.set3 _ _ _).other3 (by omega) _ _ _).step (balloc _ _)
    have hX3 : Bx (w.heap.size + 1 + 1) [.bool false, .int .i64 0, .int .i64 0] X := by rw [← hX]; exact ((HT.out.other3 (by omega) _ _ _).set3 _ _ _).step (balloc _ _)
    have hXB : Below w.heap.size w X := by rw [← hX]; exact bstep (bset3 (bset3 HB.out (by omega) _ _ _) (by omega) _ _ _) (balloc _ _)
    obtain ⟨x0, x1, x2, _⟩ := hX2.all3
    obtain ⟨y0, y1, y2, _⟩ := hX3.all3
    exact bodyPost_ret (v := .tuple #[.agg #[.bool false, .int .i64 0, .int .i64 0], .agg #[.bool false, .int .i64 0, .int .i64 0], .int .i64 er]) (by simp [results, Try.results7, go_sem, x0, x1, x2, y0, y1, y2]) rfl ⟨congrArg Ending.returned HV.out, hXB⟩

end Go.Proofs.Ytipcbhodlgoflab
