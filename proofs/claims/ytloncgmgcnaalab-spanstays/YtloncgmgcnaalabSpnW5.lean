/- What span.Costs does. -/
import Derived.Test.YtloncgmgcnaalabSpnW4
namespace Go.Proofs.Ytloncgmgcnaalab
open Go.RowKit

set_option maxHeartbeats 1600000 in
theorem spanCosts_any (ca : Option Addr) (cl cc : Nat) (ra : Option Addr) (rl rc : Nat) (p : Num.Lp) (w : World) (hc : Ints w ca cl p.costs) (hcl : cl ≤ 9223372036854775807) (hr : RowsAt w ra rl p.rows) (hrl : rl ≤ 9223372036854775807)
    (aa : Option Addr) (al ac : Nat) (at' : List Int) (ha : Ints w aa al at') (hal : al ≤ 9223372036854775807) (ba : Option Addr) (bl bc : Nat) (y : List Int) (hy : Ints w ba bl y) (hbl : bl ≤ 9223372036854775807) :
    Calls Try.prog 6 #[.agg #[.slice ca cl cc, .slice ra rl rc], .slice aa al ac, .slice ba bl bc] w fun e w' => e = .returned (costsV p at' y) ∧ Below w.heap.size w w' := by
  have HC : Hid (Ints w ca cl p.costs) := hc
  have HRo : Hid (RowsAt w ra rl p.rows) := hr
  have HA : Hid (Ints w aa al at') := ha
  have HY : Hid (Ints w ba bl y) := hy
  have HLB : Hid (bl = y.length) := hy.1
  have HLC : Hid (cl = p.costs.length) := hc.1
  have HLR : Hid (rl = p.rows.length) := hr.1
  clear hc hr ha hy
  generalize hv : costsV p at' y = res
  have HV0 : Hid (costsV p at' y = res) := hv
  clear hv
  have HB0 : Hid (Below w.heap.size w (((w.alloc (.cells #[.slice ca cl cc, .slice ra rl rc] 25)).alloc (.cells #[.bool false, .int .i64 0, .int .i64 0] 30)).alloc (.cells #[.bool false, .int .i64 0, .int .i64 0] 30))) := bstep (bstep (balloc _ _) (balloc _ _)) (balloc _ _)
  go_enter Try.func6, Try.ntmps6
  go_wp2_with fail
  refine (look_new _ _ _ _ _ _ p _ (Ints.below HC.out HB0.out (Nat.le_refl _)) hcl (RowsAt.below HRo.out HB0.out (Nat.le_refl _)) hrl _ _ _ at' (Ints.below HA.out HB0.out (Nat.le_refl _)) hal).mono ?_
  rintro e w1 ⟨xa, xl, xc, ya, yl, yc, ga, gl, gc, rfl, hx, _, hg, hxl, _, hgl, hb1, _, hnew⟩
  have HP : Hid (Bx (w.heap.size) [.slice ca cl cc, .slice ra rl rc] w1) := (((Bx.new rfl _ _).step (balloc _ _)).step (balloc _ _)).step hb1
  have HR : Hid (Bx (w.heap.size + 1) [.bool false, .int .i64 0, .int .i64 0] w1) := ((Bx.new (by simp) _ _).step (balloc _ _)).step hb1
  have HT : Hid (Bx (w.heap.size + 1 + 1) [.bool false, .int .i64 0, .int .i64 0] w1) := (Bx.new (by simp) _ _).step hb1
  have HB : Hid (Below w.heap.size w w1) := bstep HB0.out hb1
  have HG : Hid (Ints w1 ga gl (Num.look p at').g) := hg
  have HNEW : Hid (gl = 0 ∨ ∃ g, ga = some ⟨g, 0, none⟩ ∧ w.heap.size + 1 + 1 + 1 ≤ g) := by show _ ∨ _; have h := hnew.g; simpa using h
  clear hb1 hx hg hnew HB0
  obtain ⟨p0, p1, _, _⟩ := HP.out.all2
  obtain ⟨r0, r1, r2, rf0, rf1, rf2⟩ := HR.out.all3
  obtain ⟨t0, t1, t2, tf0, tf1, tf2⟩ := HT.out.all3
  have z0 : w.heap.size < w1.heap.size := HP.out.lt
  have z1 : w.heap.size + 1 < w1.heap.size := HR.out.lt
  have z2 : w.heap.size + 1 + 1 < w1.heap.size := HT.out.lt
  have HOK : Hid ((Num.look p at').err = 0 → p.may = true ∧ Num.rightB at' p.rows.length (p.costs.length + p.rows.length) = true ∧ Num.denL p at' p.rows.length ≠ 0) := Num.look_ok_of p at'
  have HER : Hid ((Num.look p at').err ≠ 0 → wrongV (Num.look p at').err = res) := by
    intro h; rw [← HV0.out]; unfold costsV; rw [if_pos h]
  generalize hdx : (Num.look p at').xd = dx
  generalize hdy : (Num.look p at').yd = dy
  generalize hdg : (Num.look p at').gd = dg
  have HDG : Hid ((Num.look p at').gd = dg) := hdg
  clear hdx hdy hdg
  generalize her0 : (Num.look p at').err = er at HOK HER
  have HE0 : Hid ((Num.look p at').err = er) := her0
  clear her0
  by_cases her : er = 0
  · subst her
    have HOK2 : Hid (p.may = true ∧ Num.rightB at' p.rows.length (p.costs.length + p.rows.length) = true ∧ Num.denL p at' p.rows.length ≠ 0) := HOK.out rfl
    clear HOK HER
    by_cases hlen : bl = cl
    · have hl1 : ((bl : Int) == (cl : Int)) = true := by simp; omega
      have hl2 : ((bl : Int) != (cl : Int)) = false := by simp; omega
      have HLEN : Hid (bl = cl) := hlen
      clear hlen
      go_wp2_with fail
      refine (within_any 400 _ _ _ y _ (Ints.below HY.out (bstep HB.out (balloc _ _)) (Nat.le_refl _)) hbl (by omega) (by omega)).mono ?_
      rintro e w1' ⟨rfl, rfl⟩
      cases hw : Num.withinB 400 y
      · have HV : Hid (wrongV 1 = res) := by
          show _ = _
          rw [← HV0.out]; unfold costsV; rw [if_neg (by rw [HE0.out]; simp), if_neg (by rintro ⟨_, h1⟩; rw [hw] at h1; cases h1)]
        go_wp2_with fail
        generalize hX : (((((((w1).setCell ⟨w.heap.size + 1, 0, none⟩ (.bool false)).setCell ⟨w.heap.size + 1, 1, none⟩ (.int .i64 0)).setCell ⟨w.heap.size + 1, 2, none⟩ (.int .i64 0)).setCell ⟨w.heap.size + 1 + 1, 0, none⟩ (.bool false)).setCell ⟨w.heap.size + 1 + 1, 1, none⟩ (.int .i64 0)).setCell ⟨w.heap.size + 1 + 1, 2, none⟩ (.int .i64 0)).alloc (.cells #[.slice xa xl xc, .int .i64 dx, .slice ya yl yc, .int .i64 dy, .slice ga gl gc, .int .i64 dg] 39) = X
        have hX2 : Bx (w.heap.size + 1) [.bool false, .int .i64 0, .int .i64 0] X := by rw [← hX]; exact ((HR.out.set3 _ _ _).other3 (by omega) _ _ _).step (balloc _ _)
        have hX3 : Bx (w.heap.size + 1 + 1) [.bool false, .int .i64 0, .int .i64 0] X := by rw [← hX]; exact ((HT.out.other3 (by omega) _ _ _).set3 _ _ _).step (balloc _ _)
        have hXB : Below w.heap.size w X := by rw [← hX]; exact bstep (bset3 (bset3 HB.out (by omega) _ _ _) (by omega) _ _ _) (balloc _ _)
        obtain ⟨x0, x1, x2, _⟩ := hX2.all3
        obtain ⟨y0, y1, y2, _⟩ := hX3.all3
        exact bodyPost_ret (v := .tuple #[.agg #[.bool false, .int .i64 0, .int .i64 0], .agg #[.bool false, .int .i64 0, .int .i64 0], .int .i64 1]) (by simp [results, Try.results6, go_sem, x0, x1, x2, y0, y1, y2]) rfl ⟨congrArg Ending.returned HV.out, hXB⟩
      · obtain ⟨hm, hri, hde⟩ := HOK2.out
        have HLY : Hid (y.length = p.costs.length) := by show _ = _; have h1 := HLEN.out; have h2 := HLB.out; have h3 := HLC.out; omega
        have h44 : cl + rl ≤ 8 := by have h2 := HLC.out; have h3 := HLR.out; have := (p.may_of hm).1.2; have := (p.may_of hm).2.2.1.2; omega
        obtain ⟨N, hN⟩ : ∃ N, N = p.costs.length + p.rows.length := ⟨_, rfl⟩
        have HNN : Hid (N = p.costs.length + p.rows.length) := hN
        have hN8 : N ≤ 8 := by have h2 := HLC.out; have h3 := HLR.out; omega
        clear hN
        obtain ⟨k1, k2, k3, k4, k5, k6⟩ := Num.costs_parts p at' y (HOK2.out) HLY.out hw N HNN.out
        have HV : Hid (endsV (Num.costsN p at' y) = res) := by
          show _ = _
          rw [← HV0.out]; unfold costsV; rw [if_neg (by rw [HE0.out]; simp), if_pos ⟨HLY.out, hw⟩]
        have hgl0 : N = gl := by have := HG.out.1; omega
        subst hgl0
        have HK3 : Hid _ := k3
        have HK4 : Hid _ := k4
        have HK5 : Hid _ := k5
        have HK6 : Hid _ := k6
        have HK2 : Hid _ := k2
        clear k1 k2 k3 k4 k5 k6 hm hri hde
        go_wp2_with fail
        have HB2 : Hid (Below w.heap.size w (w1.alloc (.cells #[.slice xa xl xc, .int .i64 dx, .slice ya yl yc, .int .i64 dy, .slice ga N gc, .int .i64 dg] 39))) := bstep HB.out (balloc _ _)
        refine (look_new _ _ _ _ _ _ (Num.withC p y) _ (Ints.below HY.out HB2.out (Nat.le_refl _)) hbl (RowsAt.below HRo.out HB2.out (Nat.le_refl _)) hrl _ _ _ at' (Ints.below HA.out HB2.out (Nat.le_refl _)) hal).mono ?_
        rintro e w2 ⟨xa2, xl2, xc2, ya2, yl2, yc2, ga2, gl2, gc2, rfl, _, _, hg2, _, _, hgl2, hb2, _, hnew2⟩
        have hgl3 : N = gl2 := by have := hg2.1; have := HK2.out; omega
        subst hgl3
        have HNEW2 : Hid (N = 0 ∨ ∃ g, ga2 = some ⟨g, 0, none⟩ ∧ w.heap.size + 1 + 1 + 1 ≤ g) := by
          show _ ∨ _
          rcases hnew2.g with h | ⟨g, h1, h2⟩
          · exact Or.inl h
          · exact Or.inr ⟨g, h1, by have : w.heap.size + 1 + 1 < w1.heap.size := HT.out.lt; simp at h2; omega⟩
        have HC9 : Hid (Bx w1.heap.size [.slice xa xl xc, .int .i64 dx, .slice ya yl yc, .int .i64 dy, .slice ga N gc, .int .i64 dg] w2) := (Bx.new rfl _ _).step hb2
        have HG2 : Hid (Ints w2 ga2 N (Num.look (Num.withC p y) at').g) := hg2
        have hz9 : w.heap.size + 1 + 1 < w1.heap.size := HT.out.lt
        have hz11 : w1.heap.size < w2.heap.size := by have := hb2.size; simp at this; omega
        have HR2 : Hid (Bx (w.heap.size + 1) [.bool false, .int .i64 0, .int .i64 0] w2) := (HR.out.step (balloc _ _)).step hb2
        have HT2 : Hid (Bx (w.heap.size + 1 + 1) [.bool false, .int .i64 0, .int .i64 0] w2) := (HT.out.step (balloc _ _)).step hb2
        have HGG : Hid (Ints w2 ga N (Num.look p at').g) := Ints.below (Ints.below HG.out (balloc _ _) (Nat.le_refl _)) hb2 (Nat.le_refl _)
        have HB3 : Hid (Below w.heap.size w w2) := bstep HB2.out hb2
        clear hb2 hg2 hnew2 HR HT HG HB2 HB HP p0 p1 r0 r1 r2 rf0 rf1 rf2 t0 t1 t2 tf0 tf1 tf2 z0 z1 z2
        have HKN : Hid (NBn N ((List.range N).map fun k => -((Num.look p at').g[k]?.getD 0)) ((List.range N).map fun k => -((Num.look (Num.withC p y) at').g[k]?.getD 0)) dg (Num.look (Num.withC p y) at').gd) := by have := HK5.out; rw [HDG.out] at this; exact this
        have HKS : Hid (endsV (Num.spanS (fun j => ((List.range N).map fun k => -((Num.look p at').g[k]?.getD 0))[j]?.getD 0 * (Num.look (Num.withC p y) at').gd) (fun j => ((List.range N).map fun k => -((Num.look (Num.withC p y) at').g[k]?.getD 0))[j]?.getD 0 * dg) N) = res) := by
          show _ = _
          have := HK6.out
          rw [HDG.out] at this
          rw [this]
          exact HV.out
        clear HK5 HK6 HV HV0 HE0 HDG HOK2 HLY HK2 hw
        generalize (Num.look (Num.withC p y) at').gd = dg2 at *
        generalize (Num.look (Num.withC p y) at').xd = dx2 at *
        generalize (Num.look (Num.withC p y) at').yd = dy2 at *
        generalize (Num.look (Num.withC p y) at').err = er2 at *
        generalize (Num.look (Num.withC p y) at').g = lg2 at *
        generalize (Num.look p at').g = lg at *
        have HCS : Hid (CS w w1.heap.size w2.heap.size ga ga2 N gc gc2 dg dg2 lg lg2 (w2.alloc (.cells #[.slice xa2 xl2 xc2, .int .i64 dx2, .slice ya2 yl2 yc2, .int .i64 dy2, .slice ga2 N gc2, .int .i64 dg2] 39))) :=
          ⟨bstep HB3.out (balloc _ _), (HC9.out.step (balloc _ _)).c 4 _ rfl, (HC9.out.step (balloc _ _)).c 5 _ rfl, (Bx.new rfl _ _).c 4 _ rfl, (Bx.new rfl _ _).c 5 _ rfl, Ints.below HGG.out (balloc _ _) (Nat.le_refl _), Ints.below HG2.out (balloc _ _) (Nat.le_refl _), ⟨_, _, _, HR2.out.step (balloc _ _)⟩, ⟨_, _, _, HT2.out.step (balloc _ _)⟩, by omega, by omega, HNEW.out, HNEW2.out⟩
        clear HR2 HT2 HGG HB3 HG2 HC9 HNEW HNEW2
        obtain ⟨so, sn, sd, so2, sn2, sd2, ser, hform⟩ := endsV_form (Num.spanS (fun j => ((List.range N).map fun k => -(lg[k]?.getD 0))[j]?.getD 0 * dg2) (fun j => ((List.range N).map fun k => -(lg2[k]?.getD 0))[j]?.getD 0 * dg) N)
        have HRES : Hid (.tuple #[.agg #[.bool so, .int .i64 sn, .int .i64 sd], .agg #[.bool so2, .int .i64 sn2, .int .i64 sd2], .int .i64 ser] = res) := by show _ = _; rw [← hform]; exact HKS.out
        have KN1 : Hid (∀ v, CS w w1.heap.size w2.heap.size ga ga2 N gc gc2 dg dg2 lg lg2 v → Calls Try.prog 26 #[.agg #[.slice ga N gc, .int .i64 dg]] v fun e v' => ∃ g, e = .returned (.agg #[.slice (some ⟨g, 0, none⟩) N N, .int .i64 dg]) ∧ CS w w1.heap.size w2.heap.size ga ga2 N gc gc2 dg dg2 lg lg2 v' ∧ Ints v' (some ⟨g, 0, none⟩) N ((List.range N).map fun k => -(lg[k]?.getD 0)) ∧ Below v.heap.size v v') := by
          intro v h
          exact (negated_any ga N gc lg dg v h.i9 hN8 HK3.out).mono fun e v' ⟨g, h1, h2, h3⟩ => ⟨g, h1, h.step h3, h2, h3⟩
        have KN2 : Hid (∀ v, CS w w1.heap.size w2.heap.size ga ga2 N gc gc2 dg dg2 lg lg2 v → Calls Try.prog 26 #[.agg #[.slice ga2 N gc2, .int .i64 dg2]] v fun e v' => ∃ g, e = .returned (.agg #[.slice (some ⟨g, 0, none⟩) N N, .int .i64 dg2]) ∧ CS w w1.heap.size w2.heap.size ga ga2 N gc gc2 dg dg2 lg lg2 v' ∧ Ints v' (some ⟨g, 0, none⟩) N ((List.range N).map fun k => -(lg2[k]?.getD 0)) ∧ Below v.heap.size v v') := by
          intro v h
          exact (negated_any ga2 N gc2 lg2 dg2 v h.i11 hN8 HK4.out).mono fun e v' ⟨g, h1, h2, h3⟩ => ⟨g, h1, h.step h3, h2, h3⟩
        have KB : Hid (∀ v g1 g2, CS w w1.heap.size w2.heap.size ga ga2 N gc gc2 dg dg2 lg lg2 v → Ints v (some ⟨g1, 0, none⟩) N ((List.range N).map fun k => -(lg[k]?.getD 0)) → Ints v (some ⟨g2, 0, none⟩) N ((List.range N).map fun k => -(lg2[k]?.getD 0)) → Calls Try.prog 25 #[.agg #[.slice (some ⟨g1, 0, none⟩) N N, .int .i64 dg], .agg #[.slice (some ⟨g2, 0, none⟩) N N, .int .i64 dg2]] v fun e v' => e = .returned (.tuple #[.agg #[.bool so, .int .i64 sn, .int .i64 sd], .agg #[.bool so2, .int .i64 sn2, .int .i64 sd2], .int .i64 ser]) ∧ CS w w1.heap.size w2.heap.size ga ga2 N gc gc2 dg dg2 lg lg2 v' ∧ Below v.heap.size v v') := by
          intro v g1 g2 h h1 h2
          refine (notBelow_any _ _ N N N _ _ dg dg2 v h1 h2 HKN.out).mono ?_
          rintro e v' ⟨rfl, h3⟩
          exact ⟨by rw [hform], h.step h3, h3⟩
        clear hform HKN HKS HK3 HK4
        generalize ((List.range N).map fun k => -(lg[k]?.getD 0)) = ln at *
        generalize ((List.range N).map fun k => -(lg2[k]?.getD 0)) = ls at *
        go_wp2_with fail
        generalize hV : w2.alloc (.cells #[.slice xa2 xl2 xc2, .int .i64 dx2, .slice ya2 yl2 yc2, .int .i64 dy2, .slice ga2 N gc2, .int .i64 dg2] 39) = V at HCS ⊢
        clear hV
        generalize w1.heap.size = b9 at *
        generalize w2.heap.size = b11 at *
        have q0 : ∀ v, CS w b9 b11 ga ga2 N gc gc2 dg dg2 lg lg2 v → v.cell? ⟨b9, 4, none⟩ = some (.slice ga N gc) := fun v h => h.a4
        have q1 : ∀ v, CS w b9 b11 ga ga2 N gc gc2 dg dg2 lg lg2 v → v.cell? ⟨b9, 5, none⟩ = some (.int .i64 dg) := fun v h => h.a5
        have q2 : ∀ v, CS w b9 b11 ga ga2 N gc gc2 dg dg2 lg lg2 v → v.cell? ⟨b11, 4, none⟩ = some (.slice ga2 N gc2) := fun v h => h.d4
        have q3 : ∀ v, CS w b9 b11 ga ga2 N gc gc2 dg dg2 lg lg2 v → v.cell? ⟨b11, 5, none⟩ = some (.int .i64 dg2) := fun v h => h.d5
        obtain ⟨F0, F1, F2, G0, G1, G2, ⟨u0, u1, u2⟩, u3, u4, u5⟩ := CS.cells (w := w) (b9 := b9) (b11 := b11) (ga := ga) (ga2 := ga2) (N := N) (gc := gc) (gc2 := gc2) (dg := dg) (dg2 := dg2) (lg := lg) (lg2 := lg2)
        have v0 : ∀ v, CS w b9 b11 ga ga2 N gc gc2 dg dg2 lg lg2 v → v.frozen? ⟨w.heap.size + 1, 0, none⟩ = false := fun v h => by obtain ⟨_, _, _, hr⟩ := h.r; exact hr.f 0
        have v1 : ∀ v, CS w b9 b11 ga ga2 N gc gc2 dg dg2 lg lg2 v → v.frozen? ⟨w.heap.size + 1, 1, none⟩ = false := fun v h => by obtain ⟨_, _, _, hr⟩ := h.r; exact hr.f 1
        have v2 : ∀ v, CS w b9 b11 ga ga2 N gc gc2 dg dg2 lg lg2 v → v.frozen? ⟨w.heap.size + 1, 2, none⟩ = false := fun v h => by obtain ⟨_, _, _, hr⟩ := h.r; exact hr.f 2
        have v3 : ∀ v, CS w b9 b11 ga ga2 N gc gc2 dg dg2 lg lg2 v → v.frozen? ⟨w.heap.size + 1 + 1, 0, none⟩ = false := fun v h => by obtain ⟨_, _, _, hr⟩ := h.t; exact hr.f 0
        have v4 : ∀ v, CS w b9 b11 ga ga2 N gc gc2 dg dg2 lg lg2 v → v.frozen? ⟨w.heap.size + 1 + 1, 1, none⟩ = false := fun v h => by obtain ⟨_, _, _, hr⟩ := h.t; exact hr.f 1
        have v5 : ∀ v, CS w b9 b11 ga ga2 N gc gc2 dg dg2 lg lg2 v → v.frozen? ⟨w.heap.size + 1 + 1, 2, none⟩ = false := fun v h => by obtain ⟨_, _, _, hr⟩ := h.t; exact hr.f 2
        have hS0 : CS w b9 b11 ga ga2 N gc gc2 dg dg2 lg lg2 V.drew := HCS.out.step (Below.refl _ _).drew
        clear HCS HC HRo HA HY HLB HLC HLR HLEN HNN
        go_region_held3 (fun v => CS w b9 b11 ga ga2 N gc gc2 dg dg2 lg lg2 v) (first | (with_reducible assumption) | (with_reducible exact hS0) | (with_reducible refine CS.set3r ?_ _ _ _; with_reducible assumption) | (with_reducible refine CS.set3t ?_ _ _ _; with_reducible assumption) | (with_reducible refine CS.set3t (CS.set3r ?_ _ _ _) _ _ _; with_reducible assumption) | (with_reducible refine CS.set3r (CS.set3t ?_ _ _ _) _ _ _; with_reducible assumption))
          (first
            | (go_at_call 26; (first
                | (with_reducible refine (KN1.out _ ?_).mono ?_; with_reducible assumption; rintro e w3 ⟨g1, rfl, hc1, hI1, hk1⟩; (first | (with_reducible have hI2 := Ints.below hI2 hk1 (Nat.le_refl _)) | skip))
                | (with_reducible refine (KN2.out _ ?_).mono ?_; with_reducible assumption; rintro e w4 ⟨g2, rfl, hc2, hI2, hk2⟩; (first | (with_reducible have hI1 := Ints.below hI1 hk2 (Nat.le_refl _)) | skip))))
            | (go_at_call 25; with_reducible refine (KB.out _ _ _ ?_ hI1 hI2).mono ?_; with_reducible assumption; rintro e w5 ⟨rfl, hc3, hk3⟩))
        obtain ⟨y0, y1, y2, hr5⟩ := hc3.r
        obtain ⟨y3, y4, y5, ht5⟩ := hc3.t
        have HR5 : Hid _ := hr5
        have HT5 : Hid _ := ht5
        have HB5 : Hid _ := hc3.bel
        clear hr5 ht5 hc3 hk3 KN1 KN2 KB q0 q1 q2 q3 u0 u1 u2 u3 u4 u5 v0 v1 v2 v3 v4 v5 hI1 hI2 hk1 hk2 hc1 hc2 hS0
        go_wp2_with fail
        generalize hX : (((((w5.setCell ⟨w.heap.size + 1, 0, none⟩ (.bool so)).setCell ⟨w.heap.size + 1, 1, none⟩ (.int .i64 sn)).setCell ⟨w.heap.size + 1, 2, none⟩ (.int .i64 sd)).setCell ⟨w.heap.size + 1 + 1, 0, none⟩ (.bool so2)).setCell ⟨w.heap.size + 1 + 1, 1, none⟩ (.int .i64 sn2)).setCell ⟨w.heap.size + 1 + 1, 2, none⟩ (.int .i64 sd2) = X
        have hX2 : Bx (w.heap.size + 1) [.bool so, .int .i64 sn, .int .i64 sd] X := by rw [← hX]; exact (HR5.out.set3 _ _ _).other3 (by omega) _ _ _
        have hX3 : Bx (w.heap.size + 1 + 1) [.bool so2, .int .i64 sn2, .int .i64 sd2] X := by rw [← hX]; exact (HT5.out.other3 (by omega) _ _ _).set3 _ _ _
        have hXB : Below w.heap.size w X := by rw [← hX]; exact bset3 (bset3 HB5.out (by omega) _ _ _) (by omega) _ _ _
        obtain ⟨x0, x1, x2, _⟩ := hX2.all3
        obtain ⟨x3, x4, x5, _⟩ := hX3.all3
        exact bodyPost_ret (v := .tuple #[.agg #[.bool so, .int .i64 sn, .int .i64 sd], .agg #[.bool so2, .int .i64 sn2, .int .i64 sd2], .int .i64 ser]) (by simp [results, Try.results6, go_sem, x0, x1, x2, x3, x4, x5]) rfl ⟨congrArg Ending.returned HRES.out, hXB⟩
    · have HV : Hid (wrongV 1 = res) := by
        show _ = _
        rw [← HV0.out]; unfold costsV; rw [if_neg (by rw [HE0.out]; simp), if_neg (by rintro ⟨h1, _⟩; have h2 := HLB.out; have h3 := HLC.out; omega)]
      have hl1 : ((bl : Int) == (cl : Int)) = false := by simp; omega
      have hl2 : ((bl : Int) != (cl : Int)) = true := by simp; omega
      go_wp2_with fail
      generalize hX : (((((((w1).setCell ⟨w.heap.size + 1, 0, none⟩ (.bool false)).setCell ⟨w.heap.size + 1, 1, none⟩ (.int .i64 0)).setCell ⟨w.heap.size + 1, 2, none⟩ (.int .i64 0)).setCell ⟨w.heap.size + 1 + 1, 0, none⟩ (.bool false)).setCell ⟨w.heap.size + 1 + 1, 1, none⟩ (.int .i64 0)).setCell ⟨w.heap.size + 1 + 1, 2, none⟩ (.int .i64 0)).alloc (.cells #[.slice xa xl xc, .int .i64 dx, .slice ya yl yc, .int .i64 dy, .slice ga gl gc, .int .i64 dg] 39) = X
      have hX2 : Bx (w.heap.size + 1) [.bool false, .int .i64 0, .int .i64 0] X := by rw [← hX]; exact ((HR.out.set3 _ _ _).other3 (by omega) _ _ _).step (balloc _ _)
      have hX3 : Bx (w.heap.size + 1 + 1) [.bool false, .int .i64 0, .int .i64 0] X := by rw [← hX]; exact ((HT.out.other3 (by omega) _ _ _).set3 _ _ _).step (balloc _ _)
      have hXB : Below w.heap.size w X := by rw [← hX]; exact bstep (bset3 (bset3 HB.out (by omega) _ _ _) (by omega) _ _ _) (balloc _ _)
      obtain ⟨x0, x1, x2, _⟩ := hX2.all3
      obtain ⟨y0, y1, y2, _⟩ := hX3.all3
      exact bodyPost_ret (v := .tuple #[.agg #[.bool false, .int .i64 0, .int .i64 0], .agg #[.bool false, .int .i64 0, .int .i64 0], .int .i64 1]) (by simp [results, Try.results6, go_sem, x0, x1, x2, y0, y1, y2]) rfl ⟨congrArg Ending.returned HV.out, hXB⟩
  · have e1 : (er != 0) = true := by simpa using her
    have HV : Hid (wrongV er = res) := HER.out her
    go_wp2_with fail
    generalize hX : (((((((w1).setCell ⟨w.heap.size + 1, 0, none⟩ (.bool false)).setCell ⟨w.heap.size + 1, 1, none⟩ (.int .i64 0)).setCell ⟨w.heap.size + 1, 2, none⟩ (.int .i64 0)).setCell ⟨w.heap.size + 1 + 1, 0, none⟩ (.bool false)).setCell ⟨w.heap.size + 1 + 1, 1, none⟩ (.int .i64 0)).setCell ⟨w.heap.size + 1 + 1, 2, none⟩ (.int .i64 0)).alloc (.cells #[.slice xa xl xc, .int .i64 dx, .slice ya yl yc, .int .i64 dy, .slice ga gl gc, .int .i64 dg] 39) = X
    have hX2 : Bx (w.heap.size + 1) [.bool false, .int .i64 0, .int .i64 0] X := by rw [← hX]; exact ((HR.out.set3 _ _ _).other3 (by omega) _ _ _).step (balloc _ _)
    have hX3 : Bx (w.heap.size + 1 + 1) [.bool false, .int .i64 0, .int .i64 0] X := by rw [← hX]; exact ((HT.out.other3 (by omega) _ _ _).set3 _ _ _).step (balloc _ _)
    have hXB : Below w.heap.size w X := by rw [← hX]; exact bstep (bset3 (bset3 HB.out (by omega) _ _ _) (by omega) _ _ _) (balloc _ _)
    obtain ⟨x0, x1, x2, _⟩ := hX2.all3
    obtain ⟨y0, y1, y2, _⟩ := hX3.all3
    exact bodyPost_ret (v := .tuple #[.agg #[.bool false, .int .i64 0, .int .i64 0], .agg #[.bool false, .int .i64 0, .int .i64 0], .int .i64 er]) (by simp [results, Try.results6, go_sem, x0, x1, x2, y0, y1, y2]) rfl ⟨congrArg Ending.returned HV.out, hXB⟩

end Go.Proofs.Ytloncgmgcnaalab
