/- The law SweepHolds: with no condition. -/
import Derived.Test.YtipcbhodlgoflabGreatSwpH0
import Derived.Test.YtipcbhodlgoflabGreatSlvW7
namespace Go.Proofs.YtipcbhodlgoflabGreat
open Go.RowKit

theorem ints_oneH {w : World} {g : Nat} {v : Int} (h : w.cell? ⟨g, 0, none⟩ = some (.int .i64 v)) (hg : g < w.heap.size) : Ints w (some ⟨g, 0, none⟩) 1 [v] :=
  ⟨rfl, Or.inr ⟨g, 0, rfl, hg, fun j hj => by
    have hj0 : j = 0 := by omega
    subst hj0
    exact h⟩⟩

theorem tmod17h (x : Int) : -16 ≤ x.tmod 17 ∧ x.tmod 17 ≤ 16 := by
  have h1 : x.tmod 17 < 17 := Int.tmod_lt_of_pos x (by decide)
  have h2 : (-x).tmod 17 < 17 := Int.tmod_lt_of_pos (-x) (by decide)
  rw [Int.neg_tmod] at h2
  omega

/-- What the one that is known answers. -/
theorem known_any (g h : Nat) (w : World) (h1 : w.cell? ⟨g, 0, none⟩ = some (.int .i64 1)) (hg : g < w.heap.size) (hr : RowsAt w (some ⟨h, 0, none⟩) 1 [([1], 3)]) (g2 : Nat) (h2 : w.cell? ⟨g2, 0, none⟩ = some (.int .i64 1)) (hg2 : g2 < w.heap.size) :
    Calls Tryz.prog 4 #[.agg #[.slice (some ⟨g, 0, none⟩) 1 1, .slice (some ⟨h, 0, none⟩) 1 1], .slice (some ⟨g2, 0, none⟩) 1 1] w fun e w' => Below w.heap.size w w' ∧ ∃ a c, e = .returned (.tuple #[.slice a 2 c, .int .i64 0]) := by
  refine (sweep_any (some ⟨g, 0, none⟩) 1 1 (some ⟨h, 0, none⟩) 1 1 ⟨[1], [([1], 3)]⟩ w (ints_oneH h1 hg) (by omega) hr (by omega) (some ⟨g2, 0, none⟩) 1 1 [1] (ints_oneH h2 hg2) (by omega)).mono ?_
  rintro e w' ⟨hb, ⟨h, _⟩ | ⟨_, h, _⟩ | ⟨_, _, h, _⟩ | ⟨_, _, _, a, c, rfl, _⟩⟩
  · rw [Num.one_may] at h; cases h
  · rw [Num.one_bmay] at h; cases h
  · exact absurd ⟨_, (Num.goodB_iff _ _ 1 1 Num.one_may rfl rfl).1 Num.one_goodB⟩ h
  · exact ⟨hb, a, c, by rw [Num.one_two]⟩

set_option maxRecDepth 4000 in
set_option maxHeartbeats 3200000 in
theorem sweepHolds.walk (ca : Option Addr) (cl cc : Nat) (ra : Option Addr) (rl rc : Nat) (p : Num.Lp) (w : World) (hc : Ints w ca cl p.costs) (hcl : cl ≤ 9223372036854775807) (hr : RowsAt w ra rl p.rows) (hrl : rl ≤ 9223372036854775807)
    (ba : Option Addr) (bl bc : Nat) (b : List Int) (hb : Ints w ba bl b) (hbl : bl ≤ 9223372036854775807) (nm : Int) (hnm : -128 ≤ nm ∧ nm ≤ 127) (dn : Nat) (hdn : dn < 256) :
    Calls Tryz.prog 3 #[.agg #[.slice ca cl cc, .slice ra rl rc], .slice ba bl bc, .int .i8 nm, .int .u8 dn] w fun e w' => e = .returned (.bool true) ∧ Below w.heap.size w w' := by
  have HC : Hid (Ints w ca cl p.costs) := hc
  have HR : Hid (RowsAt w ra rl p.rows) := hr
  have HBB : Hid (Ints w ba bl b) := hb
  have HCN : Hid (cl = p.costs.length) := hc.1
  have HRN : Hid (rl = p.rows.length) := hr.1
  have HBN : Hid (bl = b.length) := hb.1
  clear hc hr hb
  have hB0 : Bx w.heap.size [.slice ca cl cc, .slice ra rl rc] (w.alloc (.cells #[.slice ca cl cc, .slice ra rl rc] 25)) := Bx.new rfl _ _
  have hBel0 := balloc w (.cells #[.slice ca cl cc, .slice ra rl rc] 25)
  go_enter Tryz.func3, Tryz.ntmps3
  go_wp2_with fail
  refine (sweep_any ca cl cc ra rl rc p _ (Ints.below HC.out hBel0 (Nat.le_refl _)) hcl (RowsAt.below HR.out hBel0 (Nat.le_refl _)) hrl ba bl bc b (Ints.below HBB.out hBel0 (Nat.le_refl _)) hbl).mono ?_
  rintro e w1 ⟨hb1, hcase⟩
  obtain ⟨la, ll, lc, er, rfl, hml⟩ : ∃ la ll lc er, e = .returned (.tuple #[.slice la ll lc, .int .i64 er]) ∧ ((er ≠ 0 ∧ ll = 0) ∨ (er = 0 ∧ p.may = true ∧ (Num.withC p b).may = true ∧ (∃ a, Num.Good p a rl cl) ∧ PcsAt w1 la ll (Num.sweepN (Num.linesN p b rl cl (Num.allC rl (cl + rl)))))) := by
    rcases hcase with ⟨_, rfl⟩ | ⟨_, _, rfl⟩ | ⟨_, _, _, rfl⟩ | ⟨hm, hcm, hg, a, c, rfl, hpa⟩
    · exact ⟨_, _, _, _, rfl, Or.inl ⟨by decide, rfl⟩⟩
    · exact ⟨_, _, _, _, rfl, Or.inl ⟨by decide, rfl⟩⟩
    · exact ⟨_, _, _, _, rfl, Or.inl ⟨by decide, rfl⟩⟩
    · exact ⟨_, _, _, _, rfl, Or.inr ⟨rfl, hm, hcm, hg, hpa⟩⟩
  have HML : Hid ((er ≠ 0 ∧ ll = 0) ∨ (er = 0 ∧ p.may = true ∧ (Num.withC p b).may = true ∧ (∃ a, Num.Good p a rl cl) ∧ PcsAt w1 la ll (Num.sweepN (Num.linesN p b rl cl (Num.allC rl (cl + rl)))))) := hml
  have HP1 : Hid (Bx w.heap.size [.slice ca cl cc, .slice ra rl rc] w1) := hB0.step hb1
  have HB1 : Hid (Below w.heap.size w w1) := bstep hBel0 hb1
  clear hb1 hcase hml hB0 hBel0
  go_wp2_with fail
  generalize hW : ((((w1.alloc (.cells #[.int .i64 1] 2)).alloc (.cells #[.int .i64 1] 2)).alloc (.cells #[.slice (some ⟨w1.heap.size + 1, 0, none⟩) 1 1, .int .i64 3] 32)).alloc (.cells #[.slice (some ⟨w1.heap.size, 0, none⟩) 1 1, .slice (some ⟨w1.heap.size + 1 + 1, 0, none⟩) 1 1] 25)).alloc (.cells #[.int .i64 1] 2) = W
  have HPW : Hid (Bx w.heap.size [.slice ca cl cc, .slice ra rl rc] W) := by rw [← hW]; exact ((((HP1.out.step (balloc _ _)).step (balloc _ _)).step (balloc _ _)).step (balloc _ _)).step (balloc _ _)
  have HB1W : Hid (Below w1.heap.size w1 W) := by rw [← hW]; exact bstep (bstep (bstep (bstep (balloc _ _) (balloc _ _)) (balloc _ _)) (balloc _ _)) (balloc _ _)
  have k0 : Bx w1.heap.size [.int .i64 1] W := by rw [← hW]; exact ((((Bx.new rfl _ _).step (balloc _ _)).step (balloc _ _)).step (balloc _ _)).step (balloc _ _)
  have k1 : Bx (w1.heap.size + 1) [.int .i64 1] W := by rw [← hW]; exact (((Bx.new (by simp) _ _).step (balloc _ _)).step (balloc _ _)).step (balloc _ _)
  have k2 : Bx (w1.heap.size + 1 + 1) [.slice (some ⟨w1.heap.size + 1, 0, none⟩) 1 1, .int .i64 3] W := by rw [← hW]; exact ((Bx.new (by simp) _ _).step (balloc _ _)).step (balloc _ _)
  have k4 : Bx (w1.heap.size + 1 + 1 + 1 + 1) [.int .i64 1] W := by rw [← hW]; exact Bx.new (by simp) _ _
  clear hW
  have hrows : RowsAt W (some ⟨w1.heap.size + 1 + 1, 0, none⟩) 1 [([1], 3)] := by
    refine ⟨rfl, Or.inr ⟨w1.heap.size + 1 + 1, 0, rfl, k2.lt, fun j hj => ?_⟩⟩
    obtain rfl : j = 0 := by omega
    exact ⟨_, _, _, k2.c 0 _ rfl, k2.c 1 _ rfl, ints_oneH (k1.c 0 _ rfl) k1.lt, by omega⟩
  refine (known_any w1.heap.size (w1.heap.size + 1 + 1) W (k0.c 0 _ rfl) k0.lt hrows (w1.heap.size + 1 + 1 + 1 + 1) (k4.c 0 _ rfl) k4.lt).mono ?_
  rintro e w2 ⟨hb2, ka, kc, rfl⟩
  have hP2 := HPW.out.step hb2
  have HP2 : Hid (Bx w.heap.size [.slice ca cl cc, .slice ra rl rc] w2) := hP2
  have HB12 : Hid (Below w1.heap.size w1 w2) := bstep HB1W.out hb2
  have HB2 : Hid (Below w.heap.size w w2) := bstep HB1.out HB12.out
  obtain ⟨p0, p1, -⟩ := hP2.all2
  have z0 : w.heap.size < w2.heap.size := hP2.lt
  clear hP2 k0 k1 k2 k4 hrows hb2 HPW HB1W HP1
  rcases HML.out with ⟨her, hl0⟩ | ⟨her, hm, hcm, hgd, hpa⟩
  · subst hl0
    have her1 : (er == 0) = false := by simpa using her
    have her2 : (er != 0) = true := by simpa using her
    clear HML
    go_wp2_with fail
    go_ret
    exact ⟨rfl, HB2.out⟩
  · subst her
    have HM : Hid (p.may = true) := hm
    have HCM : Hid ((Num.withC p b).may = true) := hcm
    have HG : Hid (∃ a, Num.Good p a rl cl) := hgd
    have HLB : Hid (b.length = p.costs.length ∧ Num.withinB 400 b = true) := Num.withC_len p b hm hcm
    have CX : Hid (Num.Ctx p b rl cl) := ⟨HRN.out, HCN.out, HLB.out.1.trans HCN.out.symm, hm, hcm⟩
    have HPA : Hid (PcsAt w2 la ll (Num.sweepN (Num.linesN p b rl cl (Num.allC rl (cl + rl))))) := PcsAt.below hpa HB12.out
    have HEQ : Hid (bl = cl) := by show _ = _; rw [HBN.out, HLB.out.1, HCN.out]
    have hl1 : ((bl : Int) == (cl : Int)) = true := by have := HEQ.out; simp; omega
    have hl2 : ((bl : Int) != (cl : Int)) = false := by have := HEQ.out; simp; omega
    have h14 : 1 ≤ cl ∧ cl ≤ 4 := ⟨CX.out.n1, CX.out.n4⟩
    have hD : 1 ≤ (dn : Int) % 16 + 1 ∧ (dn : Int) % 16 + 1 ≤ 16 := by omega
    have hNn : -16 ≤ nm.tmod 17 ∧ nm.tmod 17 ≤ 16 := tmod17h nm
    have hll : ll ≤ 1000 := by have h1 := hpa.1; have h2 := Num.sweep_lenH p b rl cl CX.out; omega
    clear hm hcm hgd hpa HML HB12
    go_wp2_with fail
    clear hl1 hl2
    generalize (dn : Int) % 16 + 1 = D at *
    generalize nm.tmod 17 = Nn at *
    go_loop [16] (fun i => ∃ k : Nat, k ≤ cl ∧ i = .int .i64 k ∧ ∀ j, j < k → (-12 ≤ p.costs[j]?.getD 0 ∧ p.costs[j]?.getD 0 ≤ 12) ∧ (-12 ≤ b[j]?.getD 0 ∧ b[j]?.getD 0 ≤ 12)) (fun i => cl - (intOf i).toNat)
    case atStart => exact ⟨0, Nat.zero_le _, rfl, fun j hj => absurd hj (Nat.not_lt_zero _)⟩
    case round =>
      obtain ⟨k, hk, rfl, hcb⟩ := hrel
      have HCB : Hid (∀ j, j < k → (-12 ≤ p.costs[j]?.getD 0 ∧ p.costs[j]?.getD 0 ≤ 12) ∧ (-12 ≤ b[j]?.getD 0 ∧ b[j]?.getD 0 ≤ 12)) := hcb
      clear hcb
      by_cases hlt : k < cl
      · rcases (Ints.below HC.out HB2.out (Nat.le_refl _)).2 with h | ⟨cb, co, hca, hcs, hcc⟩
        · omega
        rcases (Ints.below HBB.out HB2.out (Nat.le_refl _)).2 with h | ⟨yb, yo, hya, hys, hyc⟩
        · have := HEQ.out; omega
        have hkb : k < bl := by have := HEQ.out; omega
        have ck := hcc k hlt
        have yk := hyc k hkb
        clear hcc hyc
        generalize hx : p.costs[k]?.getD 0 = x at ck
        have HX : Hid (p.costs[k]?.getD 0 = x) := hx
        generalize hxy : b[k]?.getD 0 = y at yk
        have HXY : Hid (b[k]?.getD 0 = y) := hxy
        clear hx hxy
        subst hca
        subst hya
        by_cases h1 : 12 < x
        · have e1 : decide (12 < x) = true := by simpa using h1
          go_wp2_with fail
          go_ret
          exact ⟨rfl, HB2.out⟩
        have e1 : decide (12 < x) = false := by simpa using h1
        by_cases h2 : x < -12
        · have e2 : decide (x < -12) = true := by simpa using h2
          go_wp2_with fail
          go_ret
          exact ⟨rfl, HB2.out⟩
        have e2 : decide (x < -12) = false := by simpa using h2
        by_cases h3 : 12 < y
        · have e3 : decide (12 < y) = true := by simpa using h3
          go_wp2_with fail
          go_ret
          exact ⟨rfl, HB2.out⟩
        have e3 : decide (12 < y) = false := by simpa using h3
        by_cases h4 : y < -12
        · have e4 : decide (y < -12) = true := by simpa using h4
          go_wp2_with fail
          go_ret
          exact ⟨rfl, HB2.out⟩
        have e4 : decide (y < -12) = false := by simpa using h4
        go_wp2_with fail
        go_round
        case rel =>
          refine ⟨k + 1, hlt, by go_num, fun j hj => ?_⟩
          by_cases hjk : j = k
          · subst hjk; rw [HX.out, HXY.out]; omega
          · exact HCB.out j (by omega)
        case measure => simp [intOf]; omega
      · have HCA : Hid (∀ j : Nat, -12 ≤ p.costs[j]?.getD 0 ∧ p.costs[j]?.getD 0 ≤ 12) := by
          intro j
          by_cases hj : j < k
          · exact (HCB.out j hj).1
          · rw [List.getElem?_eq_none (by have := HCN.out; omega)]; simp
        have HYA : Hid (∀ j : Nat, -12 ≤ b[j]?.getD 0 ∧ b[j]?.getD 0 ≤ 12) := by
          intro j
          by_cases hj : j < k
          · exact (HCB.out j hj).2
          · rw [List.getElem?_eq_none (by have := HBN.out; have := HEQ.out; omega)]; simp
        clear HCB
        have HM3 : Hid ((Num.withC p (Num.atL p.costs b Nn D)).may = true) := Num.atL_mayH p b HM.out HLB.out.1 Nn D hNn hD HCA.out HYA.out
        obtain ⟨kk, ee, hmk, hke, he1, hmay⟩ := Num.mk_rep Nn D Nn D (by omega) (by omega) (by omega) (by omega) (by omega) (by omega) rfl
        have hkb := Num.may_bd hmay
        have HMK : Hid (Num.mk Nn D = (kk, ee, 0)) := hmk
        have HKE : Hid (Nn * ee = kk * D) := hke.symm
        clear hmk hke hmay
        go_wp2_with fail
        refine (at_any ca cl cc ra rl rc p.costs b _ (Ints.below HC.out HB2.out (Nat.le_refl _)) ba bl bc (Ints.below HBB.out HB2.out (Nat.le_refl _)) h14.1 h14.2 HEQ.out HCA.out HYA.out Nn D hNn hD).mono ?_
        rintro e w4 ⟨g4, q4, rfl, hi4, hb4⟩
        have HI4 : Hid (Ints w4 (some ⟨g4, 0, none⟩) cl (Num.atL p.costs b Nn D)) := hi4
        have HB4 : Hid (Below w.heap.size w w4) := bstep HB2.out hb4
        have HPA4 : Hid (PcsAt w4 la ll (Num.sweepN (Num.linesN p b rl cl (Num.allC rl (cl + rl))))) := PcsAt.below HPA.out hb4
        clear hi4 hb4 p0 p1 z0 HPA
        go_wp2_with fail
        refine (solve_any (some ⟨g4, 0, none⟩) cl q4 ra rl rc (Num.withC p (Num.atL p.costs b Nn D)) w4 HI4.out hcl (RowsAt.below HR.out HB4.out (Nat.le_refl _)) hrl).mono ?_
        rintro e w5 ⟨hb5, ⟨hm5, _⟩ | ⟨_, a, xa, xl, xc, ya, yl, yc, za, zl, zc, rfl, _, hh⟩⟩
        · rw [HM3.out] at hm5; cases hm5
        have hline : Num.atL p.costs b Nn D = Num.lineC p.costs b D Nn cl := by unfold Num.atL Num.lineC; rw [HCN.out]
        rw [hline] at hh
        obtain ⟨h1, h2, h3⟩ := Num.sweep_holds CX.out D Nn (by omega) (by omega) a hh
        have hak : a.kind = 1 ∨ a.kind = 2 := by obtain ⟨g0, hg0⟩ := HG.out; exact h3 g0 hg0
        have HOKL : Hid (∀ y ∈ Num.sweepN (Num.linesN p b rl cl (Num.allC rl (cl + rl))), Num.PcOk y) := fun y hy => by
          have hcan := Num.canon_lines CX.out (Num.allC rl (cl + rl))
          have hy' := Num.sweep_mem _ y hy
          have hn := hcan.nums CX.out y hy'
          exact pc_ok y (hcan.okf CX.out y hy') (hcan.okt CX.out y hy') hn.1 hn.2.1
        have HB5 : Hid (Below w.heap.size w w5) := bstep HB4.out hb5
        have HPA5 : Hid (PcsAt w5 la ll (Num.sweepN (Num.linesN p b rl cl (Num.allC rl (cl + rl))))) := PcsAt.below HPA4.out hb5
        generalize Num.sweepN (Num.linesN p b rl cl (Num.allC rl (cl + rl))) = L at *
        obtain ⟨ak, ax, xd9, ay, yd9, ar, rd9, wn, wd⟩ := a
        simp only at h1 h2 hak
        have HAK : Hid (ak = 1 ∨ ak = 2) := hak
        have H1 : Hid ((∃ y ∈ L, Num.loE y.f D Nn ∧ Num.hiE y.t D Nn) ↔ ak = 1) := h1
        have H2 : Hid (∀ y ∈ L, Num.loE y.f D Nn → Num.hiE y.t D Nn → wn * (y.bd * y.sd) = (D * (y.bn * y.sd) + Nn * (y.sn * y.bd)) * wd) := h2
        clear h1 h2 h3 hak hline hh hb5 HPA4 HI4
        unfold ansV
        simp only
        have HA5 : Hid (Bx w5.heap.size [.int .i64 ak, .slice xa xl xc, .int .i64 xd9, .slice ya yl yc, .int .i64 yd9, .slice za zl zc, .int .i64 rd9, .int .i64 wn, .int .i64 wd] (w5.alloc (.cells #[.int .i64 ak, .slice xa xl xc, .int .i64 xd9, .slice ya yl yc, .int .i64 yd9, .slice za zl zc, .int .i64 rd9, .int .i64 wn, .int .i64 wd] 38))) := Bx.new rfl _ _
        have HB5a : Hid (Below w.heap.size w (w5.alloc (.cells #[.int .i64 ak, .slice xa xl xc, .int .i64 xd9, .slice ya yl yc, .int .i64 yd9, .slice za zl zc, .int .i64 rd9, .int .i64 wn, .int .i64 wd] 38))) := bstep HB5.out (balloc _ _)
        have HPA5a : Hid (PcsAt (w5.alloc (.cells #[.int .i64 ak, .slice xa xl xc, .int .i64 xd9, .slice ya yl yc, .int .i64 yd9, .slice za zl zc, .int .i64 rd9, .int .i64 wn, .int .i64 wd] 38)) la ll L) := PcsAt.below HPA5.out (balloc _ _)
        go_wp2_with fail
        generalize w5.alloc (.cells #[.int .i64 ak, .slice xa xl xc, .int .i64 xd9, .slice ya yl yc, .int .i64 yd9, .slice za zl zc, .int .i64 rd9, .int .i64 wn, .int .i64 wd] 38) = V5 at *
        generalize w5.heap.size = b17 at *
        refine (of_any Nn D _ kk ee 0 HMK.out).mono ?_
        rintro e w6 ⟨rfl, hb6⟩
        have HA7 : Hid (Bx b17 [.int .i64 ak, .slice xa xl xc, .int .i64 xd9, .slice ya yl yc, .int .i64 yd9, .slice za zl zc, .int .i64 rd9, .int .i64 wn, .int .i64 wd] (w6.alloc (.cells #[.int .i64 kk, .int .i64 ee] 36))) := (HA5.out.step hb6).step (balloc _ _)
        have HT7 : Hid (Bx w6.heap.size [.int .i64 kk, .int .i64 ee] (w6.alloc (.cells #[.int .i64 kk, .int .i64 ee] 36))) := Bx.new rfl _ _
        have HBW7 : Hid (Below w.heap.size w (w6.alloc (.cells #[.int .i64 kk, .int .i64 ee] 36))) := bstep (bstep HB5a.out hb6) (balloc _ _)
        have HPA7 : Hid (PcsAt (w6.alloc (.cells #[.int .i64 kk, .int .i64 ee] 36)) la ll L) := PcsAt.below (PcsAt.below HPA5a.out hb6) (balloc _ _)
        clear hb6 HA5 HPA5 HPA5a HB5 HB5a
        go_wp2_with fail
        generalize w6.alloc (.cells #[.int .i64 kk, .int .i64 ee] 36) = W7 at *
        generalize w6.heap.size = b19 at *
        go_loopw [20, 21] (fun v i wr => ∃ q : Nat, q ≤ ll ∧ i = .int .i64 q ∧ v = .bool ((L.take q).any fun y => Num.inP y kk ee) ∧ Below W7.heap.size W7 wr) (fun _ i _ => ll - (intOf i).toNat)
        case atStart => exact ⟨0, Nat.zero_le _, rfl, rfl, Below.refl _ _⟩
        case round =>
          obtain ⟨q, hq, rfl, rfl, hbl7⟩ := hrel
          by_cases hlq : q < ll
          · rcases HPA7.out.2 with h | ⟨g, hla, hg7, hh7⟩
            · omega
            subst hla
            obtain ⟨y, hy⟩ : ∃ y, L[q]? = some y := ⟨_, List.getElem?_eq_getElem (by have := HPA7.out.1; omega)⟩
            have HYM : Hid (y ∈ L) := List.mem_of_getElem? hy
            have HYO : Hid (Num.PcOk y) := HOKL.out y HYM.out
            have HANS : Hid ((L.take (q + 1)).any (fun y => Num.inP y kk ee) = ((L.take q).any (fun y => Num.inP y kk ee) || Num.inP y kk ee)) := by
              show _ = _
              rw [List.take_add_one, hy, List.any_append]
              simp
            have HLN : Hid (Num.loE y.f D Nn → Num.hiE y.t D Nn → wn * (y.bd * y.sd) = (D * (y.bn * y.sd) + Nn * (y.sn * y.bd)) * wd) := fun e1 e2 => H2.out y HYM.out e1 e2
            have HIP : Hid (Num.inP y kk ee = true ↔ Num.loE y.f D Nn ∧ Num.hiE y.t D Nn) := Num.inP_iff y Nn D kk ee (by omega) (by omega) HKE.out
            have hten := (HoldsPc.below hh7 hbl7 hg7)
            obtain ⟨fo, fn, fd, tt, tn, td, bn, bd, sn, sd, rfl⟩ := Num.pieces_areH y
            have hten := hten.ten hy
            obtain ⟨c0, c1, c2, c3, c4, c5, c6, c7, c8, c9⟩ := hten
            have d0 := carry hbl7 (HT7.out.c 0 _ rfl)
            have d1 := carry hbl7 (HT7.out.c 1 _ rfl)
            have KI : Hid (∀ w', Below wr.heap.size wr w' → Calls Tryz.prog 8 #[.agg #[.bool fo, .int .i64 fn, .int .i64 fd, .bool tt, .int .i64 tn, .int .i64 td, .int .i64 bn, .int .i64 bd, .int .i64 sn, .int .i64 sd], .agg #[.int .i64 kk, .int .i64 ee]] w' fun e w'' => e = .returned (.bool (Num.inP ⟨⟨fo, fn, fd⟩, ⟨tt, tn, td⟩, bn, bd, sn, sd⟩ kk ee)) ∧ Below wr.heap.size wr w'' ∧ Below w'.heap.size w' w'') := fun w' h => (in_gen fo tt fn fd tn td kk ee bn bd sn sd w' HYO.out.1 HYO.out.2.1 HYO.out.2.2.1 HYO.out.2.2.2.1 hkb.1 ⟨by omega, hkb.2.2⟩).mono fun _ _ k => ⟨k.1, bstep h k.2, k.2⟩
            have r0 : ∀ w', Below wr.heap.size wr w' → w'.cell? ⟨g, q * 10, none⟩ = some (.bool fo) := fun w' h => carry h c0
            have r1 : ∀ w', Below wr.heap.size wr w' → w'.cell? ⟨g, q * 10 + 1, none⟩ = some (.int .i64 fn) := fun w' h => carry h c1
            have r2 : ∀ w', Below wr.heap.size wr w' → w'.cell? ⟨g, q * 10 + 2, none⟩ = some (.int .i64 fd) := fun w' h => carry h c2
            have r3 : ∀ w', Below wr.heap.size wr w' → w'.cell? ⟨g, q * 10 + 3, none⟩ = some (.bool tt) := fun w' h => carry h c3
            have r4 : ∀ w', Below wr.heap.size wr w' → w'.cell? ⟨g, q * 10 + 4, none⟩ = some (.int .i64 tn) := fun w' h => carry h c4
            have r5 : ∀ w', Below wr.heap.size wr w' → w'.cell? ⟨g, q * 10 + 5, none⟩ = some (.int .i64 td) := fun w' h => carry h c5
            have r6 : ∀ w', Below wr.heap.size wr w' → w'.cell? ⟨g, q * 10 + 6, none⟩ = some (.int .i64 bn) := fun w' h => carry h c6
            have r7 : ∀ w', Below wr.heap.size wr w' → w'.cell? ⟨g, q * 10 + 7, none⟩ = some (.int .i64 bd) := fun w' h => carry h c7
            have r8 : ∀ w', Below wr.heap.size wr w' → w'.cell? ⟨g, q * 10 + 8, none⟩ = some (.int .i64 sn) := fun w' h => carry h c8
            have r9 : ∀ w', Below wr.heap.size wr w' → w'.cell? ⟨g, q * 10 + 9, none⟩ = some (.int .i64 sd) := fun w' h => carry h c9
            have s0 : ∀ w', Below wr.heap.size wr w' → w'.cell? ⟨b19, 0, none⟩ = some (.int .i64 kk) := fun w' h => carry h d0
            have s1 : ∀ w', Below wr.heap.size wr w' → w'.cell? ⟨b19, 1, none⟩ = some (.int .i64 ee) := fun w' h => carry h d1
            have gq : g < wr.heap.size := Nat.lt_of_lt_of_le hg7 hbl7.size
            have HC6 : Hid (wr.cell? ⟨g, q * 10 + 6, none⟩ = some (.int .i64 bn) ∧ wr.cell? ⟨g, q * 10 + 7, none⟩ = some (.int .i64 bd) ∧ wr.cell? ⟨g, q * 10 + 8, none⟩ = some (.int .i64 sn) ∧ wr.cell? ⟨g, q * 10 + 9, none⟩ = some (.int .i64 sd)) := ⟨c6, c7, c8, c9⟩
            have HAX : Hid (Bx b17 [.int .i64 ak, .slice xa xl xc, .int .i64 xd9, .slice ya yl yc, .int .i64 yd9, .slice za zl zc, .int .i64 rd9, .int .i64 wn, .int .i64 wd] wr) := HA7.out.step hbl7
            have hqI : (q : Int) < (ll : Int) := by omega
            clear hy hh7 c0 c1 c2 c3 c4 c5 c6 c7 c8 c9 d0 d1
            generalize hbi : Num.inP ⟨⟨fo, fn, fd⟩, ⟨tt, tn, td⟩, bn, bd, sn, sd⟩ kk ee = bi at *
            have HBI : Hid (Num.inP ⟨⟨fo, fn, fd⟩, ⟨tt, tn, td⟩, bn, bd, sn, sd⟩ kk ee = bi) := hbi
            clear hbi
            generalize hav : (L.take q).any (fun y => Num.inP y kk ee) = av at *
            cases bi
            · have HANY : Hid ((L.take (q + 1)).any (fun y => Num.inP y kk ee) = av) := by show _ = _; rw [HANS.out, Bool.or_false]
              go_wp2_with fail
              go_region_held3 (fun w' => Below wr.heap.size wr w') (first | (with_reducible assumption) | (with_reducible exact (Below.refl _ _).drew))
                (first | (go_at_call 8; refine Calls.mono (KI.out _ ?_) ?_; (with_reducible assumption); rintro e v3 ⟨rfl, hb3, hk3⟩))
              rename_i hfin
              have hv3 : Below wr.heap.size wr v3 := hb3
              clear r0 r1 r2 r3 r4 r5 r6 r7 r8 r9 s0 s1 KI hfin hb3 hk3
              have HBE : Hid (Below W7.heap.size W7 v3) := bstep hbl7 hv3
              clear hv3
              go_wp2_with fail
              go_roundw
              case rel => exact ⟨q + 1, hlq, by go_num, by rw [HANY.out], HBE.out⟩
              case measure => simp [intOf]; omega
            · have HANY : Hid ((L.take (q + 1)).any (fun y => Num.inP y kk ee) = true) := by show _ = _; rw [HANS.out, Bool.or_true]
              have hLR : wrap64 (wrap64 (wrap64 (wrap64 (D * bn) * sd) + wrap64 (wrap64 (Nn * sn) * bd)) * wd) = wrap64 (wrap64 (wn * bd) * sd) := Num.wr_line D Nn wn wd bn bd sn sd (HLN.out (HIP.out.1 rfl).1 (HIP.out.1 rfl).2)
              have HLR : Hid (wrap64 (wrap64 (wrap64 (wrap64 (D * bn) * sd) + wrap64 (wrap64 (Nn * sn) * bd)) * wd) = wrap64 (wrap64 (wn * bd) * sd)) := hLR
              clear hLR
              rcases HAK.out with rfl | rfl
              · by_cases hb2 : bd ≤ 20000
                · have hb2' : decide (bd ≤ 20000) = true := by simpa using hb2
                  by_cases hs2 : sd ≤ 20000
                  · have hs2' : decide (sd ≤ 20000) = true := by simpa using hs2
                    go_wp2_with fail
                    go_region_held3 (fun w' => Below wr.heap.size wr w') (first | (with_reducible assumption) | (with_reducible exact (Below.refl _ _).drew))
                      (first | (go_at_call 8; refine Calls.mono (KI.out _ ?_) ?_; (with_reducible assumption); rintro e v3 ⟨rfl, hb3, hk3⟩))
                    rename_i hfin
                    have hv3 : Below wr.heap.size wr v3 := hb3
                    clear r0 r1 r2 r3 r4 r5 r6 r7 r8 r9 s0 s1 KI hfin hb3 hk3
                    have hax := HAX.out.step hv3
                    have x0 := hax.c 0 _ rfl
                    have x7 := hax.c 7 _ rfl
                    have x8 := hax.c 8 _ rfl
                    have hlx := hax.lt
                    have hc6 := HC6.out
                    obtain ⟨c6, c7, c8, c9⟩ := hc6
                    replace c6 := carry hv3 c6
                    replace c7 := carry hv3 c7
                    replace c8 := carry hv3 c8
                    replace c9 := carry hv3 c9
                    have gv : g < v3.heap.size := Nat.lt_of_lt_of_le gq hv3.size
                    have HBE : Hid (Below W7.heap.size W7 ((v3.alloc (.cells #[.int .i64 bn, .int .i64 bd] 36)).alloc (.cells #[.int .i64 sn, .int .i64 sd] 36))) := bstep (bstep (bstep hbl7 hv3) (balloc _ _)) (balloc _ _)
                    have hLR := HLR.out
                    clear hax hv3

                    go_wp2_with fail
                    go_roundw
                    case rel => exact ⟨q + 1, hlq, by go_num, by rw [HANY.out], HBE.out⟩
                    case measure => simp [intOf]; omega
                  · have hs2' : decide (sd ≤ 20000) = false := by simpa using hs2
                    go_wp2_with fail
                    go_region_held3 (fun w' => Below wr.heap.size wr w') (first | (with_reducible assumption) | (with_reducible exact (Below.refl _ _).drew))
                      (first | (go_at_call 8; refine Calls.mono (KI.out _ ?_) ?_; (with_reducible assumption); rintro e v3 ⟨rfl, hb3, hk3⟩))
                    rename_i hfin
                    have hv3 : Below wr.heap.size wr v3 := hb3
                    clear r0 r1 r2 r3 r4 r5 r6 r7 r8 r9 s0 s1 KI hfin hb3 hk3
                    have hax := HAX.out.step hv3
                    have x0 := hax.c 0 _ rfl
                    have x7 := hax.c 7 _ rfl
                    have x8 := hax.c 8 _ rfl
                    have hlx := hax.lt
                    have hc6 := HC6.out
                    obtain ⟨c6, c7, c8, c9⟩ := hc6
                    replace c6 := carry hv3 c6
                    replace c7 := carry hv3 c7
                    replace c8 := carry hv3 c8
                    replace c9 := carry hv3 c9
                    have gv : g < v3.heap.size := Nat.lt_of_lt_of_le gq hv3.size
                    have HBE : Hid (Below W7.heap.size W7 ((v3.alloc (.cells #[.int .i64 bn, .int .i64 bd] 36)).alloc (.cells #[.int .i64 sn, .int .i64 sd] 36))) := bstep (bstep (bstep hbl7 hv3) (balloc _ _)) (balloc _ _)
                    have hLR := HLR.out
                    clear hax hv3

                    go_wp2_with fail
                    go_roundw
                    case rel => exact ⟨q + 1, hlq, by go_num, by rw [HANY.out], HBE.out⟩
                    case measure => simp [intOf]; omega
                · have hb2' : decide (bd ≤ 20000) = false := by simpa using hb2
                  go_wp2_with fail
                  go_region_held3 (fun w' => Below wr.heap.size wr w') (first | (with_reducible assumption) | (with_reducible exact (Below.refl _ _).drew))
                    (first | (go_at_call 8; refine Calls.mono (KI.out _ ?_) ?_; (with_reducible assumption); rintro e v3 ⟨rfl, hb3, hk3⟩))
                  rename_i hfin
                  have hv3 : Below wr.heap.size wr v3 := hb3
                  clear r0 r1 r2 r3 r4 r5 r6 r7 r8 r9 s0 s1 KI hfin hb3 hk3
                  have hax := HAX.out.step hv3
                  have x0 := hax.c 0 _ rfl
                  have x7 := hax.c 7 _ rfl
                  have x8 := hax.c 8 _ rfl
                  have hlx := hax.lt
                  have hc6 := HC6.out
                  obtain ⟨c6, c7, c8, c9⟩ := hc6
                  replace c6 := carry hv3 c6
                  replace c7 := carry hv3 c7
                  replace c8 := carry hv3 c8
                  replace c9 := carry hv3 c9
                  have gv : g < v3.heap.size := Nat.lt_of_lt_of_le gq hv3.size
                  have HBE : Hid (Below W7.heap.size W7 ((v3.alloc (.cells #[.int .i64 bn, .int .i64 bd] 36)).alloc (.cells #[.int .i64 sn, .int .i64 sd] 36))) := bstep (bstep (bstep hbl7 hv3) (balloc _ _)) (balloc _ _)
                  have hLR := HLR.out
                  clear hax hv3

                  go_wp2_with fail
                  go_roundw
                  case rel => exact ⟨q + 1, hlq, by go_num, by rw [HANY.out], HBE.out⟩
                  case measure => simp [intOf]; omega
              · skip
                go_wp2_with fail
                go_region_held3 (fun w' => Below wr.heap.size wr w') (first | (with_reducible assumption) | (with_reducible exact (Below.refl _ _).drew))
                  (first | (go_at_call 8; refine Calls.mono (KI.out _ ?_) ?_; (with_reducible assumption); rintro e v3 ⟨rfl, hb3, hk3⟩))
                rename_i hfin
                have hv3 : Below wr.heap.size wr v3 := hb3
                clear r0 r1 r2 r3 r4 r5 r6 r7 r8 r9 s0 s1 KI hfin hb3 hk3
                have hax := HAX.out.step hv3
                have x0 := hax.c 0 _ rfl
                have x7 := hax.c 7 _ rfl
                have x8 := hax.c 8 _ rfl
                have hlx := hax.lt
                have hc6 := HC6.out
                obtain ⟨c6, c7, c8, c9⟩ := hc6
                replace c6 := carry hv3 c6
                replace c7 := carry hv3 c7
                replace c8 := carry hv3 c8
                replace c9 := carry hv3 c9
                have gv : g < v3.heap.size := Nat.lt_of_lt_of_le gq hv3.size
                have HBE : Hid (Below W7.heap.size W7 ((v3.alloc (.cells #[.int .i64 bn, .int .i64 bd] 36)).alloc (.cells #[.int .i64 sn, .int .i64 sd] 36))) := bstep (bstep (bstep hbl7 hv3) (balloc _ _)) (balloc _ _)
                have hLR := HLR.out
                clear hax hv3

                go_wp2_with fail
                go_roundw
                case rel => exact ⟨q + 1, hlq, by go_num, by rw [HANY.out], HBE.out⟩
                case measure => simp [intOf]; omega
          · have hqe : q = ll := by omega
            subst hqe
            have htk : L.take q = L := List.take_of_length_le (by have := HPA7.out.1; omega)
            have HEND : Hid ((L.any fun y => Num.inP y kk ee) = decide (ak = 1)) := by
              show _ = _
              rw [Bool.eq_iff_iff, List.any_eq_true, decide_eq_true_eq, ← H1.out]
              constructor
              · rintro ⟨y, hy, hi⟩
                exact ⟨y, hy, (Num.inP_iff y Nn D kk ee (by omega) (by omega) HKE.out).1 hi⟩
              · rintro ⟨y, hy, hi⟩
                exact ⟨y, hy, (Num.inP_iff y Nn D kk ee (by omega) (by omega) HKE.out).2 hi⟩
            rw [htk, HEND.out]
            have x0 := (HA7.out.step hbl7).c 0 _ rfl
            have hlx := (HA7.out.step hbl7).lt
            have HBE : Hid (Below w.heap.size w wr) := bstep HBW7.out hbl7
            clear hbl7 htk HEND
            rcases HAK.out with rfl | rfl
            · go_wp2_with fail
              go_ret
              exact ⟨rfl, HBE.out⟩
            · go_wp2_with fail
              go_ret
              exact ⟨rfl, HBE.out⟩

end Go.Proofs.YtipcbhodlgoflabGreat
