/- What the document's own May of programs does. -/
import Derived.Test.YtipcbhodlgoflaaGreatLayH
namespace Go.Proofs.YtipcbhodlgoflaaGreat
open Go.RowKit

set_option maxHeartbeats 1600000 in
theorem r2may_any (ca : Option Addr) (cl cc : Nat) (ra : Option Addr) (rl rc : Nat) (p : Num.Lp) (w : World) (hc : Ints w ca cl p.costs) (hcl : cl ≤ 9223372036854775807) (hr : RowsAt w ra rl p.rows) (hrl : rl ≤ 9223372036854775807) :
    Calls Tryz.prog 5 #[.agg #[.slice ca cl cc, .slice ra rl rc]] w fun e w' => e = .returned (.bool p.may) ∧ Below w.heap.size w w' := by
  have HC : Hid (Ints w ca cl p.costs) := hc
  have HL : Hid (cl = p.costs.length) := hc.1
  have HR : Hid (rl = p.rows.length) := hr.1
  have HRW : Hid (RowsAt w ra rl p.rows) := hr
  clear hc hr
  by_cases h1 : (cl : Int) < 1
  · have HF : Hid (p.may = false) := p.may_c1 cl HL.out h1
    go_enter Tryz.func5, Tryz.ntmps5
    go_wp2_with fail
    go_ret
    exact ⟨ret_bool HF.out.symm, balloc _ _⟩
  have h1' : decide ((cl : Int) < 1) = false := by simpa using h1
  by_cases h2 : 4 < (cl : Int)
  · have HF : Hid (p.may = false) := p.may_c4 cl HL.out h2
    go_enter Tryz.func5, Tryz.ntmps5
    go_wp2_with fail
    go_ret
    exact ⟨ret_bool HF.out.symm, balloc _ _⟩
  have h2' : decide (4 < (cl : Int)) = false := by simpa using h2
  by_cases h4 : (rl : Int) < 1
  · have HF : Hid (p.may = false) := p.may_r1 rl HR.out h4
    go_enter Tryz.func5, Tryz.ntmps5
    go_wp2_with fail
    go_ret
    exact ⟨ret_bool HF.out.symm, balloc _ _⟩
  have h4' : decide ((rl : Int) < 1) = false := by simpa using h4
  by_cases h5 : 4 < (rl : Int)
  · have HF : Hid (p.may = false) := p.may_r4 rl HR.out h5
    go_enter Tryz.func5, Tryz.ntmps5
    go_wp2_with fail
    go_ret
    exact ⟨ret_bool HF.out.symm, balloc _ _⟩
  have h5' : decide (4 < (rl : Int)) = false := by simpa using h5
  go_enter Tryz.func5, Tryz.ntmps5
  go_wp2_with fail
  go_loop [4] (fun i => ∃ k : Nat, k ≤ cl ∧ i = .int .i64 k ∧ Num.withinB 400 (p.costs.take k) = true) (fun i => cl - (intOf i).toNat)
  case atStart => exact ⟨0, Nat.zero_le _, rfl, rfl⟩
  case round =>
    obtain ⟨k, hk, rfl, hw⟩ := hrel
    have HW : Hid _ := hw
    clear hw
    by_cases hlt : k < cl
    · rcases (Ints.below HC.out (balloc w (.cells #[.slice ca cl cc, .slice ra rl rc] 25)) (Nat.le_refl _)).2 with hi | ⟨b, off, ha, hb, hc⟩
      · omega
      have hck := hc k hlt
      clear hc
      have hs := Num.withinB_take_succ 400 p.costs k (by have := HL.out; omega)
      have hf := Num.withinB_false_of 400 p.costs k (by have := HL.out; omega)
      generalize p.costs[k]?.getD 0 = x at hck hs hf
      have HS : Hid _ := hs
      have HF : Hid _ := hf
      clear hs hf
      subst ha
      by_cases hx1 : x < -400
      · go_wp2_with fail
        go_ret
        exact ⟨ret_bool (p.may_w (HF.out (Or.inl hx1))).symm, balloc _ _⟩
      have hx1' : decide (x < -400) = false := by simpa using hx1
      by_cases hx2 : 400 < x
      · go_wp2_with fail
        go_ret
        exact ⟨ret_bool (p.may_w (HF.out (Or.inr hx2))).symm, balloc _ _⟩
      have hx2' : decide (400 < x) = false := by simpa using hx2
      go_wp2_with fail
      go_round
      case rel => exact ⟨k + 1, by omega, by go_num, by rw [HS.out, HW.out]; simp; omega⟩
      case measure => simp [intOf]; omega
    · have h3 : Num.withinB 400 p.costs = true := by
        have hke : k = p.costs.length := by have := HL.out; omega
        have := HW.out
        rw [hke, List.take_length] at this
        exact this
      have HF : Hid (p.may = p.rows.all (Num.rowB cl)) := p.may_rows cl rl HL.out HR.out (by omega) (by omega) h3 (by omega) (by omega)
      clear h3 HW
      go_wp2_with fail
      go_loopw [5] (fun i wr => ∃ k : Nat, k ≤ rl ∧ i = .int .i64 k ∧ (p.rows.take k).all (Num.rowB cl) = true ∧ Below (w.alloc (.cells #[.slice ca cl cc, .slice ra rl rc] 25)).heap.size (w.alloc (.cells #[.slice ca cl cc, .slice ra rl rc] 25)) wr) (fun i _ => rl - (intOf i).toNat)
      case atStart => exact ⟨0, Nat.zero_le _, rfl, rfl, Below.refl _ _⟩
      case round =>
        obtain ⟨k, hk, rfl, hw, hbl⟩ := hrel
        have HW : Hid _ := hw
        clear hw
        have HB : Hid (Below w.heap.size w wr) := binto hbl
        have e0 : wr.cell? ⟨w.heap.size, 1, none⟩ = some (.slice ra rl rc) := by rw [hbl.cell (by simp)]; go_simp
        by_cases hlt : k < rl
        · rcases (RowsAt.below HRW.out HB.out (Nat.le_refl _)).2 with h | ⟨b, off, ha, hbs, hc⟩
          · omega
          obtain ⟨xa, xl, xc, c0, c1, hx, hxl⟩ := hc k hlt
          clear hc
          have hsz : w.heap.size < wr.heap.size := by have := hbl.size; simp at this; omega
          have HS : Hid ((p.rows.take (k + 1)).all (Num.rowB cl) = ((p.rows.take k).all (Num.rowB cl) && Num.rowB cl (p.rows[k]?.getD ([], 0)))) := Num.all_take_succ (Num.rowB cl) p.rows k (by have := HR.out; omega) ([], 0)
          have HN : Hid (Num.rowB cl (p.rows[k]?.getD ([], 0)) = false → p.may = false) := fun h => by rw [HF.out]; exact Num.all_false_of (Num.rowB cl) p.rows k (by have := HR.out; omega) ([], 0) h
          generalize (p.rows[k]?.getD ([], 0)) = r at *
          obtain ⟨r1, r2⟩ := r
          dsimp only at *
          have HX : Hid (Ints wr xa xl r1) := hx
          have HXL : Hid (xl = r1.length) := hx.1
          clear hx
          subst ha
          by_cases t1 : xl = cl
          · subst t1
            by_cases t2 : r2 < -12
            · go_wp2_with fail
              go_ret
              exact ⟨ret_bool (HN.out (Num.rowB_m _ _ _ (by rw [Num.withinB_one]; simp; omega))).symm, (binto hbl).alloc (by omega) _⟩
            have t2' : decide (r2 < -12) = false := by simpa using t2
            by_cases t3 : 12 < r2
            · go_wp2_with fail
              go_ret
              exact ⟨ret_bool (HN.out (Num.rowB_m _ _ _ (by rw [Num.withinB_one]; simp; omega))).symm, (binto hbl).alloc (by omega) _⟩
            have t3' : decide (12 < r2) = false := by simpa using t3
            go_wp2_with fail
            go_loop [7] (fun i => ∃ j : Nat, j ≤ xl ∧ i = .int .i64 j ∧ Num.withinB 12 (r1.take j) = true) (fun i => xl - (intOf i).toNat)
            case atStart => exact ⟨0, Nat.zero_le _, rfl, rfl⟩
            case round =>
              obtain ⟨j, hj, rfl, hw⟩ := hrel
              have HWJ : Hid _ := hw
              clear hw
              by_cases hjt : j < xl
              · rcases (Ints.below HX.out (balloc wr (.cells #[.slice xa xl xc, .int .i64 r2] 49)) (Nat.le_refl _)).2 with hi | ⟨b', off', ha, hb, hc⟩
                · omega
                have hck := hc j hjt
                clear hc
                have hs := Num.withinB_take_succ 12 r1 j (by have := HXL.out; omega)
                have hf := Num.withinB_false_of 12 r1 j (by have := HXL.out; omega)
                generalize r1[j]?.getD 0 = x at hck hs hf
                have HSJ : Hid _ := hs
                have HFJ : Hid _ := hf
                clear hs hf
                subst ha
                by_cases hx1 : x < -12
                · go_wp2_with fail
                  go_ret
                  exact ⟨ret_bool (HN.out (Num.rowB_w _ _ _ (HFJ.out (Or.inl hx1)))).symm, (binto hbl).alloc (by omega) _⟩
                have hx1' : decide (x < -12) = false := by simpa using hx1
                by_cases hx2 : 12 < x
                · go_wp2_with fail
                  go_ret
                  exact ⟨ret_bool (HN.out (Num.rowB_w _ _ _ (HFJ.out (Or.inr hx2)))).symm, (binto hbl).alloc (by omega) _⟩
                have hx2' : decide (12 < x) = false := by simpa using hx2
                go_wp2_with fail
                go_round
                case rel => exact ⟨j + 1, by omega, by go_num, by rw [HSJ.out, HWJ.out]; simp; omega⟩
                case measure => simp [intOf]; omega
              · have hje : Num.withinB 12 r1 = true := by
                  have hke : j = r1.length := by have := HXL.out; omega
                  have := HWJ.out
                  rw [hke, List.take_length] at this
                  exact this
                have HJE : Hid _ := hje
                clear hje
                go_wp2_with fail
                go_roundw
                case rel => exact ⟨k + 1, by omega, by go_num, by rw [HS.out, HW.out, Num.rowB_ok _ _ _ _ HXL.out rfl HJE.out (by rw [Num.withinB_one]; simp; omega)]; rfl, hbl.alloc hbl.size _⟩
                case measure => simp [intOf]; omega
          · have t1' : ((xl : Int) == (cl : Int)) = false := by simp; omega
            go_wp2_with fail
            go_ret
            exact ⟨ret_bool (HN.out (Num.rowB_len _ _ _ _ HXL.out t1)).symm, (binto hbl).alloc (by omega) _⟩
        · go_wp2_with fail
          go_ret
          have hke : k = p.rows.length := by have := HR.out; omega
          refine ⟨ret_bool ?_, HB.out⟩
          rw [HF.out]
          exact (Num.all_full _ _ _ hke HW.out).symm

end Go.Proofs.YtipcbhodlgoflaaGreat

/- What the document's own Fits and Goes do. -/
namespace Go.Proofs.YtipcbhodlgoflaaGreat
open Go.RowKit

set_option maxHeartbeats 400000 in
theorem r2fits_any (ca : Option Addr) (cl cc : Nat) (ra : Option Addr) (rl rc : Nat) (p : Num.Lp) (w : World) (hc : Ints w ca cl p.costs) (hcl : cl ≤ 9223372036854775807) (hr : RowsAt w ra rl p.rows) (hrl : rl ≤ 9223372036854775807)
    (xa : Option Addr) (xl xc : Nat) (x : List Int) (d : Int) (hx : Ints w xa xl x) (hxl : xl ≤ 9223372036854775807) :
    Calls Tryz.prog 36 #[.agg #[.slice ca cl cc, .slice ra rl rc], .agg #[.slice xa xl xc, .int .i64 d]] w fun e w' => e = .returned (.bool (p.fits x d)) ∧ Below w.heap.size w w' := by
  have HC : Hid (Ints w ca cl p.costs) := hc
  have HR : Hid (RowsAt w ra rl p.rows) := hr
  have HX : Hid (Ints w xa xl x) := hx
  have HCL : Hid (cl = p.costs.length) := hc.1
  have HXL : Hid (xl = x.length) := hx.1
  clear hc hr hx
  have HV := box2 (box2_refl w (.slice ca cl cc) (.slice ra rl rc) (.slice xa xl xc) (.int .i64 d) 25 27)
  have HB : Hid _ := HV.2.2.2
  clear HV
  cases h1 : p.may with
  | false =>
    have HF : Hid (p.fits x d = false) := by show p.fits x d = _; unfold Num.Lp.fits; rw [h1]; rfl
    go_enter Tryz.func36, Tryz.ntmps36
    go_wp2_with fail
    refine (r2may_any _ _ _ _ _ _ p _ (Ints.below HC.out HB.out (Nat.le_refl _)) hcl (RowsAt.below HR.out HB.out (Nat.le_refl _)) hrl).mono ?_
    rintro e w1 ⟨rfl, hb1⟩
    rw [h1]
    go_wp2_with fail
    go_ret
    exact ⟨ret_bool HF.out.symm, (box2 hb1).2.2.2⟩
  | true =>
    cases h2 : Num.mayPB d x with
    | false =>
      have HF : Hid (p.fits x d = false) := by show p.fits x d = _; unfold Num.Lp.fits; rw [h1, h2]; simp
      go_enter Tryz.func36, Tryz.ntmps36
      go_wp2_with fail
      refine (r2may_any _ _ _ _ _ _ p _ (Ints.below HC.out HB.out (Nat.le_refl _)) hcl (RowsAt.below HR.out HB.out (Nat.le_refl _)) hrl).mono ?_
      rintro e w1 ⟨rfl, hb1⟩
      rw [h1]
      obtain ⟨⟨c0, c1⟩, ⟨c2, c3⟩, hz, hB⟩ := box2 hb1
      go_wp2_with fail
      refine (mayPoint_any d _ _ _ x _ (Ints.below HX.out hB (Nat.le_refl _)) hxl).mono ?_
      rintro e w2 ⟨rfl, hb2⟩
      rw [h2]
      go_wp2_with fail
      go_ret
      exact ⟨ret_bool HF.out.symm, bstep hB hb2⟩
    | true =>
      have HF : Hid (p.fits x d = ((xl : Int) == (cl : Int))) := by
        have := HCL.out; have := HXL.out
        show p.fits x d = _; unfold Num.Lp.fits; rw [h1, h2, ← HCL.out, ← HXL.out]; simp
        rw [Bool.eq_iff_iff]; simp; omega
      go_enter Tryz.func36, Tryz.ntmps36
      go_wp2_with fail
      refine (r2may_any _ _ _ _ _ _ p _ (Ints.below HC.out HB.out (Nat.le_refl _)) hcl (RowsAt.below HR.out HB.out (Nat.le_refl _)) hrl).mono ?_
      rintro e w1 ⟨rfl, hb1⟩
      rw [h1]
      obtain ⟨⟨c0, c1⟩, ⟨c2, c3⟩, hz, hB⟩ := box2 hb1
      go_wp2_with fail
      refine (mayPoint_any d _ _ _ x _ (Ints.below HX.out hB (Nat.le_refl _)) hxl).mono ?_
      rintro e w2 ⟨rfl, hb2⟩
      rw [h2]
      obtain ⟨⟨c0, c1⟩, ⟨c2, c3⟩, hz, hB⟩ := box2 (bstep hb1 hb2)
      go_wp2_with fail
      go_ret
      exact ⟨ret_bool HF.out.symm, hB⟩

set_option maxHeartbeats 1600000 in
theorem r2goes_any (ca : Option Addr) (cl cc : Nat) (ra : Option Addr) (rl rc : Nat) (p : Num.Lp) (w : World) (hc : Ints w ca cl p.costs) (hcl : cl ≤ 9223372036854775807) (hr : RowsAt w ra rl p.rows) (hrl : rl ≤ 9223372036854775807)
    (xa : Option Addr) (xl xc : Nat) (x : List Int) (d : Int) (hx : Ints w xa xl x) (hxl : xl ≤ 9223372036854775807) :
    Calls Tryz.prog 14 #[.agg #[.slice ca cl cc, .slice ra rl rc], .agg #[.slice xa xl xc, .int .i64 d]] w fun e w' => e = .returned (.bool (p.goes x d)) ∧ Below w.heap.size w w' := by
  have HC : Hid (Ints w ca cl p.costs) := hc
  have HR : Hid (RowsAt w ra rl p.rows) := hr
  have HX : Hid (Ints w xa xl x) := hx
  have HCL : Hid (cl = p.costs.length) := hc.1
  have HRL : Hid (rl = p.rows.length) := hr.1
  have HXL : Hid (xl = x.length) := hx.1
  clear hc hr hx
  have HV := box2 (box2_refl w (.slice ca cl cc) (.slice ra rl rc) (.slice xa xl xc) (.int .i64 d) 25 27)
  have HB : Hid _ := HV.2.2.2
  clear HV
  cases h1 : p.fits x d with
  | false =>
    have HF : Hid (p.goes x d = false) := p.goes_no x d h1
    go_enter Tryz.func14, Tryz.ntmps14
    go_wp2_with fail
    refine (r2fits_any _ _ _ _ _ _ p _ (Ints.below HC.out HB.out (Nat.le_refl _)) hcl (RowsAt.below HR.out HB.out (Nat.le_refl _)) hrl _ _ _ x d (Ints.below HX.out HB.out (Nat.le_refl _)) hxl).mono ?_
    rintro e w1 ⟨rfl, hb1⟩
    rw [h1]
    go_wp2_with fail
    go_ret
    exact ⟨ret_bool HF.out.symm, (box2 hb1).2.2.2⟩
  | true =>
    obtain ⟨hm, hxc, hd, hw⟩ := p.fits_of x d h1
    have hc4 := (p.may_of hm).1
    have HM : Hid (p.may = true) := hm
    have HW : Hid (∀ j : Nat, -1073741824 ≤ x[j]?.getD 0 ∧ x[j]?.getD 0 ≤ 1073741824) := Num.withinB_iff _ _ hw (by omega)
    have hxe : xl = cl := by have := HCL.out; have := HXL.out; omega
    have hc5 : cl ≤ 4 := by have := HCL.out; omega
    have HXC : Hid _ := hxc
    clear hm hw hc4 hxc
    subst hxe
    go_enter Tryz.func14, Tryz.ntmps14
    go_wp2_with fail
    refine (r2fits_any _ _ _ _ _ _ p _ (Ints.below HC.out HB.out (Nat.le_refl _)) hcl (RowsAt.below HR.out HB.out (Nat.le_refl _)) hrl _ _ _ x d (Ints.below HX.out HB.out (Nat.le_refl _)) hxl).mono ?_
    rintro e w1 ⟨rfl, hb1⟩
    rw [h1]
    obtain ⟨⟨c0, c1⟩, ⟨c2, c3⟩, hz, hB⟩ := box2 hb1
    go_wp2_with fail
    go_loop [5] (fun i => ∃ k : Nat, k ≤ xl ∧ i = .int .i64 k ∧ Num.anyNeg (x.take k) = false) (fun i => xl - (intOf i).toNat)
    case atStart => exact ⟨0, Nat.zero_le _, rfl, rfl⟩
    case round =>
      obtain ⟨k, hk, rfl, hw⟩ := hrel
      have HWK : Hid _ := hw
      clear hw
      by_cases hlt : k < xl
      · rcases (Ints.below HX.out hB (Nat.le_refl _)).2 with hi | ⟨b, off, ha, hb, hc⟩
        · omega
        have hck := hc k hlt
        clear hc
        have hs := Num.anyNeg_take_succ x k (by have := HXL.out; omega)
        have hf := Num.anyNeg_of x k (by have := HXL.out; omega)
        generalize x[k]?.getD 0 = y at hck hs hf
        have HS : Hid _ := hs
        have HF : Hid _ := hf
        clear hs hf
        subst ha
        by_cases hx1 : y < 0
        · go_wp2_with fail
          go_ret
          exact ⟨ret_bool (p.goes_neg x d (HF.out hx1)).symm, hB⟩
        have hx1' : decide (y < 0) = false := by simpa using hx1
        go_wp2_with fail
        go_round
        case rel => exact ⟨k + 1, by omega, by go_num, by rw [HS.out, HWK.out]; simp; omega⟩
        case measure => simp [intOf]; omega
      · have h2 : Num.anyNeg x = false := by
          have hke : k = x.length := by have := HXL.out; omega
          have := HWK.out
          rw [hke, List.take_length] at this
          exact this
        have HF : Hid (p.goes x d = p.rows.all (Num.rowGoes x d)) := p.goes_rows x d h1 h2
        clear h2 HWK
        go_wp2_with fail
        clear c0 c1 c2 c3 hz
        go_loopw [6] (fun i wr => ∃ k : Nat, k ≤ rl ∧ i = .int .i64 k ∧ (p.rows.take k).all (Num.rowGoes x d) = true ∧ Below ((w.alloc (.cells #[.slice ca xl cc, .slice ra rl rc] 25)).alloc (.cells #[.slice xa xl xc, .int .i64 d] 27)).heap.size ((w.alloc (.cells #[.slice ca xl cc, .slice ra rl rc] 25)).alloc (.cells #[.slice xa xl xc, .int .i64 d] 27)) wr) (fun i _ => rl - (intOf i).toNat)
        case atStart => exact ⟨0, Nat.zero_le _, rfl, rfl, hb1⟩
        case round =>
          obtain ⟨k, hk, rfl, hw, hbl⟩ := hrel
          have HAL : Hid _ := hw
          clear hw
          by_cases hlt : k < rl
          · obtain ⟨⟨c0, c1⟩, ⟨c2, c3⟩, hz, hB2⟩ := box2 hbl
            rcases (RowsAt.below HR.out hB2 (Nat.le_refl _)).2 with h | ⟨b, off, ha, hbs, hc⟩
            · omega
            obtain ⟨ya, yl, yc, d0, d1, hy, hyl⟩ := hc k hlt
            clear hc
            have hrow := p.row_of HM.out k (by have := HRL.out; omega)
            have HS : Hid ((p.rows.take (k + 1)).all (Num.rowGoes x d) = ((p.rows.take k).all (Num.rowGoes x d) && Num.rowGoes x d (p.rows[k]?.getD ([], 0)))) := Num.all_take_succ (Num.rowGoes x d) p.rows k (by have := HRL.out; omega) ([], 0)
            have HN : Hid (Num.rowGoes x d (p.rows[k]?.getD ([], 0)) = false → p.rows.all (Num.rowGoes x d) = false) := Num.all_false_of (Num.rowGoes x d) p.rows k (by have := HRL.out; omega) ([], 0)
            generalize (p.rows[k]?.getD ([], 0)) = r at *
            obtain ⟨r1, r2⟩ := r
            dsimp only at *
            obtain ⟨hr0, hr1, hr2⟩ := hrow
            have hye : yl = xl := by have := hy.1; have := HCL.out; omega
            have HY : Hid (Ints wr ya yl r1) := hy
            have HWR : Hid (∀ j : Nat, -12 ≤ r1[j]?.getD 0 ∧ r1[j]?.getD 0 ≤ 12) := Num.withinB_iff _ _ hr1 (by omega)
            have HG : Hid (Num.rowGoes x d (r1, r2) = decide (Num.dotN r1 x xl ≤ r2 * d)) := Num.rowGoes_eq x d r1 r2 xl HXL.out
            clear hr0 hr1 hy
            have hpd := Num.mul_bd2 r2 d 12 1073741824 hr2 (by omega)
            simp only [show (12 : Int) * 1073741824 = 12884901888 from rfl] at hpd
            have hwr : wrap64 (r2 * d) = r2 * d := IntWalk.wrap64_in _ (by omega)
            subst ha hye
            clear hB HB
            go_wp2_with fail
            have q0 := later_cell (V := wr) d0 hbs
            have q1 := later_cell (V := wr) d1 hbs
            have q2 := later_cell (V := wr) c2 hz
            have q3 := later_cell (V := wr) c3 hz
            have q4 := later_cell (V := wr) c1 (by dsimp only; omega)
            clear c0 c1 c2 c3 d0 d1 hb1
            have hne := later_some wr
            have KT : Hid (∀ n : Later wr, Calls Tryz.prog 18 #[.slice ya yl yc, .slice xa yl xc] n.w fun e w' => e = .returned (.int .i64 (Num.dotN r1 x yl)) ∧ Below n.w.heap.size n.w w') := by
              intro n
              exact below_of_drew (dot_any ya xa yl yc yl xc r1 x n.w 12 1073741824 (Ints.below HY.out n.ok (Nat.le_refl _)) (Ints.below HX.out (bstep hB2 n.ok) (Nat.le_refl _)) (Nat.le_refl _) (by omega) HWR.out HW.out (by omega))
            refine wp_region_later (by kernel_rfl) (by kernel_rfl) ?_
            repeat (go_big_quiet_step ((go_at_call 18; exact calls_later (KT.out _))))
            refine wpQuiet_nil ?_
            rintro w5 ⟨n5, rfl⟩
            have e1 := q4 n5
            clear q0 q1 q2 q3 q4
            by_cases hg : r2 * d < Num.dotN r1 x yl
            · go_wp2_with fail
              go_ret
              refine ⟨ret_bool ?_, bstep hB2 n5.ok⟩
              rw [HF.out]
              exact (HN.out (by rw [HG.out]; simp; omega)).symm
            · have hg' : decide (r2 * d < Num.dotN r1 x yl) = false := by simpa using hg
              go_wp2_with fail
              go_roundw
              case rel => exact ⟨k + 1, by omega, by go_num, by rw [HS.out, HAL.out, HG.out]; simp; omega, bstep hbl n5.ok⟩
              case measure => simp [intOf]; omega
          · obtain ⟨⟨c0, c1⟩, ⟨c2, c3⟩, hz, hB2⟩ := box2 hbl
            go_wp2_with fail
            go_ret
            have hke : k = p.rows.length := by have := HRL.out; omega
            refine ⟨ret_bool ?_, hB2⟩
            rw [HF.out]
            exact (Num.all_full _ _ _ hke HAL.out).symm

end Go.Proofs.YtipcbhodlgoflaaGreat
