/- What the document's own May of programs does. -/
import Derived.Test.YtipcbhodlgoflabLayH
namespace Go.Proofs.Ytipcbhodlgoflab
open Go.RowKit

set_option maxHeartbeats 1600000 in
theorem r2may_any (ca : Option Addr) (cl cc : Nat) (ra : Option Addr) (rl rc : Nat) (p : Num.Lp) (w : World) (hc : Ints w ca cl p.costs) (hcl : cl ≤ 9223372036854775807) (hr : RowsAt w ra rl p.rows) (hrl : rl ≤ 9223372036854775807) :
    Calls Try.prog 8 #[.agg #[.slice ca cl cc, .slice ra rl rc]] w fun e w' => e = .returned (.bool p.may) ∧ Below w.heap.size w w' := by
  have HC : Hid (Ints w ca cl p.costs) := hc
  have HL : Hid (cl = p.costs.length) := hc.1
  have HR : Hid (rl = p.rows.length) := hr.1
  have HRW : Hid (RowsAt w ra rl p.rows) := hr
  clear hc hr
  by_cases h1 : (cl : Int) < 1
  · have HF : Hid (p.may = false) := p.may_c1 cl HL.out h1
    go_enter Try.func8, Try.ntmps8
    go_wp2_with fail
    go_ret
    exact ⟨ret_bool HF.out.symm, balloc _ _⟩
  have h1' : decide ((cl : Int) < 1) = false := by simpa using h1
  by_cases h2 : 4 < (cl : Int)
  · have HF : Hid (p.may = false) := p.may_c4 cl HL.out h2
    go_enter Try.func8, Try.ntmps8
    go_wp2_with fail
    go_ret
    exact ⟨ret_bool HF.out.symm, balloc _ _⟩
  have h2' : decide (4 < (cl : Int)) = false := by simpa using h2
  by_cases h4 : (rl : Int) < 1
  · have HF : Hid (p.may = false) := p.may_r1 rl HR.out h4
    go_enter Try.func8, Try.ntmps8
    go_wp2_with fail
    go_ret
    exact ⟨ret_bool HF.out.symm, balloc _ _⟩
  have h4' : decide ((rl : Int) < 1) = false := by simpa using h4
  by_cases h5 : 4 < (rl : Int)
  · have HF : Hid (p.may = false) := p.may_r4 rl HR.out h5
    go_enter Try.func8, Try.ntmps8
    go_wp2_with fail
    go_ret
    exact ⟨ret_bool HF.out.symm, balloc _ _⟩
  have h5' : decide (4 < (rl : Int)) = false := by simpa using h5
  go_enter Try.func8, Try.ntmps8
  go_wp2_with fail
  go_loop [4] (fun i => ∃ k : Nat, k ≤ cl ∧ i = .int .i64 k ∧ Num.withinB 400 (p.costs.take k) = true) (fun i => cl - (intOf i).toNat)
  case atStart => exact ⟨0, Nat.zero_le _, rfl, rfl⟩
  case round =>
    obtain ⟨k, hk, rfl, hw⟩ := hrel
    have HW : Hid _ := hw
    clear hw
    by_cases hlt : k < cl
    · rcases (Ints.below HC.out (balloc w (.cells #[.slice ca cl cc, .slice ra rl rc] 25)) (Nat.le_refl _)).2 with hi | ⟨b, off, ha, hb, hc⟩
      · omega
      have hck := hc k hlt
      clear hc
      have hs := Num.withinB_take_succ 400 p.costs k (by have := HL.out; omega)
      have hf := Num.withinB_false_of 400 p.costs k (by have := HL.out; omega)
      generalize p.costs[k]?.getD 0 = x at hck hs hf
      have HS : Hid _ := hs
      have HF : Hid _ := hf
      clear hs hf
      subst ha
      by_cases hx1 : x < -400
      · go_wp2_with fail
        go_ret
        exact ⟨ret_bool (p.may_w (HF.out (Or.inl hx1))).symm, balloc _ _⟩
      have hx1' : decide (x < -400) = false := by simpa using hx1
      by_cases hx2 : 400 < x
      · go_wp2_with fail
        go_ret
        exact ⟨ret_bool (p.may_w (HF.out (Or.inr hx2))).symm, balloc _ _⟩
      have hx2' : decide (400 < x) = false := by simpa using hx2
      go_wp2_with fail
      go_round
      case rel => exact ⟨k + 1, by omega, by go_num, by rw [HS.out, HW.out]; simp; omega⟩
      case measure => simp [intOf]; omega
    · have h3 : Num.withinB 400 p.costs = true := by
        have hke : k = p.costs.length := by have := HL.out; omega
        have := HW.out
        rw [hke, List.take_length] at this
        exact this
      have HF : Hid (p.may = p.rows.all (Num.rowB cl)) := p.may_rows cl rl HL.out HR.out (by omega) (by omega) h3 (by omega) (by omega)
      clear h3 HW
      go_wp2_with fail
      go_loopw [5] (fun i wr => ∃ k : Nat, k ≤ rl ∧ i = .int .i64 k ∧ (p.rows.take k).all (Num.rowB cl) = true ∧ Below (w.alloc (.cells #[.slice ca cl cc, .slice ra rl rc] 25)).heap.size (w.alloc (.cells #[.slice ca cl cc, .slice ra rl rc] 25)) wr) (fun i _ => rl - (intOf i).toNat)
      case atStart => exact ⟨0, Nat.zero_le _, rfl, rfl, Below.refl _ _⟩
      case round =>
        obtain ⟨k, hk, rfl, hw, hbl⟩ := hrel
        have HW : Hid _ := hw
        clear hw
        have HB : Hid (Below w.heap.size w wr) := binto hbl
        have e0 : wr.cell? ⟨w.heap.size, 1, none⟩ = some (.slice ra rl rc) := by rw [hbl.cell (by simp)]; go_simp
        by_cases hlt : k < rl
        · rcases (RowsAt.below HRW.out HB.out (Nat.le_refl _)).2 with h | ⟨b, off, ha, hbs, hc⟩
          · omega
          obtain ⟨xa, xl, xc, c0, c1, hx, hxl⟩ := hc k hlt
          clear hc
          have hsz : w.heap.size < wr.heap.size := by have := hbl.size; simp at this; omega
          have HS : Hid ((p.rows.take (k + 1)).all (Num.rowB cl) = ((p.rows.take k).all (Num.rowB cl) && Num.rowB cl (p.rows[k]?.getD ([], 0)))) := Num.all_take_succ (Num.rowB cl) p.rows k (by have := HR.out; omega) ([], 0)
          have HN : Hid (Num.rowB cl (p.rows[k]?.getD ([], 0)) = false → p.may = false) := fun h => by rw [HF.out]; exact Num.all_false_of (Num.rowB cl) p.rows k (by have := HR.out; omega) ([], 0) h
          generalize (p.rows[k]?.getD ([], 0)) = r at *
          obtain ⟨r1, r2⟩ := r
          dsimp only at *
          have HX : Hid (Ints wr xa xl r1) := hx
          have HXL : Hid (xl = r1.length) := hx.1
          clear hx
          subst ha
          by_cases t1 : xl = cl
          · subst t1
            by_cases t2 : r2 < -12
            · go_wp2_with fail
              go_ret
              exact ⟨ret_bool (HN.out (Num.rowB_m _ _ _ (by rw [Num.withinB_one]; simp; omega))).symm, (binto hbl).alloc (by omega) _⟩
            have t2' : decide (r2 < -12) = false := by simpa using t2
            by_cases t3 : 12 < r2
            · go_wp2_with fail
              go_ret
              exact ⟨ret_bool (HN.out (Num.rowB_m _ _ _ (by rw [Num.withinB_one]; simp; omega))).symm, (binto hbl).alloc (by omega) _⟩
            have t3' : decide (12 < r2) = false := by simpa using t3
            go_wp2_with fail
            go_loop [7] (fun i => ∃ j : Nat, j ≤ xl ∧ i = .int .i64 j ∧ Num.withinB 12 (r1.take j) = true) (fun i => xl - (intOf i).toNat)
            case atStart => exact ⟨0, Nat.zero_le _, rfl, rfl⟩
            case round =>
              obtain ⟨j, hj, rfl, hw⟩ := hrel
              have HWJ : Hid _ := hw
              clear hw
              by_cases hjt : j < xl
              · rcases (Ints.below HX.out (balloc wr (.cells #[.slice xa xl xc, .int .i64 r2] 51)) (Nat.le_refl _)).2 with hi | ⟨b', off', ha, hb, hc⟩
                · omega
                have hck := hc j hjt
                clear hc
                have hs := Num.withinB_take_succ 12 r1 j (by have := HXL.out; omega)
                have hf := Num.withinB_false_of 12 r1 j (by have := HXL.out; omega)
                generalize r1[j]?.getD 0 = x at hck hs hf
                have HSJ : Hid _ := hs
                have HFJ : Hid _ := hf
                clear hs hf
                subst ha
                by_cases hx1 : x < -12
                · go_wp2_with fail
                  go_ret
                  exact ⟨ret_bool (HN.out (Num.rowB_w _ _ _ (HFJ.out (Or.inl hx1)))).symm, (binto hbl).alloc (by omega) _⟩
                have hx1' : decide (x < -12) = false := by simpa using hx1
                by_cases hx2 : 12 < x
                · go_wp2_with fail
                  go_ret
                  exact ⟨ret_bool (HN.out (Num.rowB_w _ _ _ (HFJ.out (Or.inr hx2)))).symm, (binto hbl).alloc (by omega) _⟩
                have hx2' : decide (12 < x) = false := by simpa using hx2
                go_wp2_with fail
                go_round
                case rel => exact ⟨j + 1, by omega, by go_num, by rw [HSJ.out, HWJ.out]; simp; omega⟩
                case measure => simp [intOf]; omega
              · have hje : Num.withinB 12 r1 = true := by
                  have hke : j = r1.length := by have := HXL.out; omega
                  have := HWJ.out
                  rw [hke, List.take_length] at this
                  exact this
                have HJE : Hid _ := hje
                clear hje
                go_wp2_with fail
                go_roundw
                case rel => exact ⟨k + 1, by omega, by go_num, by rw [HS.out, HW.out, Num.rowB_ok _ _ _ _ HXL.out rfl HJE.out (by rw [Num.withinB_one]; simp; omega)]; rfl, hbl.alloc hbl.size _⟩
                case measure => simp [intOf]; omega
          · have t1' : ((xl : Int) == (cl : Int)) = false := by simp; omega
            go_wp2_with fail
            go_ret
            exact ⟨ret_bool (HN.out (Num.rowB_len _ _ _ _ HXL.out t1)).symm, (binto hbl).alloc (by omega) _⟩
        · go_wp2_with fail
          go_ret
          have hke : k = p.rows.length := by have := HR.out; omega
          refine ⟨ret_bool ?_, HB.out⟩
          rw [HF.out]
          exact (Num.all_full _ _ _ hke HW.out).symm

end Go.Proofs.Ytipcbhodlgoflab

/- What the document's own Fits and Goes do. -/
namespace Go.Proofs.Ytipcbhodlgoflab
open Go.RowKit

end Go.Proofs.Ytipcbhodlgoflab
