/- What the document's empty, Above, point, priced and most do. -/
import Derived.Test.YtipcbhodlgoflaaGreatPrfAB
import Derived.Test.YtipcbhodlgoflaaGreatRef2A
import Derived.Deep.CutRange
namespace Go.Proofs.YtipcbhodlgoflaaGreat
open Go.RowKit

set_option maxHeartbeats 400000 in
theorem rempty_any (a : Option Addr) (len cap : Nat) (d : Int) (l : List Int) (w : World) (hi : len = l.length) :
    Calls Tryz.prog 13 #[.agg #[.slice a len cap, .int .i64 d]] w fun e w' => e = .returned (.bool (!Num.thereB l d)) ∧ Below w.heap.size w w' := by
  by_cases h : 0 < len
  · have h' : ((len : Int) == 0) = false := by simp; omega
    have HE : Hid (Num.thereB l d = true) := Num.there_of l d (by omega)
    clear hi
    go_enter Tryz.func13, Tryz.ntmps13
    go_wp2_with fail
    go_ret
    exact ⟨ret_bool (by rw [HE.out]; rfl), balloc _ _⟩
  · obtain rfl : len = 0 := by omega
    have HE : Hid (Num.thereB l d = (d != 0)) := by
      show Num.thereB l d = (d != 0)
      unfold Num.thereB
      have : ¬ 0 < l.length := by omega
      simp [this]
    clear hi
    go_enter Tryz.func13, Tryz.ntmps13
    go_wp2_with fail
    go_ret
    exact ⟨ret_bool (by rw [HE.out]; unfold bne; cases (d == 0) <;> rfl), balloc _ _⟩

set_option maxHeartbeats 400000 in
theorem rabove_any (a : Option Addr) (len cap : Nat) (d : Int) (l : List Int) (w : World) (hi : Ints w a len l) (hlen : len ≤ 9223372036854775807) :
    Calls Tryz.prog 22 #[.agg #[.slice a len cap, .int .i64 d]] w fun e w' => e = .returned (.bool (!Num.anyNeg l)) ∧ Below w.heap.size w w' := by
  have HI : Hid (Ints w a len l) := hi
  have HL : Hid (len = l.length) := hi.1
  clear hi
  go_enter Tryz.func22, Tryz.ntmps22
  go_wp2_with fail
  go_loop [3] (fun i => ∃ k : Nat, k ≤ len ∧ i = .int .i64 k ∧ Num.anyNeg (l.take k) = false) (fun i => len - (intOf i).toNat)
  case atStart => exact ⟨0, Nat.zero_le _, rfl, rfl⟩
  case round =>
    obtain ⟨k, hk, rfl, hw⟩ := hrel
    have HW : Hid _ := hw
    clear hw
    by_cases hlt : k < len
    · rcases (Ints.below HI.out (balloc w (.cells #[.slice a len cap, .int .i64 d] 27)) (Nat.le_refl _)).2 with hi | ⟨b, off, ha, hb, hc⟩
      · omega
      have hck := hc k hlt
      clear hc
      have hs := Num.anyNeg_take_succ l k (by have := HL.out; omega)
      have hf := Num.anyNeg_of l k (by have := HL.out; omega)
      generalize l[k]?.getD 0 = x at hck hs hf
      have HS : Hid _ := hs
      have HF : Hid _ := hf
      clear hs hf
      subst ha
      by_cases hx1 : x < 0
      · go_wp2_with fail
        go_ret
        exact ⟨ret_bool (by rw [HF.out hx1]; rfl), balloc _ _⟩
      have hx1' : decide (x < 0) = false := by simpa using hx1
      go_wp2_with fail
      go_round
      case rel => exact ⟨k + 1, by omega, by go_num, by rw [HS.out, HW.out]; simp; omega⟩
      case measure => simp [intOf]; omega
    · go_wp2_with fail
      go_ret
      have hke : k = l.length := by have := HL.out; omega
      refine ⟨ret_bool ?_, balloc _ _⟩
      have := HW.out
      rw [hke, List.take_length] at this
      rw [this]; rfl

set_option maxHeartbeats 400000 in
theorem rpoint4_any (a : Option Addr) (len cap : Nat) (d : Int) (l : List Int) (m : Nat) (w : World) (hi : Ints w a len l) (hlen : len ≤ 9223372036854775807) :
    Calls Tryz.prog 15 #[.agg #[.slice a len cap, .int .i64 d], .int .i64 m] w fun e w' => e = .returned (.bool (Num.pointB m l d)) ∧ Below w.heap.size w w' := by
  have HI : Hid (Ints w a len l) := hi
  have HL : Hid (len = l.length) := hi.1
  clear hi
  have HB0 : Hid _ := balloc w (.cells #[.slice a len cap, .int .i64 d] 27)
  cases h2 : Num.mayPB d l with
  | false =>
    have HF : Hid (Num.pointB m l d = false) := by show Num.pointB m l d = false; unfold Num.pointB; rw [h2]; simp
    go_enter Tryz.func15, Tryz.ntmps15
    go_wp2_with fail
    refine (mayPoint_any d _ _ _ l _ (Ints.below HI.out HB0.out (Nat.le_refl _)) hlen).mono ?_
    rintro e w1 ⟨rfl, hb1⟩
    rw [h2]
    go_wp2_with fail
    go_ret
    exact ⟨ret_bool HF.out.symm, binto hb1⟩
  | true =>
    by_cases h1 : len = m
    · subst h1
      have HF : Hid (Num.pointB len l d = !Num.anyNeg l) := by show Num.pointB len l d = !Num.anyNeg l; unfold Num.pointB; have := HL.out; rw [h2, ← this]; simp
      go_enter Tryz.func15, Tryz.ntmps15
      go_wp2_with fail
      refine (mayPoint_any d _ _ _ l _ (Ints.below HI.out HB0.out (Nat.le_refl _)) hlen).mono ?_
      rintro e w1 ⟨rfl, hb1⟩
      rw [h2]
      obtain ⟨⟨c0, c1⟩, _⟩ := kept2 hb1
      have hB1 := binto hb1
      go_wp2_with fail
      refine (rabove_any _ _ _ d l _ (Ints.below HI.out hB1 (Nat.le_refl _)) hlen).mono ?_
      rintro e w2 ⟨rfl, hb2⟩
      go_wp2_with fail
      go_ret
      exact ⟨ret_bool HF.out.symm, bstep hB1 hb2⟩
    · have h1' : ((len : Int) == (m : Int)) = false := by simp; omega
      have HF : Hid (Num.pointB m l d = false) := Num.point_len m l d (by have := HL.out; omega)
      go_enter Tryz.func15, Tryz.ntmps15
      go_wp2_with fail
      refine (mayPoint_any d _ _ _ l _ (Ints.below HI.out HB0.out (Nat.le_refl _)) hlen).mono ?_
      rintro e w1 ⟨rfl, hb1⟩
      rw [h2]
      obtain ⟨⟨c0, c1⟩, _⟩ := kept2 hb1
      have hB1 := binto hb1
      go_wp2_with fail
      go_ret
      exact ⟨ret_bool HF.out.symm, hB1⟩

theorem Num.dot_bdk (l y : List Int) (k : Nat) (h4 : k ≤ 4) (hl : ∀ j : Nat, -12 ≤ l[j]?.getD 0 ∧ l[j]?.getD 0 ≤ 12) (hy : ∀ j : Nat, -1073741824 ≤ y[j]?.getD 0 ∧ y[j]?.getD 0 ≤ 1073741824) : -51539607552 ≤ Num.dotN l y k ∧ Num.dotN l y k ≤ 51539607552 := by
  have := Num.dotN_bd l y 12 1073741824 hl hy k
  omega

set_option maxHeartbeats 800000 in
theorem rpriced_any (ca : Option Addr) (cl cc : Nat) (ra : Option Addr) (m rc : Nat) (p : Num.Lp) (w : World) (hr : RowsAt w ra m p.rows) (hm : p.may = true)
    (ya : Option Addr) (yc : Nat) (y : List Int) (yd : Int) (hy : Ints w ya m y) (hyb : ∀ j : Nat, -1073741824 ≤ y[j]?.getD 0 ∧ y[j]?.getD 0 ≤ 1073741824) (j : Nat) (hj : j < p.costs.length) :
    Calls Tryz.prog 16 #[.agg #[.slice ca cl cc, .slice ra m rc], .agg #[.slice ya m yc, .int .i64 yd], .int .i64 j] w fun e w' => e = .returned (.int .i64 (Num.dotN (Num.colL p m j) y m)) ∧ Below w.heap.size w w' := by
  have HR : Hid (RowsAt w ra m p.rows) := hr
  have HRL : Hid (m = p.rows.length) := hr.1
  have HY : Hid (Ints w ya m y) := hy
  have HYB : Hid (∀ j : Nat, -1073741824 ≤ y[j]?.getD 0 ∧ y[j]?.getD 0 ≤ 1073741824) := hyb
  have HM : Hid (p.may = true) := hm
  have HJ : Hid (j < p.costs.length) := hj
  have hj4 : j < 4 := by have := (p.may_of hm).1.2; omega
  have h4 : m ≤ 4 := by have := hr.1; have := (p.may_of hm).2.2.1.2; omega
  clear hr hy hm hyb hj
  have hL0 := box2_refl w (.slice ca cl cc) (.slice ra m rc) (.slice ya m yc) (.int .i64 yd) 25 27
  go_enter Tryz.func16, Tryz.ntmps16
  go_wp2_with fail
  generalize hV : (w.alloc (.cells #[.slice ca cl cc, .slice ra m rc] 25)).alloc (.cells #[.slice ya m yc, .int .i64 yd] 27) = V at *
  have HBX : Hid (∀ w', Below V.heap.size V w' → (w'.cell? ⟨w.heap.size, 0, none⟩ = some (.slice ca cl cc) ∧ w'.cell? ⟨w.heap.size, 1, none⟩ = some (.slice ra m rc)) ∧ (w'.cell? ⟨w.heap.size + 1, 0, none⟩ = some (.slice ya m yc) ∧ w'.cell? ⟨w.heap.size + 1, 1, none⟩ = some (.int .i64 yd)) ∧ w.heap.size + 1 < w'.heap.size ∧ Below w.heap.size w w') := by
    intro w' h; rw [← hV] at h; exact box2 h
  clear hV
  go_loopw [7, 8] (fun s i wr => ∃ k : Nat, k ≤ m ∧ i = .int .i64 k ∧ s = .int .i64 (Num.dotN (Num.colL p m j) y k) ∧ ∃ n, wr = V.drewN n) (fun _ i _ => m - (intOf i).toNat)
  case atStart => exact ⟨0, Nat.zero_le _, rfl, rfl, 0, rfl⟩
  case round =>
    obtain ⟨k, hk, rfl, rfl, n, rfl⟩ := hrel
    obtain ⟨⟨c0, c1⟩, ⟨c2, c3⟩, hz, hB⟩ := HBX.out V hL0
    by_cases hlt : k < m
    · rcases (RowsAt.below HR.out hB (Nat.le_refl _)).2 with h | ⟨b, off, ha, hbs, hc⟩
      · omega
      obtain ⟨xa, xl, xc, d0, d1, hx, hxl⟩ := hc k hlt
      have hrow := (p.row_of HM.out k (by have := HRL.out; omega)).1
      rcases hx.2 with h | ⟨b2, o2, ha2, hb2, hc2⟩
      · have := hx.1; have := HJ.out; omega
      have hxj : j < xl := by have := hx.1; have := HJ.out; omega
      have e2 := hc2 j hxj
      rcases (Ints.below HY.out hB (Nat.le_refl _)).2 with h | ⟨b3, o3, ha3, hb3, hc3⟩
      · omega
      have e3 := hc3 k hlt
      have hE : Num.dotN (Num.colL p m j) y (k + 1) = Num.dotN (Num.colL p m j) y k + (p.rows[k]?.getD ([], 0)).1[j]?.getD 0 * y[k]?.getD 0 := by
        have e : (Num.colL p m j)[k]?.getD 0 = (p.rows[k]?.getD ([], 0)).1[j]?.getD 0 := by unfold Num.colL; rw [Num.range_getD, if_pos hlt]; exact Num.hasF_in p j k _ rfl HJ.out
        rw [← e]; rfl
      have hs0 := Num.dot_bdk (Num.colL p m j) y k (by omega) (Num.col_bd p HM.out m j) HYB.out
      have hs1 := Num.dot_bdk (Num.colL p m j) y (k + 1) (by omega) (Num.col_bd p HM.out m j) HYB.out
      have hp := Num.mul_bd2 _ _ 12 1073741824 (Num.withinB_iff _ _ (p.row_of HM.out k (by have := HRL.out; omega)).2.1 (by omega) j) (HYB.out k)
      rw [hE] at hs1
      have HEQ : Hid _ := hE
      clear hE hc hc2 hc3 hx hxl hrow d1
      generalize Num.dotN (Num.colL p m j) y k = s at *
      generalize (p.rows[k]?.getD ([], 0)).1[j]?.getD 0 = x0 at e2 hs1 hp HEQ
      generalize y[k]?.getD 0 = y0 at e3 hs1 hp HEQ
      generalize hpp : x0 * y0 = pp at *
      have HPP : Hid _ := hpp
      clear hpp
      subst ha ha2 ha3
      go_wp2_with fail
      go_region
      go_wp2_with fail
      go_roundw
      case rel => exact ⟨k + 1, hlt, by go_num, by rw [HEQ.out, HPP.out, IntWalk.wrap64_in pp (by omega), IntWalk.wrap64_in _ (by omega)], n + 1, rfl⟩
      case measure => simp [intOf]; omega
    · have hke : k = m := by omega
      subst hke
      go_wp2_with fail
      go_ret
      exact ⟨rfl, bdrewN hB n⟩

set_option maxHeartbeats 800000 in
theorem rmost_any (ca : Option Addr) (cl cc : Nat) (ra : Option Addr) (m rc : Nat) (p : Num.Lp) (w : World) (hr : RowsAt w ra m p.rows) (hm : p.may = true)
    (ya : Option Addr) (yc : Nat) (y : List Int) (yd : Int) (hy : Ints w ya m y) (hyb : ∀ j : Nat, -1073741824 ≤ y[j]?.getD 0 ∧ y[j]?.getD 0 ≤ 1073741824) :
    Calls Tryz.prog 19 #[.agg #[.slice ca cl cc, .slice ra m rc], .agg #[.slice ya m yc, .int .i64 yd]] w fun e w' => e = .returned (.int .i64 (Num.pricedN p m y)) ∧ Below w.heap.size w w' := by
  have HR : Hid (RowsAt w ra m p.rows) := hr
  have HRL : Hid (m = p.rows.length) := hr.1
  have HY : Hid (Ints w ya m y) := hy
  have HYB : Hid (∀ j : Nat, -1073741824 ≤ y[j]?.getD 0 ∧ y[j]?.getD 0 ≤ 1073741824) := hyb
  have HM : Hid (p.may = true) := hm
  have h4 : m ≤ 4 := by have := hr.1; have := (p.may_of hm).2.2.1.2; omega
  clear hr hy hm hyb
  have hL0 := box2_refl w (.slice ca cl cc) (.slice ra m rc) (.slice ya m yc) (.int .i64 yd) 25 27
  go_enter Tryz.func19, Tryz.ntmps19
  go_wp2_with fail
  generalize hV : (w.alloc (.cells #[.slice ca cl cc, .slice ra m rc] 25)).alloc (.cells #[.slice ya m yc, .int .i64 yd] 27) = V at *
  have HBX : Hid (∀ w', Below V.heap.size V w' → (w'.cell? ⟨w.heap.size, 0, none⟩ = some (.slice ca cl cc) ∧ w'.cell? ⟨w.heap.size, 1, none⟩ = some (.slice ra m rc)) ∧ (w'.cell? ⟨w.heap.size + 1, 0, none⟩ = some (.slice ya m yc) ∧ w'.cell? ⟨w.heap.size + 1, 1, none⟩ = some (.int .i64 yd)) ∧ w.heap.size + 1 < w'.heap.size ∧ Below w.heap.size w w') := by
    intro w' h; rw [← hV] at h; exact box2 h
  clear hV
  go_loopw [5, 6] (fun s i wr => ∃ k : Nat, k ≤ m ∧ i = .int .i64 k ∧ s = .int .i64 (Num.dotN (Num.mostsL p m) y k) ∧ ∃ n, wr = V.drewN n) (fun _ i _ => m - (intOf i).toNat)
  case atStart => exact ⟨0, Nat.zero_le _, rfl, rfl, 0, rfl⟩
  case round =>
    obtain ⟨k, hk, rfl, rfl, n, rfl⟩ := hrel
    obtain ⟨⟨c0, c1⟩, ⟨c2, c3⟩, hz, hB⟩ := HBX.out V hL0
    by_cases hlt : k < m
    · rcases (RowsAt.below HR.out hB (Nat.le_refl _)).2 with h | ⟨b, off, ha, hbs, hc⟩
      · omega
      obtain ⟨xa, xl, xc, d0, d1, hx, hxl⟩ := hc k hlt
      rcases (Ints.below HY.out hB (Nat.le_refl _)).2 with h | ⟨b3, o3, ha3, hb3, hc3⟩
      · omega
      have e3 := hc3 k hlt
      have hE : Num.dotN (Num.mostsL p m) y (k + 1) = Num.dotN (Num.mostsL p m) y k + (p.rows[k]?.getD ([], 0)).2 * y[k]?.getD 0 := by
        have e : (Num.mostsL p m)[k]?.getD 0 = (p.rows[k]?.getD ([], 0)).2 := by unfold Num.mostsL; rw [Num.range_getD, if_pos hlt]; rfl
        rw [← e]; rfl
      have hs0 := Num.dot_bdk (Num.mostsL p m) y k (by omega) (Num.mosts_bd12 p HM.out m) HYB.out
      have hs1 := Num.dot_bdk (Num.mostsL p m) y (k + 1) (by omega) (Num.mosts_bd12 p HM.out m) HYB.out
      have hp := Num.mul_bd2 _ _ 12 1073741824 (p.row_of HM.out k (by have := HRL.out; omega)).2.2 (HYB.out k)
      rw [hE] at hs1
      have HEQ : Hid _ := hE
      clear hE hc hc3 hx hxl d0
      generalize Num.dotN (Num.mostsL p m) y k = s at *
      generalize (p.rows[k]?.getD ([], 0)).2 = x0 at d1 hs1 hp HEQ
      generalize y[k]?.getD 0 = y0 at e3 hs1 hp HEQ
      generalize hpp : x0 * y0 = pp at *
      have HPP : Hid _ := hpp
      clear hpp
      subst ha ha3
      go_wp2_with fail
      go_region
      go_wp2_with fail
      go_roundw
      case rel => exact ⟨k + 1, hlt, by go_num, by rw [HEQ.out, HPP.out, IntWalk.wrap64_in pp (by omega), IntWalk.wrap64_in _ (by omega)], n + 1, rfl⟩
      case measure => simp [intOf]; omega
    · have hke : k = m := by omega
      subst hke
      go_wp2_with fail
      go_ret
      exact ⟨rfl, bdrewN hB n⟩

end Go.Proofs.YtipcbhodlgoflaaGreat

/- What the document's Holds does. -/
namespace Go.Proofs.YtipcbhodlgoflaaGreat
open Go.RowKit

set_option maxRecDepth 4000 in
set_option maxHeartbeats 1600000 in
theorem rholds_no (ca : Option Addr) (cl cc : Nat) (ra : Option Addr) (m rc : Nat) (p : Num.Lp) (w : World) (hc : Ints w ca cl p.costs) (hcl : cl ≤ 9223372036854775807) (hr : RowsAt w ra m p.rows) (hrl : m ≤ 9223372036854775807) (a : Num.Ans)
    (xa : Option Addr) (xl xc : Nat) (ya : Option Addr) (yl yc : Nat) (za : Option Addr) (zl zc : Nat) (hx : Ints w xa xl a.x) (_hxl : xl ≤ 9223372036854775807) (hy : Ints w ya yl a.y) (_hyl : yl ≤ 9223372036854775807) (hz : Ints w za zl a.r) (_hzl : zl ≤ 9223372036854775807) (hm : p.may = false) :
    Calls Tryz.prog 6 #[.agg #[.slice ca cl cc, .slice ra m rc], .agg #[.int .i64 a.kind, .slice xa xl xc, .int .i64 a.xd, .slice ya yl yc, .int .i64 a.yd, .slice za zl zc, .int .i64 a.rd, .int .i64 a.wn, .int .i64 a.wd]] w fun e w' =>
      e = .returned (.bool (Num.holds p a)) ∧ Below w.heap.size w w' := by
  have HC : Hid (Ints w ca cl p.costs) := hc
  have HR : Hid (RowsAt w ra m p.rows) := hr
  have HX : Hid (Ints w xa xl a.x) := hx
  have HY : Hid (Ints w ya yl a.y) := hy
  have HZ : Hid (Ints w za zl a.r) := hz
  have HXL : Hid (xl = a.x.length) := hx.1
  have HYL : Hid (yl = a.y.length) := hy.1
  have HZL : Hid (zl = a.r.length) := hz.1
  have HCL : Hid (cl = p.costs.length) := hc.1
  have HRL : Hid (m = p.rows.length) := hr.1
  clear hr hx hy hz hc
  have hL0 : Below ((w.alloc (.cells #[.slice ca cl cc, .slice ra m rc] 25)).alloc (.cells #[.int .i64 a.kind, .slice xa xl xc, .int .i64 a.xd, .slice ya yl yc, .int .i64 a.yd, .slice za zl zc, .int .i64 a.rd, .int .i64 a.wn, .int .i64 a.wd] 31)).heap.size ((w.alloc (.cells #[.slice ca cl cc, .slice ra m rc] 25)).alloc (.cells #[.int .i64 a.kind, .slice xa xl xc, .int .i64 a.xd, .slice ya yl yc, .int .i64 a.yd, .slice za zl zc, .int .i64 a.rd, .int .i64 a.wn, .int .i64 a.wd] 31)) ((w.alloc (.cells #[.slice ca cl cc, .slice ra m rc] 25)).alloc (.cells #[.int .i64 a.kind, .slice xa xl xc, .int .i64 a.xd, .slice ya yl yc, .int .i64 a.yd, .slice za zl zc, .int .i64 a.rd, .int .i64 a.wn, .int .i64 a.wd] 31)) := Below.refl _ _
  have HH : Hid (Num.holds p a = false) := Num.holds_no p a hm
  generalize Num.holds p a = res at *
  obtain ⟨kd, x, xd, y, yd, z, zd, wn, wd⟩ := a
  dsimp only at *
  go_enter Tryz.func6, Tryz.ntmps6
  go_wp2_with fail
  generalize hV : (w.alloc (.cells #[.slice ca cl cc, .slice ra m rc] 25)).alloc (.cells #[.int .i64 kd, .slice xa xl xc, .int .i64 xd, .slice ya yl yc, .int .i64 yd, .slice za zl zc, .int .i64 zd, .int .i64 wn, .int .i64 wd] 31) = V at *
  have HBX : Hid (∀ w', Below V.heap.size V w' → (w'.cell? ⟨w.heap.size, 0, none⟩ = some (.slice ca cl cc) ∧ w'.cell? ⟨w.heap.size, 1, none⟩ = some (.slice ra m rc)) ∧ Nine (w.heap.size + 1) (.int .i64 kd) (.slice xa xl xc) (.int .i64 xd) (.slice ya yl yc) (.int .i64 yd) (.slice za zl zc) (.int .i64 zd) (.int .i64 wn) (.int .i64 wd) w' ∧ w.heap.size + 1 < w'.heap.size ∧ Below w.heap.size w w') := by
    intro w' h; rw [← hV] at h; exact box29 h
  clear hV
  have hB0 := (HBX.out V hL0).2.2.2
  refine (r2may_any _ _ _ _ _ _ p _ (Ints.below HC.out hB0 (Nat.le_refl _)) hcl (RowsAt.below HR.out hB0 (Nat.le_refl _)) hrl).mono ?_
  rintro e w1 ⟨rfl, hk1⟩
  have hb1 := bstep hL0 hk1
  rw [hm]
  clear hB0 hk1 hL0
  obtain ⟨⟨c0, c1⟩, ⟨n0, n1, n2, n3, n4, n5, n6, n7, n8⟩, hz1, hB1⟩ := HBX.out w1 hb1
  go_wp2_with fail
  go_ret
  exact ⟨ret_bool HH.out.symm, hB1⟩

set_option maxRecDepth 4000 in
set_option maxHeartbeats 1600000 in
theorem rholds_other (ca : Option Addr) (cl cc : Nat) (ra : Option Addr) (m rc : Nat) (p : Num.Lp) (w : World) (hc : Ints w ca cl p.costs) (hcl : cl ≤ 9223372036854775807) (hr : RowsAt w ra m p.rows) (hrl : m ≤ 9223372036854775807) (a : Num.Ans)
    (xa : Option Addr) (xl xc : Nat) (ya : Option Addr) (yl yc : Nat) (za : Option Addr) (zl zc : Nat) (hx : Ints w xa xl a.x) (_hxl : xl ≤ 9223372036854775807) (hy : Ints w ya yl a.y) (_hyl : yl ≤ 9223372036854775807) (hz : Ints w za zl a.r) (_hzl : zl ≤ 9223372036854775807) (hm : p.may = true) (k1 : a.kind ≠ 1) (k2 : a.kind ≠ 2) (k3 : a.kind ≠ 3) :
    Calls Tryz.prog 6 #[.agg #[.slice ca cl cc, .slice ra m rc], .agg #[.int .i64 a.kind, .slice xa xl xc, .int .i64 a.xd, .slice ya yl yc, .int .i64 a.yd, .slice za zl zc, .int .i64 a.rd, .int .i64 a.wn, .int .i64 a.wd]] w fun e w' =>
      e = .returned (.bool (Num.holds p a)) ∧ Below w.heap.size w w' := by
  have HC : Hid (Ints w ca cl p.costs) := hc
  have HR : Hid (RowsAt w ra m p.rows) := hr
  have HX : Hid (Ints w xa xl a.x) := hx
  have HY : Hid (Ints w ya yl a.y) := hy
  have HZ : Hid (Ints w za zl a.r) := hz
  have HXL : Hid (xl = a.x.length) := hx.1
  have HYL : Hid (yl = a.y.length) := hy.1
  have HZL : Hid (zl = a.r.length) := hz.1
  have HCL : Hid (cl = p.costs.length) := hc.1
  have HRL : Hid (m = p.rows.length) := hr.1
  clear hr hx hy hz hc
  have hL0 : Below ((w.alloc (.cells #[.slice ca cl cc, .slice ra m rc] 25)).alloc (.cells #[.int .i64 a.kind, .slice xa xl xc, .int .i64 a.xd, .slice ya yl yc, .int .i64 a.yd, .slice za zl zc, .int .i64 a.rd, .int .i64 a.wn, .int .i64 a.wd] 31)).heap.size ((w.alloc (.cells #[.slice ca cl cc, .slice ra m rc] 25)).alloc (.cells #[.int .i64 a.kind, .slice xa xl xc, .int .i64 a.xd, .slice ya yl yc, .int .i64 a.yd, .slice za zl zc, .int .i64 a.rd, .int .i64 a.wn, .int .i64 a.wd] 31)) ((w.alloc (.cells #[.slice ca cl cc, .slice ra m rc] 25)).alloc (.cells #[.int .i64 a.kind, .slice xa xl xc, .int .i64 a.xd, .slice ya yl yc, .int .i64 a.yd, .slice za zl zc, .int .i64 a.rd, .int .i64 a.wn, .int .i64 a.wd] 31)) := Below.refl _ _
  have HH : Hid (Num.holds p a = false) := Num.holds_none p a k1 k2 k3
  have k1' : (a.kind == 1) = false := by simpa using k1
  have k2' : (a.kind == 2) = false := by simpa using k2
  have k3' : (a.kind == 3) = false := by simpa using k3
  generalize Num.holds p a = res at *
  obtain ⟨kd, x, xd, y, yd, z, zd, wn, wd⟩ := a
  dsimp only at *
  go_enter Tryz.func6, Tryz.ntmps6
  go_wp2_with fail
  generalize hV : (w.alloc (.cells #[.slice ca cl cc, .slice ra m rc] 25)).alloc (.cells #[.int .i64 kd, .slice xa xl xc, .int .i64 xd, .slice ya yl yc, .int .i64 yd, .slice za zl zc, .int .i64 zd, .int .i64 wn, .int .i64 wd] 31) = V at *
  have HBX : Hid (∀ w', Below V.heap.size V w' → (w'.cell? ⟨w.heap.size, 0, none⟩ = some (.slice ca cl cc) ∧ w'.cell? ⟨w.heap.size, 1, none⟩ = some (.slice ra m rc)) ∧ Nine (w.heap.size + 1) (.int .i64 kd) (.slice xa xl xc) (.int .i64 xd) (.slice ya yl yc) (.int .i64 yd) (.slice za zl zc) (.int .i64 zd) (.int .i64 wn) (.int .i64 wd) w' ∧ w.heap.size + 1 < w'.heap.size ∧ Below w.heap.size w w') := by
    intro w' h; rw [← hV] at h; exact box29 h
  clear hV
  have hB0 := (HBX.out V hL0).2.2.2
  refine (r2may_any _ _ _ _ _ _ p _ (Ints.below HC.out hB0 (Nat.le_refl _)) hcl (RowsAt.below HR.out hB0 (Nat.le_refl _)) hrl).mono ?_
  rintro e w1 ⟨rfl, hk1⟩
  have hb1 := bstep hL0 hk1
  rw [hm]
  clear hB0 hk1 hL0
  obtain ⟨⟨c0, c1⟩, ⟨n0, n1, n2, n3, n4, n5, n6, n7, n8⟩, hz1, hB1⟩ := HBX.out w1 hb1
  go_upto_region 3 with fail
  go_cut [5] from 17 to 26 (fun s wx => s = .bool (Num.zeroW wn wd) ∧ wx = w1)
  case first =>
    by_cases e1 : ¬ wn = 0
    · have e1' : (wn == 0) = false := by simpa using e1
      go_wp2_with fail
      go_meet
      exact ⟨by unfold Num.zeroW; rw [e1']; rfl, rfl⟩
    obtain rfl : wn = 0 := by omega
    go_wp2_with fail
    go_meet
    exact ⟨by unfold Num.zeroW; simp, rfl⟩
  case rest =>
  obtain ⟨rfl, rfl⟩ := hcut
  go_wp2_with fail
  go_ret
  exact ⟨ret_bool HH.out.symm, hB1⟩

end Go.Proofs.YtipcbhodlgoflaaGreat
