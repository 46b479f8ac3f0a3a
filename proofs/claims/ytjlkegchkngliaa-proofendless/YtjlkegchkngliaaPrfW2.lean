/- What proof.priced and proof.covers do. -/
import Derived.Test.YtjlkegchkngliaaPrfW1
namespace Go.Proofs.Ytjlkegchkngliaa
open Go.RowKit

theorem Num.mosts_bd12 (p : Num.Lp) (hm : p.may = true) (m : Nat) : ∀ j : Nat, -12 ≤ (Num.mostsL p m)[j]?.getD 0 ∧ (Num.mostsL p m)[j]?.getD 0 ≤ 12 := by
  intro j
  unfold Num.mostsL
  rw [Num.range_getD]
  split
  · unfold Num.mostF
    by_cases hj : j < p.rows.length
    · exact (p.row_of hm j hj).2.2
    · rw [List.getElem?_eq_none (l := p.rows) (by omega)]; simp
  · omega

theorem Num.col_bd (p : Num.Lp) (hm : p.may = true) (m k : Nat) : ∀ j : Nat, -12 ≤ (Num.colL p m k)[j]?.getD 0 ∧ (Num.colL p m k)[j]?.getD 0 ≤ 12 := by
  intro j
  unfold Num.colL
  rw [Num.range_getD]
  split
  · exact Num.hasF_bd p hm k j
  · omega

theorem Num.priced_bd (p : Num.Lp) (hm : p.may = true) (m : Nat) (y : List Int) (h4 : m ≤ 4) (hy : ∀ j : Nat, -1073741824 ≤ y[j]?.getD 0 ∧ y[j]?.getD 0 ≤ 1073741824) : -51539607552 ≤ Num.pricedN p m y ∧ Num.pricedN p m y ≤ 51539607552 := by
  have := Num.dotN_bd (Num.mostsL p m) y 12 1073741824 (Num.mosts_bd12 p hm m) hy m
  unfold Num.pricedN
  omega

theorem Num.col_dot_bd (p : Num.Lp) (hm : p.may = true) (m k : Nat) (y : List Int) (h4 : m ≤ 4) (hy : ∀ j : Nat, -1073741824 ≤ y[j]?.getD 0 ∧ y[j]?.getD 0 ≤ 1073741824) : -51539607552 ≤ Num.dotN (Num.colL p m k) y m ∧ Num.dotN (Num.colL p m k) y m ≤ 51539607552 := by
  have := Num.dotN_bd (Num.colL p m k) y 12 1073741824 (Num.col_bd p hm m k) hy m
  omega

set_option maxHeartbeats 800000 in
theorem priced_any (ca : Option Addr) (cl cc : Nat) (ra : Option Addr) (m rc : Nat) (p : Num.Lp) (w : World) (hr : RowsAt w ra m p.rows) (hm : p.may = true)
    (ya : Option Addr) (yc : Nat) (y : List Int) (yd : Int) (hy : Ints w ya m y) (hyb : ∀ j : Nat, -1073741824 ≤ y[j]?.getD 0 ∧ y[j]?.getD 0 ≤ 1073741824) :
    Calls Try.prog 94 #[.agg #[.slice ca cl cc, .slice ra m rc], .agg #[.slice ya m yc, .int .i64 yd]] w fun e w' => e = .returned (.int .i64 (Num.pricedN p m y)) ∧ Below w.heap.size w w' := by
  have HR : Hid (RowsAt w ra m p.rows) := hr
  have HY : Hid (Ints w ya m y) := hy
  have HYB : Hid (∀ j : Nat, -1073741824 ≤ y[j]?.getD 0 ∧ y[j]?.getD 0 ≤ 1073741824) := hyb
  have HM : Hid (p.may = true) := hm
  have h4 : m ≤ 4 := by have := hr.1; have := (p.may_of hm).2.2.1.2; omega
  clear hr hy hm hyb
  have hL0 := box2_refl w (.slice ca cl cc) (.slice ra m rc) (.slice ya m yc) (.int .i64 yd) 40 29
  go_enter Try.func94, Try.ntmps94
  go_wp2_with fail
  generalize hV : (w.alloc (.cells #[.slice ca cl cc, .slice ra m rc] 40)).alloc (.cells #[.slice ya m yc, .int .i64 yd] 29) = V at *
  have HBX : Hid (∀ w', Below V.heap.size V w' → (w'.cell? ⟨w.heap.size, 0, none⟩ = some (.slice ca cl cc) ∧ w'.cell? ⟨w.heap.size, 1, none⟩ = some (.slice ra m rc)) ∧ (w'.cell? ⟨w.heap.size + 1, 0, none⟩ = some (.slice ya m yc) ∧ w'.cell? ⟨w.heap.size + 1, 1, none⟩ = some (.int .i64 yd)) ∧ w.heap.size + 1 < w'.heap.size ∧ Below w.heap.size w w') := by
    intro w' h; rw [← hV] at h; exact box2 h
  have hS0 : Below V.heap.size V V.drew := (Below.refl _ _).drew
  clear hV
  have q0 : ∀ w', Below V.heap.size V w' → w'.cell? ⟨w.heap.size, 0, none⟩ = some (.slice ca cl cc) := fun w' h => (HBX.out w' h).1.1
  have q1 : ∀ w', Below V.heap.size V w' → w'.cell? ⟨w.heap.size, 1, none⟩ = some (.slice ra m rc) := fun w' h => (HBX.out w' h).1.2
  have q2 : ∀ w', Below V.heap.size V w' → w'.cell? ⟨w.heap.size + 1, 0, none⟩ = some (.slice ya m yc) := fun w' h => (HBX.out w' h).2.1.1
  have KM : Hid (∀ w', Below V.heap.size V w' → Calls Try.prog 60 #[.agg #[.slice ca cl cc, .slice ra m rc]] w' fun e w'' => ∃ g, e = .returned (.slice (some ⟨g, 0, none⟩) m m) ∧ Below V.heap.size V w'' ∧ Ints w'' (some ⟨g, 0, none⟩) m (Num.mostsL p m)) := by
    intro w' h
    refine (mosts_any _ _ _ _ _ _ p w' (RowsAt.below HR.out (HBX.out w' h).2.2.2 (Nat.le_refl _)) h4).mono ?_
    rintro e w'' ⟨g, rfl, _, hl, hb⟩
    exact ⟨g, rfl, bstep h hb, hl⟩
  have KT : Hid (∀ w' g, Below V.heap.size V w' → Ints w' (some ⟨g, 0, none⟩) m (Num.mostsL p m) → Calls Try.prog 52 #[.slice (some ⟨g, 0, none⟩) m m, .slice ya m yc] w' fun e w'' => e = .returned (.int .i64 (Num.pricedN p m y)) ∧ Below V.heap.size V w'') := by
    intro w' g h hi
    exact (below_of_drew (together_any _ _ _ _ _ _ (Num.mostsL p m) y w' 12 1073741824 hi (Ints.below HY.out (HBX.out w' h).2.2.2 (Nat.le_refl _)) rfl (by omega) (Num.mosts_bd12 p HM.out m) HYB.out (by omega))).mono fun _ _ k => ⟨k.1, bstep h k.2⟩
  clear hL0
  go_region_held3 (fun w' => Below V.heap.size V w') (first | assumption)
    (first | (go_at_call 60; refine (KM.out _ ?_).mono ?_; assumption; rintro e v1 ⟨g1, rfl, hb1, hI1⟩)
           | (go_at_call 52; refine (KT.out _ _ ?_ hI1).mono ?_; assumption; rintro e v2 ⟨rfl, hb2⟩))
  have hB2 := (HBX.out _ hb2).2.2.2
  clear q0 q1 q2 KM KT hS0 hb1 hb2 hI1
  go_wp2_with fail
  go_ret
  exact ⟨rfl, hB2⟩

theorem Num.range_all_succ (f : Nat → Bool) (k : Nat) : (List.range (k + 1)).all f = ((List.range k).all f && f k) := by
  rw [List.range_succ, List.all_append]; simp

theorem Num.range_all_false (f : Nat → Bool) (n k : Nat) (hk : k < n) (hf : f k = false) : (List.range n).all f = false := by
  rw [List.all_eq_false]
  exact ⟨k, by simpa using hk, by simp [hf]⟩

theorem Num.point_len (m : Nat) (y : List Int) (yd : Int) (h : y.length ≠ m) : Num.pointB m y yd = false := by
  unfold Num.pointB
  have : (y.length == m) = false := by simpa using h
  rw [this]; rfl

theorem Num.covers_no (p : Num.Lp) (m : Nat) (y : List Int) (yd : Int) (c : List Int) (h : Num.pointB m y yd = false) : Num.coversB p m y yd c = false := by unfold Num.coversB; rw [h]; rfl
theorem Num.covers_all (p : Num.Lp) (m : Nat) (y : List Int) (yd : Int) (c : List Int) (h : Num.pointB m y yd = true) : Num.coversB p m y yd c = (List.range c.length).all (Num.costB p m y yd c) := by unfold Num.coversB; rw [h]; rfl

set_option maxHeartbeats 1600000 in
theorem covers_any (ca : Option Addr) (cl cc : Nat) (ra : Option Addr) (m rc : Nat) (p : Num.Lp) (w : World) (hr : RowsAt w ra m p.rows) (hm : p.may = true)
    (ya : Option Addr) (yl yc : Nat) (y : List Int) (yd : Int) (hy : Ints w ya yl y) (hyl : yl ≤ 9223372036854775807) (wa : Option Addr) (wl wc : Nat) (c : List Int) (hw : Ints w wa wl c) (hw4 : wl ≤ 4) (hcb : ∀ j : Nat, -400 ≤ c[j]?.getD 0 ∧ c[j]?.getD 0 ≤ 400) :
    Calls Try.prog 93 #[.agg #[.slice ca cl cc, .slice ra m rc], .agg #[.slice ya yl yc, .int .i64 yd], .slice wa wl wc] w fun e w' => e = .returned (.bool (Num.coversB p m y yd c)) ∧ Below w.heap.size w w' := by
  have HR : Hid (RowsAt w ra m p.rows) := hr
  have HY : Hid (Ints w ya yl y) := hy
  have HYL : Hid (yl = y.length) := hy.1
  have HW : Hid (Ints w wa wl c) := hw
  have HWL : Hid (wl = c.length) := hw.1
  have HCB : Hid (∀ j : Nat, -400 ≤ c[j]?.getD 0 ∧ c[j]?.getD 0 ≤ 400) := hcb
  have HM : Hid (p.may = true) := hm
  have h4 : m ≤ 4 := by have := hr.1; have := (p.may_of hm).2.2.1.2; omega
  clear hr hy hm hw hcb
  have hL0 := box2_refl w (.slice ca cl cc) (.slice ra m rc) (.slice ya yl yc) (.int .i64 yd) 40 29
  have HB0 : Hid _ := (box2 hL0).2.2.2
  by_cases h1n : yl ≠ m
  · have h1' : ((yl : Int) == (m : Int)) = false := by simp; omega
    have HF : Hid (Num.coversB p m y yd c = false) := Num.covers_no p m y yd c (Num.point_len m y yd (by have := HYL.out; omega))
    go_enter Try.func93, Try.ntmps93
    go_wp2_with fail
    go_ret
    exact ⟨ret_bool HF.out.symm, HB0.out⟩
  obtain rfl : yl = m := by omega
  clear h1n
  cases h2 : Num.mayPB yd y with
  | false =>
    have HF : Hid (Num.coversB p yl y yd c = false) := Num.covers_no p yl y yd c (by unfold Num.pointB; rw [h2]; simp)
    go_enter Try.func93, Try.ntmps93
    go_wp2_with fail
    refine (fmayPoint_any yd _ _ _ y _ (Ints.below HY.out HB0.out (Nat.le_refl _)) hyl).mono ?_
    rintro e w1 ⟨rfl, hb1⟩
    rw [h2]
    go_wp2_with fail
    go_ret
    exact ⟨ret_bool HF.out.symm, (box2 (bstep hL0 hb1)).2.2.2⟩
  | true =>
    cases h3 : Num.anyNeg y with
    | true =>
      have HF : Hid (Num.coversB p yl y yd c = false) := Num.covers_no p yl y yd c (by unfold Num.pointB; rw [h3]; simp)
      go_enter Try.func93, Try.ntmps93
      go_wp2_with fail
      refine (fmayPoint_any yd _ _ _ y _ (Ints.below HY.out HB0.out (Nat.le_refl _)) hyl).mono ?_
      rintro e w1 ⟨rfl, hb1⟩
      rw [h2]
      obtain ⟨⟨c0, c1⟩, ⟨c2, c3⟩, hz, hB⟩ := box2 (bstep hL0 hb1)
      go_wp2_with fail
      refine (below_any _ _ _ y _ (Ints.below HY.out hB (Nat.le_refl _)) hyl).mono ?_
      rintro e w2 ⟨rfl, rfl⟩
      rw [h3]
      go_wp2_with fail
      go_ret
      exact ⟨ret_bool HF.out.symm, hB⟩
    | false =>
      have hp : Num.pointB yl y yd = true := by unfold Num.pointB; have := HYL.out; rw [h2, h3, this]; simp
      have HF : Hid (Num.coversB p yl y yd c = (List.range c.length).all (Num.costB p yl y yd c)) := Num.covers_all p yl y yd c hp
      obtain ⟨_, hyd, hyw, _, _⟩ := Num.point_of _ _ _ hp
      have HYB : Hid (∀ j : Nat, -1073741824 ≤ y[j]?.getD 0 ∧ y[j]?.getD 0 ≤ 1073741824) := Num.withinB_iff _ _ hyw (by omega)
      clear hp hyw
      go_enter Try.func93, Try.ntmps93
      go_wp2_with fail
      refine (fmayPoint_any yd _ _ _ y _ (Ints.below HY.out HB0.out (Nat.le_refl _)) hyl).mono ?_
      rintro e w1 ⟨rfl, hb1⟩
      rw [h2]
      have hL1 := bstep hL0 hb1
      obtain ⟨⟨c0, c1⟩, ⟨c2, c3⟩, hz, hB⟩ := box2 hL1
      go_wp2_with fail
      refine (below_any _ _ _ y _ (Ints.below HY.out hB (Nat.le_refl _)) hyl).mono ?_
      rintro e w2 ⟨rfl, rfl⟩
      rw [h3]
      go_wp2_with fail
      generalize hV : (w.alloc (.cells #[.slice ca cl cc, .slice ra yl rc] 40)).alloc (.cells #[.slice ya yl yc, .int .i64 yd] 29) = V at *
      have HBX : Hid (∀ w', Below V.heap.size V w' → (w'.cell? ⟨w.heap.size, 0, none⟩ = some (.slice ca cl cc) ∧ w'.cell? ⟨w.heap.size, 1, none⟩ = some (.slice ra yl rc)) ∧ (w'.cell? ⟨w.heap.size + 1, 0, none⟩ = some (.slice ya yl yc) ∧ w'.cell? ⟨w.heap.size + 1, 1, none⟩ = some (.int .i64 yd)) ∧ w.heap.size + 1 < w'.heap.size ∧ Below w.heap.size w w') := by
        intro w' h; rw [← hV] at h; exact box2 h
      clear hV hL0 hb1 c0 c1 c2 c3 hz hB HB0
      go_loopw [28] (fun i wr => ∃ k : Nat, k ≤ wl ∧ i = .int .i64 k ∧ (List.range k).all (Num.costB p yl y yd c) = true ∧ Below V.heap.size V wr) (fun i _ => wl - (intOf i).toNat)
      case atStart => exact ⟨0, Nat.zero_le _, rfl, rfl, hL1⟩
      case round =>
        obtain ⟨k, hk, rfl, hall, hbl⟩ := hrel
        have HALL : Hid _ := hall
        clear hall hL1
        by_cases hlt : k < wl
        · rcases (Ints.below HW.out (HBX.out _ hbl).2.2.2 (Nat.le_refl _)).2 with h | ⟨b, off, ha, hbs, hc⟩
          · omega
          have hck := hc k hlt
          clear hc
          have hcb := HCB.out k
          have hmul := Num.mul_bd2 _ _ 400 1073741824 hcb (by omega : -1073741824 ≤ yd ∧ yd ≤ 1073741824)
          have HK : Hid (Num.costB p yl y yd c k = decide (c[k]?.getD 0 * yd ≤ Num.dotN (Num.colL p yl k) y yl)) := rfl
          have hwr : wrap64 (c[k]?.getD 0 * yd) = c[k]?.getD 0 * yd := IntWalk.wrap64_in _ (by omega)
          have hwr2 : IntKind.i64.wrap (c[k]?.getD 0 * yd) = c[k]?.getD 0 * yd := by rw [IntWalk.i64_left]; exact hwr
          generalize c[k]?.getD 0 = x at hck hcb hmul HK hwr hwr2
          subst ha
          have q0 : ∀ w', Below wr.heap.size wr w' → w'.cell? ⟨w.heap.size, 0, none⟩ = some (.slice ca cl cc) := fun w' h => (HBX.out w' (bstep hbl h)).1.1
          have q1 : ∀ w', Below wr.heap.size wr w' → w'.cell? ⟨w.heap.size, 1, none⟩ = some (.slice ra yl rc) := fun w' h => (HBX.out w' (bstep hbl h)).1.2
          have q2 : ∀ w', Below wr.heap.size wr w' → w'.cell? ⟨w.heap.size + 1, 0, none⟩ = some (.slice ya yl yc) := fun w' h => (HBX.out w' (bstep hbl h)).2.1.1
          have q3 : ∀ w', Below wr.heap.size wr w' → w'.cell? ⟨w.heap.size + 1, 1, none⟩ = some (.int .i64 yd) := fun w' h => (HBX.out w' (bstep hbl h)).2.1.2
          have KC : Hid (∀ w', Below wr.heap.size wr w' → Calls Try.prog 88 #[.agg #[.slice ca cl cc, .slice ra yl rc], .int .i64 k] w' fun e w'' => ∃ g, e = .returned (.slice (some ⟨g, 0, none⟩) yl yl) ∧ Below wr.heap.size wr w'' ∧ Ints w'' (some ⟨g, 0, none⟩) yl (Num.colL p yl k)) := by
            intro w' h
            refine (column_any _ _ _ _ _ _ p w' (RowsAt.below HR.out (HBX.out w' (bstep hbl h)).2.2.2 (Nat.le_refl _)) HM.out k (by omega)).mono ?_
            rintro e w'' ⟨g, rfl, _, hi, hb⟩
            exact ⟨g, rfl, bstep h hb, hi⟩
          have KT : Hid (∀ w' g, Below wr.heap.size wr w' → Ints w' (some ⟨g, 0, none⟩) yl (Num.colL p yl k) → Calls Try.prog 52 #[.slice (some ⟨g, 0, none⟩) yl yl, .slice ya yl yc] w' fun e w'' => e = .returned (.int .i64 (Num.dotN (Num.colL p yl k) y yl)) ∧ Below wr.heap.size wr w'') := by
            intro w' g h hi
            exact (below_of_drew (together_any _ _ _ _ _ _ (Num.colL p yl k) y w' 12 1073741824 hi (Ints.below HY.out (HBX.out w' (bstep hbl h)).2.2.2 (Nat.le_refl _)) rfl (by omega) (Num.col_bd p HM.out yl k) HYB.out (by omega))).mono fun _ _ k => ⟨k.1, bstep h k.2⟩
          have hS0 : Below wr.heap.size wr wr.drew := (Below.refl _ _).drew
          generalize Num.dotN (Num.colL p yl k) y yl = D at HK KT
          go_wp2_with fail
          go_region_held3 (fun w' => Below wr.heap.size wr w') (first | assumption)
            (first | (go_at_call 88; refine (KC.out _ ?_).mono ?_; assumption; rintro e v1 ⟨g1, rfl, hb1, hI1⟩)
                   | (go_at_call 52; refine (KT.out _ _ ?_ hI1).mono ?_; assumption; rintro e v2 ⟨rfl, hb2⟩))
          have hbl2 := bstep hbl hb2
          clear q0 q1 q2 q3 KC KT hS0 hb1 hb2 hI1 hck
          by_cases hg : D < x * yd
          · go_wp2_with fail
            go_ret
            refine ⟨ret_bool ?_, (HBX.out _ hbl2).2.2.2⟩
            rw [HF.out]
            exact (Num.range_all_false _ _ k (by have := HWL.out; omega) (by rw [HK.out]; simp; omega)).symm
          · have hg' : decide (D < x * yd) = false := by simpa using hg
            go_wp2_with fail
            go_roundw
            case rel => exact ⟨k + 1, hlt, by go_num, by rw [Num.range_all_succ, HALL.out, HK.out]; simp; omega, hbl2⟩
            case measure => simp [intOf]; omega
        · have hke : k = c.length := by have := HWL.out; omega
          have hBf := (HBX.out _ hbl).2.2.2
          go_wp2_with fail
          go_ret
          refine ⟨ret_bool ?_, hBf⟩
          rw [HF.out, ← hke]
          exact HALL.out.symm

end Go.Proofs.Ytjlkegchkngliaa
