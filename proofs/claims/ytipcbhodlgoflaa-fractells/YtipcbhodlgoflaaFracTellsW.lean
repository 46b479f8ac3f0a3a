/- The walk of FracTells: for every slice of numbers, den and two fractions it answers true. -/
import Derived.Test.YtipcbhodlgoflaaBaseA
namespace Go.Proofs.Ytipcbhodlgoflaa.fracTells
open Go.RowKit

set_option maxHeartbeats 1600000 in
theorem walk_nil (a : Option Addr) (len cap : Nat) (l : List Int) (d an ad bn bd : Int) (w : World) (hi : Ints w a len l) (hreach : len * 8 ≤ 140737488351232) (hlen : ¬ 0 < len) (x y z : Int) (HM : Hid (Num.mk d d = (x, y, z))) (m : List Int) (py pz : Int) (HP : Hid (Num.pt l d = (m, py, pz))) :
    Calls Try.prog 3 #[.slice a len cap, .int .i64 d, .agg #[.int .i64 an, .int .i64 ad], .agg #[.int .i64 bn, .int .i64 bd]] w fun e w' => e = .returned (.bool true) ∧ Below w.heap.size w w' := by
  have HI : Hid _ := hi
  clear hi
  go_enter Try.func3, Try.ntmps3
  go_wp2_with fail
  refine (make_any _ _ _ _ _ _ HM.out).mono ?_
  rintro e w1 ⟨rfl, hb1⟩
  go_wp2_with fail
  refine (rmake_any _ _ _ _ _ _ HM.out).mono ?_
  rintro e w2 ⟨rfl, hb2⟩
  go_wp2_with fail
  have B0 : Below w.heap.size w w1 := below2 hb1
  have B2 : Below w.heap.size w w2 := bnext B0 hb2
  refine (point_any d _ _ _ l _ (by exact Ints.below HI.out (B2.alloc B2.size _) (Nat.le_refl _)) (by omega) _ _ _ HP.out).mono ?_
  rintro e w3 ⟨a3, n3, c3, rfl, hi3, hn3, hb3⟩
  have B3 : Below w.heap.size w w3 := bnext B2 hb3
  have HI3 : Hid _ := hi3
  clear hi3
  go_wp2_with fail
  refine (rpoint_any d _ _ _ l _ (by exact Ints.below HI.out (B3.alloc B3.size _) (Nat.le_refl _)) (by omega) _ _ _ HP.out).mono ?_
  rintro e w4 ⟨a4, n4, c4, rfl, hi4, hn4, hb4⟩
  have B4 : Below w.heap.size w w4 := bnext B3 hb4
  have HI4 : Hid _ := hi4
  clear hi4
  go_wp2_with fail
  have E1 := (bnext (bnext (bnext hb1 hb2) hb3) hb4).alloc (bnext (bnext (bnext hb1 hb2) hb3) hb4).size (.cells #[.slice a4 n4 c4, .int .i64 py] 29)
  have E2 := (bnext (bnext hb2 hb3) hb4).alloc (bnext (bnext hb2 hb3) hb4).size (.cells #[.slice a4 n4 c4, .int .i64 py] 29)
  have E3 := (bnext hb3 hb4).alloc (bnext hb3 hb4).size (.cells #[.slice a4 n4 c4, .int .i64 py] 29)
  have E4 := hb4.alloc hb4.size (.cells #[.slice a4 n4 c4, .int .i64 py] 29)
  have E5 := cell_new2 (w := w4) rfl (.slice a4 n4 c4) (.int .i64 py) 29
  have B5 := B4.alloc B4.size (.cells #[.slice a4 n4 c4, .int .i64 py] 29)
  have J3 : Hid _ := Ints.below (Ints.below HI3.out ((Below.refl _ _).alloc (Nat.le_refl _) (.cells #[.slice a3 n3 c3, .int .i64 py] 29)) (Nat.le_refl _)) E4 (Nat.le_refl _)
  have J4 : Hid _ := Ints.below HI4.out ((Below.refl _ _).alloc (Nat.le_refl _) (.cells #[.slice a4 n4 c4, .int .i64 py] 29)) (Nat.le_refl _)
  have Z5 : w4.heap.size < (w4.alloc (.cells #[.slice a4 n4 c4, .int .i64 py] 29)).heap.size := by simp
  have Z4 : w3.heap.size < (w4.alloc (.cells #[.slice a4 n4 c4, .int .i64 py] 29)).heap.size := by have := hb4.size; simp at this ⊢; omega
  have Z3 : w2.heap.size < (w4.alloc (.cells #[.slice a4 n4 c4, .int .i64 py] 29)).heap.size := by have := hb3.size; simp at this Z4 ⊢; omega
  have Z2 : w1.heap.size < (w4.alloc (.cells #[.slice a4 n4 c4, .int .i64 py] 29)).heap.size := by have := hb2.size; simp at this Z3 ⊢; omega
  have Z1 : w.heap.size + 1 < (w4.alloc (.cells #[.slice a4 n4 c4, .int .i64 py] 29)).heap.size := by have := hb1.size; simp at this Z2 ⊢; omega
  generalize w4.alloc (.cells #[.slice a4 n4 c4, .int .i64 py] 29) = V at *
  have q0 := later_cell (V := V) (p := ⟨w.heap.size, 0, none⟩) (v := .int .i64 an) (by rw [E1.cell (by simp; omega)]; go_simp) (by dsimp only; omega)
  have q1 := later_cell (V := V) (p := ⟨w.heap.size, 1, none⟩) (v := .int .i64 ad) (by rw [E1.cell (by simp; omega)]; go_simp) (by dsimp only; omega)
  have q2 := later_cell (V := V) (p := ⟨w.heap.size + 1, 0, none⟩) (v := .int .i64 bn) (by rw [E1.cell (by simp)]; exact (cell_new2 (by simp) _ _ _).1) (by dsimp only; omega)
  have q3 := later_cell (V := V) (p := ⟨w.heap.size + 1, 1, none⟩) (v := .int .i64 bd) (by rw [E1.cell (by simp)]; exact (cell_new2 (by simp) _ _ _).2) (by dsimp only; omega)
  have q4 := later_cell (V := V) (p := ⟨w1.heap.size, 0, none⟩) (v := .int .i64 x) (by rw [E2.cell (by simp)]; exact (cell_new2 rfl _ _ _).1) (by dsimp only; omega)
  have q5 := later_cell (V := V) (p := ⟨w1.heap.size, 1, none⟩) (v := .int .i64 y) (by rw [E2.cell (by simp)]; exact (cell_new2 rfl _ _ _).2) (by dsimp only; omega)
  have q6 := later_cell (V := V) (p := ⟨w2.heap.size, 0, none⟩) (v := .int .i64 x) (by rw [E3.cell (by simp)]; exact (cell_new2 rfl _ _ _).1) (by dsimp only; omega)
  have q7 := later_cell (V := V) (p := ⟨w2.heap.size, 1, none⟩) (v := .int .i64 y) (by rw [E3.cell (by simp)]; exact (cell_new2 rfl _ _ _).2) (by dsimp only; omega)
  have q8 := later_cell (V := V) (p := ⟨w3.heap.size, 0, none⟩) (v := .slice a3 n3 c3) (by rw [E4.cell (by simp)]; exact (cell_new2 rfl _ _ _).1) (by dsimp only; omega)
  have q9 := later_cell (V := V) (p := ⟨w3.heap.size, 1, none⟩) (v := .int .i64 py) (by rw [E4.cell (by simp)]; exact (cell_new2 rfl _ _ _).2) (by dsimp only; omega)
  have q10 := later_cell (V := V) (p := ⟨w4.heap.size, 0, none⟩) (v := .slice a4 n4 c4) E5.1 Z5
  have q11 := later_cell (V := V) (p := ⟨w4.heap.size, 1, none⟩) (v := .int .i64 py) E5.2 Z5
  clear E1 E2 E3 E4 E5 Z1 Z2 Z3 Z4 Z5 hb1 hb2 hb3 hb4 B0 B2 B3 B4
  have hne := later_some V
  have KS : Hid (∀ n : Later V, Calls Try.prog 18 #[.agg #[.slice a3 n3 c3, .int .i64 py], .agg #[.slice a4 n4 c4, .int .i64 py]] n.w fun e w' => e = .returned (.bool true) ∧ Below n.w.heap.size n.w w') := by
    intro n
    have := same_any a3 a4 n3 c3 n4 c4 m m py py n.w (Ints.below J3.out n.ok (Nat.le_refl _)) (Ints.below J4.out n.ok (Nat.le_refl _)) (by omega) (by omega)
    simpa using this
  have KM : Hid (∀ n : Later V, Calls Try.prog 19 #[.agg #[.int .i64 an, .int .i64 ad]] n.w fun e w' => e = .returned (.bool (Num.mayB ad [an])) ∧ Below n.w.heap.size n.w w') := fun n => may_any an ad n.w
  have KR : Hid (∀ n : Later V, Calls Try.prog 20 #[.agg #[.int .i64 an, .int .i64 ad]] n.w fun e w' => e = .returned (.bool (Num.mayB ad [an])) ∧ Below n.w.heap.size n.w w') := fun n => rmay_any an ad n.w
  refine wp_region_later (by kernel_rfl) (by kernel_rfl) ?_
  repeat (go_big_quiet_step ((first | (go_at_call 18; exact calls_later (KS.out _)) | (go_at_call 19; exact calls_later (KM.out _)) | (go_at_call 20; exact calls_later (KR.out _)))))
  refine wpQuiet_nil ?_
  rintro w5 ⟨n5, rfl⟩
  clear q4 q5 q6 q7 q8 q9 q10 q11 KS KM KR
  have p0 := q0 n5
  have p1 := q1 n5
  have p2 := q2 n5
  have p3 := q3 n5
  have HQ0 : Hid _ := q0
  have HQ1 : Hid _ := q1
  have HQ2 : Hid _ := q2
  have HQ3 : Hid _ := q3
  clear q0 q1 q2 q3
  go_wp2_with fail
  refine (rmay_any _ _ _).mono ?_
  rintro e w6 ⟨rfl, hb6⟩
  have L6 : Below V.heap.size V w6 := n5.ok.trans (hb6.mono n5.ok.size)
  have s0 : w6.cell? ⟨w.heap.size, 0, none⟩ = some (.int .i64 an) := HQ0.out ⟨w6, L6⟩
  have s1 : w6.cell? ⟨w.heap.size, 1, none⟩ = some (.int .i64 ad) := HQ1.out ⟨w6, L6⟩
  have s2 : w6.cell? ⟨w.heap.size + 1, 0, none⟩ = some (.int .i64 bn) := HQ2.out ⟨w6, L6⟩
  have s3 : w6.cell? ⟨w.heap.size + 1, 1, none⟩ = some (.int .i64 bd) := HQ3.out ⟨w6, L6⟩
  clear p0 p1 p2 p3 hb6
  cases hA : Num.mayB ad [an] with
  | false =>
    go_wp2_with fail
    refine (less_any _ _ _ _ _).mono ?_
    rintro e w7 ⟨rfl, hb7⟩
    rw [hA]
    go_wp2_with fail
    go_ret
    exact ⟨rfl, B5.trans ((L6.trans (hb7.mono L6.size)).mono B5.size)⟩
  | true =>
    go_wp2_with fail
    refine (rmay_any _ _ _).mono ?_
    rintro e w7 ⟨rfl, hb7⟩
    have L7 : Below V.heap.size V w7 := L6.trans (hb7.mono L6.size)
    have t0 : w7.cell? ⟨w.heap.size, 0, none⟩ = some (.int .i64 an) := HQ0.out ⟨w7, L7⟩
    have t1 : w7.cell? ⟨w.heap.size, 1, none⟩ = some (.int .i64 ad) := HQ1.out ⟨w7, L7⟩
    have t2 : w7.cell? ⟨w.heap.size + 1, 0, none⟩ = some (.int .i64 bn) := HQ2.out ⟨w7, L7⟩
    have t3 : w7.cell? ⟨w.heap.size + 1, 1, none⟩ = some (.int .i64 bd) := HQ3.out ⟨w7, L7⟩
    clear s0 s1 s2 s3 hb7
    cases hB : Num.mayB bd [bn] with
    | false =>
      go_wp2_with fail
      refine (less_any _ _ _ _ _).mono ?_
      rintro e w8 ⟨rfl, hb8⟩
      rw [hA, hB]
      go_wp2_with fail
      go_ret
      exact ⟨rfl, B5.trans ((L7.trans (hb8.mono L7.size)).mono B5.size)⟩
    | true =>
      have MA := Num.mayB_bd _ _ hA
      have MB := Num.mayB_bd _ _ hB
      rw [Num.withinB_one] at MA MB
      simp only [Bool.and_eq_true, decide_eq_true_eq] at MA MB
      have HA : Hid _ := hA
      have HB : Hid _ := hB
      go_wp2_with fail
      refine (less_any _ _ _ _ _).mono ?_
      rintro e w8 ⟨rfl, hb8⟩
      rw [HA.out, HB.out]
      have L8 : Below V.heap.size V w8 := L7.trans (hb8.mono L7.size)
      have v0 : w8.cell? ⟨w.heap.size, 0, none⟩ = some (.int .i64 an) := HQ0.out ⟨w8, L8⟩
      have v1 : w8.cell? ⟨w.heap.size, 1, none⟩ = some (.int .i64 ad) := HQ1.out ⟨w8, L8⟩
      have v2 : w8.cell? ⟨w.heap.size + 1, 0, none⟩ = some (.int .i64 bn) := HQ2.out ⟨w8, L8⟩
      have v3 : w8.cell? ⟨w.heap.size + 1, 1, none⟩ = some (.int .i64 bd) := HQ3.out ⟨w8, L8⟩
      clear t0 t1 t2 t3 hb8
      go_wp2_with fail
      refine (cmp_any _ _ _ _ _ (by omega) (by omega) (by omega) (by omega)).mono ?_
      rintro e w9 ⟨rfl, hb9⟩
      have hfin : decide (an * bd < bn * ad) = decide (an * bd - bn * ad < 0) := by
        generalize an * bd = p
        generalize bn * ad = q
        by_cases h : p < q
        · rw [decide_eq_true h, decide_eq_true (by omega)]
        · rw [decide_eq_false h, decide_eq_false (by omega)]
      rw [hfin]
      generalize an * bd - bn * ad = p
      clear hfin
      cases hp : decide (p < 0) with
      | true =>
        go_wp2_with fail
        go_ret
        exact ⟨by simp_all, B5.trans ((L8.trans (hb9.mono L8.size)).mono B5.size)⟩
      | false =>
        go_wp2_with fail
        go_ret
        exact ⟨by simp_all, B5.trans ((L8.trans (hb9.mono L8.size)).mono B5.size)⟩

set_option maxHeartbeats 1600000 in
theorem walk_some (b off len cap : Nat) (l : List Int) (d an ad bn bd : Int) (w : World) (hi : Ints w (some ⟨b, off, none⟩) len l) (hreach : len * 8 ≤ 140737488351232) (hlen : 0 < len) (n : Int) (hbs : b < w.heap.size) (hck : w.cell? ⟨b, off, none⟩ = some (.int .i64 n)) (x y z : Int) (HM : Hid (Num.mk n d = (x, y, z))) (m : List Int) (py pz : Int) (HP : Hid (Num.pt l d = (m, py, pz))) :
    Calls Try.prog 3 #[.slice (some ⟨b, off, none⟩) len cap, .int .i64 d, .agg #[.int .i64 an, .int .i64 ad], .agg #[.int .i64 bn, .int .i64 bd]] w fun e w' => e = .returned (.bool true) ∧ Below w.heap.size w w' := by
  have HI : Hid _ := hi
  clear hi
  go_enter Try.func3, Try.ntmps3
  go_wp2_with fail
  refine (make_any _ _ _ _ _ _ HM.out).mono ?_
  rintro e w1 ⟨rfl, hb1⟩
  go_wp2_with fail
  refine (rmake_any _ _ _ _ _ _ HM.out).mono ?_
  rintro e w2 ⟨rfl, hb2⟩
  go_wp2_with fail
  have B0 : Below w.heap.size w w1 := below2 hb1
  have B2 : Below w.heap.size w w2 := bnext B0 hb2
  refine (point_any d _ _ _ l _ (by exact Ints.below HI.out (B2.alloc B2.size _) (Nat.le_refl _)) (by omega) _ _ _ HP.out).mono ?_
  rintro e w3 ⟨a3, n3, c3, rfl, hi3, hn3, hb3⟩
  have B3 : Below w.heap.size w w3 := bnext B2 hb3
  have HI3 : Hid _ := hi3
  clear hi3
  go_wp2_with fail
  refine (rpoint_any d _ _ _ l _ (by exact Ints.below HI.out (B3.alloc B3.size _) (Nat.le_refl _)) (by omega) _ _ _ HP.out).mono ?_
  rintro e w4 ⟨a4, n4, c4, rfl, hi4, hn4, hb4⟩
  have B4 : Below w.heap.size w w4 := bnext B3 hb4
  have HI4 : Hid _ := hi4
  clear hi4
  go_wp2_with fail
  have E1 := (bnext (bnext (bnext hb1 hb2) hb3) hb4).alloc (bnext (bnext (bnext hb1 hb2) hb3) hb4).size (.cells #[.slice a4 n4 c4, .int .i64 py] 29)
  have E2 := (bnext (bnext hb2 hb3) hb4).alloc (bnext (bnext hb2 hb3) hb4).size (.cells #[.slice a4 n4 c4, .int .i64 py] 29)
  have E3 := (bnext hb3 hb4).alloc (bnext hb3 hb4).size (.cells #[.slice a4 n4 c4, .int .i64 py] 29)
  have E4 := hb4.alloc hb4.size (.cells #[.slice a4 n4 c4, .int .i64 py] 29)
  have E5 := cell_new2 (w := w4) rfl (.slice a4 n4 c4) (.int .i64 py) 29
  have B5 := B4.alloc B4.size (.cells #[.slice a4 n4 c4, .int .i64 py] 29)
  have J3 : Hid _ := Ints.below (Ints.below HI3.out ((Below.refl _ _).alloc (Nat.le_refl _) (.cells #[.slice a3 n3 c3, .int .i64 py] 29)) (Nat.le_refl _)) E4 (Nat.le_refl _)
  have J4 : Hid _ := Ints.below HI4.out ((Below.refl _ _).alloc (Nat.le_refl _) (.cells #[.slice a4 n4 c4, .int .i64 py] 29)) (Nat.le_refl _)
  have Z5 : w4.heap.size < (w4.alloc (.cells #[.slice a4 n4 c4, .int .i64 py] 29)).heap.size := by simp
  have Z4 : w3.heap.size < (w4.alloc (.cells #[.slice a4 n4 c4, .int .i64 py] 29)).heap.size := by have := hb4.size; simp at this ⊢; omega
  have Z3 : w2.heap.size < (w4.alloc (.cells #[.slice a4 n4 c4, .int .i64 py] 29)).heap.size := by have := hb3.size; simp at this Z4 ⊢; omega
  have Z2 : w1.heap.size < (w4.alloc (.cells #[.slice a4 n4 c4, .int .i64 py] 29)).heap.size := by have := hb2.size; simp at this Z3 ⊢; omega
  have Z1 : w.heap.size + 1 < (w4.alloc (.cells #[.slice a4 n4 c4, .int .i64 py] 29)).heap.size := by have := hb1.size; simp at this Z2 ⊢; omega
  generalize w4.alloc (.cells #[.slice a4 n4 c4, .int .i64 py] 29) = V at *
  have q0 := later_cell (V := V) (p := ⟨w.heap.size, 0, none⟩) (v := .int .i64 an) (by rw [E1.cell (by simp; omega)]; go_simp) (by dsimp only; omega)
  have q1 := later_cell (V := V) (p := ⟨w.heap.size, 1, none⟩) (v := .int .i64 ad) (by rw [E1.cell (by simp; omega)]; go_simp) (by dsimp only; omega)
  have q2 := later_cell (V := V) (p := ⟨w.heap.size + 1, 0, none⟩) (v := .int .i64 bn) (by rw [E1.cell (by simp)]; exact (cell_new2 (by simp) _ _ _).1) (by dsimp only; omega)
  have q3 := later_cell (V := V) (p := ⟨w.heap.size + 1, 1, none⟩) (v := .int .i64 bd) (by rw [E1.cell (by simp)]; exact (cell_new2 (by simp) _ _ _).2) (by dsimp only; omega)
  have q4 := later_cell (V := V) (p := ⟨w1.heap.size, 0, none⟩) (v := .int .i64 x) (by rw [E2.cell (by simp)]; exact (cell_new2 rfl _ _ _).1) (by dsimp only; omega)
  have q5 := later_cell (V := V) (p := ⟨w1.heap.size, 1, none⟩) (v := .int .i64 y) (by rw [E2.cell (by simp)]; exact (cell_new2 rfl _ _ _).2) (by dsimp only; omega)
  have q6 := later_cell (V := V) (p := ⟨w2.heap.size, 0, none⟩) (v := .int .i64 x) (by rw [E3.cell (by simp)]; exact (cell_new2 rfl _ _ _).1) (by dsimp only; omega)
  have q7 := later_cell (V := V) (p := ⟨w2.heap.size, 1, none⟩) (v := .int .i64 y) (by rw [E3.cell (by simp)]; exact (cell_new2 rfl _ _ _).2) (by dsimp only; omega)
  have q8 := later_cell (V := V) (p := ⟨w3.heap.size, 0, none⟩) (v := .slice a3 n3 c3) (by rw [E4.cell (by simp)]; exact (cell_new2 rfl _ _ _).1) (by dsimp only; omega)
  have q9 := later_cell (V := V) (p := ⟨w3.heap.size, 1, none⟩) (v := .int .i64 py) (by rw [E4.cell (by simp)]; exact (cell_new2 rfl _ _ _).2) (by dsimp only; omega)
  have q10 := later_cell (V := V) (p := ⟨w4.heap.size, 0, none⟩) (v := .slice a4 n4 c4) E5.1 Z5
  have q11 := later_cell (V := V) (p := ⟨w4.heap.size, 1, none⟩) (v := .int .i64 py) E5.2 Z5
  clear E1 E2 E3 E4 E5 Z1 Z2 Z3 Z4 Z5 hb1 hb2 hb3 hb4 B0 B2 B3 B4
  have hne := later_some V
  have KS : Hid (∀ n : Later V, Calls Try.prog 18 #[.agg #[.slice a3 n3 c3, .int .i64 py], .agg #[.slice a4 n4 c4, .int .i64 py]] n.w fun e w' => e = .returned (.bool true) ∧ Below n.w.heap.size n.w w') := by
    intro n
    have := same_any a3 a4 n3 c3 n4 c4 m m py py n.w (Ints.below J3.out n.ok (Nat.le_refl _)) (Ints.below J4.out n.ok (Nat.le_refl _)) (by omega) (by omega)
    simpa using this
  have KM : Hid (∀ n : Later V, Calls Try.prog 19 #[.agg #[.int .i64 an, .int .i64 ad]] n.w fun e w' => e = .returned (.bool (Num.mayB ad [an])) ∧ Below n.w.heap.size n.w w') := fun n => may_any an ad n.w
  have KR : Hid (∀ n : Later V, Calls Try.prog 20 #[.agg #[.int .i64 an, .int .i64 ad]] n.w fun e w' => e = .returned (.bool (Num.mayB ad [an])) ∧ Below n.w.heap.size n.w w') := fun n => rmay_any an ad n.w
  refine wp_region_later (by kernel_rfl) (by kernel_rfl) ?_
  repeat (go_big_quiet_step ((first | (go_at_call 18; exact calls_later (KS.out _)) | (go_at_call 19; exact calls_later (KM.out _)) | (go_at_call 20; exact calls_later (KR.out _)))))
  refine wpQuiet_nil ?_
  rintro w5 ⟨n5, rfl⟩
  clear q4 q5 q6 q7 q8 q9 q10 q11 KS KM KR
  have p0 := q0 n5
  have p1 := q1 n5
  have p2 := q2 n5
  have p3 := q3 n5
  have HQ0 : Hid _ := q0
  have HQ1 : Hid _ := q1
  have HQ2 : Hid _ := q2
  have HQ3 : Hid _ := q3
  clear q0 q1 q2 q3
  go_wp2_with fail
  refine (rmay_any _ _ _).mono ?_
  rintro e w6 ⟨rfl, hb6⟩
  have L6 : Below V.heap.size V w6 := n5.ok.trans (hb6.mono n5.ok.size)
  have s0 : w6.cell? ⟨w.heap.size, 0, none⟩ = some (.int .i64 an) := HQ0.out ⟨w6, L6⟩
  have s1 : w6.cell? ⟨w.heap.size, 1, none⟩ = some (.int .i64 ad) := HQ1.out ⟨w6, L6⟩
  have s2 : w6.cell? ⟨w.heap.size + 1, 0, none⟩ = some (.int .i64 bn) := HQ2.out ⟨w6, L6⟩
  have s3 : w6.cell? ⟨w.heap.size + 1, 1, none⟩ = some (.int .i64 bd) := HQ3.out ⟨w6, L6⟩
  clear p0 p1 p2 p3 hb6
  cases hA : Num.mayB ad [an] with
  | false =>
    go_wp2_with fail
    refine (less_any _ _ _ _ _).mono ?_
    rintro e w7 ⟨rfl, hb7⟩
    rw [hA]
    go_wp2_with fail
    go_ret
    exact ⟨rfl, B5.trans ((L6.trans (hb7.mono L6.size)).mono B5.size)⟩
  | true =>
    go_wp2_with fail
    refine (rmay_any _ _ _).mono ?_
    rintro e w7 ⟨rfl, hb7⟩
    have L7 : Below V.heap.size V w7 := L6.trans (hb7.mono L6.size)
    have t0 : w7.cell? ⟨w.heap.size, 0, none⟩ = some (.int .i64 an) := HQ0.out ⟨w7, L7⟩
    have t1 : w7.cell? ⟨w.heap.size, 1, none⟩ = some (.int .i64 ad) := HQ1.out ⟨w7, L7⟩
    have t2 : w7.cell? ⟨w.heap.size + 1, 0, none⟩ = some (.int .i64 bn) := HQ2.out ⟨w7, L7⟩
    have t3 : w7.cell? ⟨w.heap.size + 1, 1, none⟩ = some (.int .i64 bd) := HQ3.out ⟨w7, L7⟩
    clear s0 s1 s2 s3 hb7
    cases hB : Num.mayB bd [bn] with
    | false =>
      go_wp2_with fail
      refine (less_any _ _ _ _ _).mono ?_
      rintro e w8 ⟨rfl, hb8⟩
      rw [hA, hB]
      go_wp2_with fail
      go_ret
      exact ⟨rfl, B5.trans ((L7.trans (hb8.mono L7.size)).mono B5.size)⟩
    | true =>
      have MA := Num.mayB_bd _ _ hA
      have MB := Num.mayB_bd _ _ hB
      rw [Num.withinB_one] at MA MB
      simp only [Bool.and_eq_true, decide_eq_true_eq] at MA MB
      have HA : Hid _ := hA
      have HB : Hid _ := hB
      go_wp2_with fail
      refine (less_any _ _ _ _ _).mono ?_
      rintro e w8 ⟨rfl, hb8⟩
      rw [HA.out, HB.out]
      have L8 : Below V.heap.size V w8 := L7.trans (hb8.mono L7.size)
      have v0 : w8.cell? ⟨w.heap.size, 0, none⟩ = some (.int .i64 an) := HQ0.out ⟨w8, L8⟩
      have v1 : w8.cell? ⟨w.heap.size, 1, none⟩ = some (.int .i64 ad) := HQ1.out ⟨w8, L8⟩
      have v2 : w8.cell? ⟨w.heap.size + 1, 0, none⟩ = some (.int .i64 bn) := HQ2.out ⟨w8, L8⟩
      have v3 : w8.cell? ⟨w.heap.size + 1, 1, none⟩ = some (.int .i64 bd) := HQ3.out ⟨w8, L8⟩
      clear t0 t1 t2 t3 hb8
      go_wp2_with fail
      refine (cmp_any _ _ _ _ _ (by omega) (by omega) (by omega) (by omega)).mono ?_
      rintro e w9 ⟨rfl, hb9⟩
      have hfin : decide (an * bd < bn * ad) = decide (an * bd - bn * ad < 0) := by
        generalize an * bd = p
        generalize bn * ad = q
        by_cases h : p < q
        · rw [decide_eq_true h, decide_eq_true (by omega)]
        · rw [decide_eq_false h, decide_eq_false (by omega)]
      rw [hfin]
      generalize an * bd - bn * ad = p
      clear hfin
      cases hp : decide (p < 0) with
      | true =>
        go_wp2_with fail
        go_ret
        exact ⟨by simp_all, B5.trans ((L8.trans (hb9.mono L8.size)).mono B5.size)⟩
      | false =>
        go_wp2_with fail
        go_ret
        exact ⟨by simp_all, B5.trans ((L8.trans (hb9.mono L8.size)).mono B5.size)⟩

theorem walk (a : Option Addr) (len cap : Nat) (l : List Int) (d an ad bn bd : Int) (w : World) (hi : Ints w a len l) (hreach : len * 8 ≤ 140737488351232) :
    Calls Try.prog 3 #[.slice a len cap, .int .i64 d, .agg #[.int .i64 an, .int .i64 ad], .agg #[.int .i64 bn, .int .i64 bd]] w fun e w' => e = .returned (.bool true) ∧ Below w.heap.size w w' := by
  obtain ⟨⟨m, py, pz⟩, hp⟩ : ∃ r, Num.pt l d = r := ⟨_, rfl⟩
  by_cases hlen : 0 < len
  · have hi' := hi
    rcases hi'.2 with h | ⟨b, off, ha, hbs, hc⟩
    · omega
    · subst ha
      obtain ⟨⟨x, y, z⟩, hm⟩ : ∃ r, Num.mk (l[0]?.getD 0) d = r := ⟨_, rfl⟩
      exact walk_some b off len cap l d an ad bn bd w hi hreach hlen _ hbs (hc 0 hlen) x y z hm m py pz hp
  · obtain ⟨⟨x, y, z⟩, hm⟩ : ∃ r, Num.mk d d = r := ⟨_, rfl⟩
    exact walk_nil a len cap l d an ad bn bd w hi hreach hlen x y z hm m py pz hp

end Go.Proofs.Ytipcbhodlgoflaa.fracTells
