/- The walk of SolveHolds: for every program it answers true. -/
import Derived.Test.YtipcbhodlgoflaaGreatSlvW7
import Derived.Test.YtipcbhodlgoflaaGreatKnd3
import Derived.Test.YtipcbhodlgoflaaGreatProofTellsW
namespace Go.Proofs.YtipcbhodlgoflaaGreat.solveHolds
open Go.RowKit

set_option maxRecDepth 4000 in
set_option maxHeartbeats 1600000 in
theorem walk (ca : Option Addr) (cl cc : Nat) (ra : Option Addr) (rl rc : Nat) (p : Num.Lp) (w : World) (hc : Ints w ca cl p.costs) (hcl : cl ≤ 9223372036854775807) (hr : RowsAt w ra rl p.rows) (hrl : rl ≤ 9223372036854775807) :
    Calls Tryz.prog 3 #[.agg #[.slice ca cl cc, .slice ra rl rc]] w fun e w' => e = .returned (.bool true) ∧ Below w.heap.size w w' := by
  have HC : Hid (Ints w ca cl p.costs) := hc
  have HR : Hid (RowsAt w ra rl p.rows) := hr
  clear hc hr
  generalize hV : w.alloc (.cells #[.slice ca cl cc, .slice ra rl rc] 25) = V
  have HV : Hid (∀ w1, Below V.heap.size V w1 → (w1.cell? ⟨w.heap.size, 0, none⟩ = some (.slice ca cl cc) ∧ w1.cell? ⟨w.heap.size, 1, none⟩ = some (.slice ra rl rc)) ∧ w.heap.size < w1.heap.size ∧ Below w.heap.size w w1) := by
    intro w1 hb
    rw [← hV] at hb
    exact ⟨(kept2 hb).1, by have := hb.size; simp at this; omega, binto hb⟩
  obtain ⟨⟨i0, i1⟩, _, hB0⟩ := HV.out V (Below.refl _ _)
  go_enter Tryz.func3, Tryz.ntmps3
  go_wp2_with fail
  refine (solve_any ca cl cc ra rl rc p V (Ints.below HC.out hB0 (Nat.le_refl _)) hcl (RowsAt.below HR.out hB0 (Nat.le_refl _)) hrl).mono ?_
  rintro e w1 ⟨hb1, hcase⟩
  clear hV i0 i1 hB0
  rcases hcase with ⟨hm, rfl⟩ | ⟨hm, a, xa, xl, xc, ya, yl, yc, za, zl, zc, rfl, hA, hh⟩
  · have hbA := balloc w1 (.cells #[.int .i64 0, .slice none 0 0, .int .i64 0, .slice none 0 0, .int .i64 0, .slice none 0 0, .int .i64 0, .int .i64 0, .int .i64 0] 31)
    have hN := Box9.new w1 (.int .i64 0) (.slice none 0 0) (.int .i64 0) (.slice none 0 0) (.int .i64 0) (.slice none 0 0) (.int .i64 0) (.int .i64 0) (.int .i64 0) 31
    have hbW := bstep hb1 hbA
    go_upto_region 2 with fail
    generalize w1.alloc (.cells #[.int .i64 0, .slice none 0 0, .int .i64 0, .slice none 0 0, .int .i64 0, .slice none 0 0, .int .i64 0, .int .i64 0, .int .i64 0] 31) = W at *
    generalize w1.heap.size = b9 at *
    clear hb1 hbA
    obtain ⟨⟨i0, i1⟩, hz, hB⟩ := HV.out W hbW
    go_wp2_with fail
    refine (r2may_any ca cl cc ra rl rc p W (Ints.below HC.out hB (Nat.le_refl _)) hcl (RowsAt.below HR.out hB (Nat.le_refl _)) hrl).mono ?_
    rintro e w2 ⟨rfl, hb2⟩
    rw [hm]
    obtain ⟨n0, n1, n2, n3, n4, n5, n6, n7, n8, _⟩ := hN
    replace n0 := carry hb2 n0
    replace n1 := carry hb2 n1
    replace n3 := carry hb2 n3
    replace n5 := carry hb2 n5
    go_wp2_with fail
    go_ret
    exact ⟨rfl, bstep hB hb2⟩
  · have hbA := balloc w1 (.cells #[.int .i64 a.kind, .slice xa xl xc, .int .i64 a.xd, .slice ya yl yc, .int .i64 a.yd, .slice za zl zc, .int .i64 a.rd, .int .i64 a.wn, .int .i64 a.wd] 31)
    have hN := Box9.new w1 (.int .i64 a.kind) (.slice xa xl xc) (.int .i64 a.xd) (.slice ya yl yc) (.int .i64 a.yd) (.slice za zl zc) (.int .i64 a.rd) (.int .i64 a.wn) (.int .i64 a.wd) 31
    have HIX : Hid (Ints (w1.alloc (.cells #[.int .i64 a.kind, .slice xa xl xc, .int .i64 a.xd, .slice ya yl yc, .int .i64 a.yd, .slice za zl zc, .int .i64 a.rd, .int .i64 a.wn, .int .i64 a.wd] 31)) xa xl a.x) := Ints.below hA.x hbA (Nat.le_refl _)
    have HIY : Hid (Ints (w1.alloc (.cells #[.int .i64 a.kind, .slice xa xl xc, .int .i64 a.xd, .slice ya yl yc, .int .i64 a.yd, .slice za zl zc, .int .i64 a.rd, .int .i64 a.wn, .int .i64 a.wd] 31)) ya yl a.y) := Ints.below hA.y hbA (Nat.le_refl _)
    have HIZ : Hid (Ints (w1.alloc (.cells #[.int .i64 a.kind, .slice xa xl xc, .int .i64 a.xd, .slice ya yl yc, .int .i64 a.yd, .slice za zl zc, .int .i64 a.rd, .int .i64 a.wn, .int .i64 a.wd] 31)) za zl a.r) := Ints.below hA.r hbA (Nat.le_refl _)
    have hx8 := hA.x8
    have hy8 := hA.y8
    have hz8 := hA.z8
    have hbW := bstep hb1 hbA
    go_upto_region 2 with fail
    generalize w1.alloc (.cells #[.int .i64 a.kind, .slice xa xl xc, .int .i64 a.xd, .slice ya yl yc, .int .i64 a.yd, .slice za zl zc, .int .i64 a.rd, .int .i64 a.wn, .int .i64 a.wd] 31) = W at *
    generalize w1.heap.size = b9 at *
    clear hb1 hA hbA
    obtain ⟨⟨i0, i1⟩, hz, hB⟩ := HV.out W hbW
    go_wp2_with fail
    refine (r2may_any ca cl cc ra rl rc p W (Ints.below HC.out hB (Nat.le_refl _)) hcl (RowsAt.below HR.out hB (Nat.le_refl _)) hrl).mono ?_
    rintro e w2 ⟨rfl, hb2⟩
    rw [hm]
    have hbV2 := bstep hbW hb2
    obtain ⟨n0, n1, n2, n3, n4, n5, n6, n7, n8, _⟩ := hN
    replace n0 := carry hb2 n0
    replace n1 := carry hb2 n1
    replace n2 := carry hb2 n2
    replace n3 := carry hb2 n3
    replace n4 := carry hb2 n4
    replace n5 := carry hb2 n5
    replace n6 := carry hb2 n6
    replace n7 := carry hb2 n7
    replace n8 := carry hb2 n8
    have HIX2 : Hid (Ints w2 xa xl a.x) := Ints.below HIX.out hb2 (Nat.le_refl _)
    have HIY2 : Hid (Ints w2 ya yl a.y) := Ints.below HIY.out hb2 (Nat.le_refl _)
    have HIZ2 : Hid (Ints w2 za zl a.r) := Ints.below HIZ.out hb2 (Nat.le_refl _)
    clear i0 i1 hz hB HIX HIY HIZ
    obtain ⟨⟨i0, i1⟩, hz, hB⟩ := HV.out w2 hbV2
    have HKD : Hid (a.kind = Num.kindN p) := Num.holds_kindN p a hh
    have KH : Hid (∀ w', Below w2.heap.size w2 w' → Calls Tryz.prog 6 #[.agg #[.slice ca cl cc, .slice ra rl rc], ansV a xa xl xc ya yl yc za zl zc] w' fun e w'' => e = .returned (.bool true) ∧ Below w2.heap.size w2 w'') := by
      intro w' h
      refine (rholds_any ca cl cc ra rl rc p w' (Ints.below HC.out (bstep hB h) (Nat.le_refl _)) hcl (RowsAt.below HR.out (bstep hB h) (Nat.le_refl _)) hrl a xa xl xc ya yl yc za zl zc (Ints.below HIX2.out h (Nat.le_refl _)) (by omega) (Ints.below HIY2.out h (Nat.le_refl _)) (by omega) (Ints.below HIZ2.out h (Nat.le_refl _)) (by omega)).mono ?_
      rintro e w'' ⟨rfl, hb⟩
      exact ⟨by rw [hh], bstep h hb⟩
    have KK : Hid (∀ w', Below w2.heap.size w2 w' → Calls Tryz.prog 7 #[.agg #[.slice ca cl cc, .slice ra rl rc]] w' fun e w'' => e = .returned (.int .i64 a.kind) ∧ Below w2.heap.size w2 w'') := by
      intro w' h
      refine (kind_any ca cl cc ra rl rc p w' (Ints.below HC.out (bstep hB h) (Nat.le_refl _)) (RowsAt.below HR.out (bstep hB h) (Nat.le_refl _)) hm).mono ?_
      rintro e w'' ⟨rfl, hb⟩
      exact ⟨by rw [HKD.out], bstep h hb⟩
    have q0 : ∀ w', Below w2.heap.size w2 w' → w'.cell? ⟨w.heap.size, 0, none⟩ = some (.slice ca cl cc) := fun w' h => carry h i0
    have q1 : ∀ w', Below w2.heap.size w2 w' → w'.cell? ⟨w.heap.size, 1, none⟩ = some (.slice ra rl rc) := fun w' h => carry h i1
    have r0 : ∀ w', Below w2.heap.size w2 w' → w'.cell? ⟨b9, 0, none⟩ = some (.int .i64 a.kind) := fun w' h => carry h n0
    have r1 : ∀ w', Below w2.heap.size w2 w' → w'.cell? ⟨b9, 1, none⟩ = some (.slice xa xl xc) := fun w' h => carry h n1
    have r2 : ∀ w', Below w2.heap.size w2 w' → w'.cell? ⟨b9, 2, none⟩ = some (.int .i64 a.xd) := fun w' h => carry h n2
    have r3 : ∀ w', Below w2.heap.size w2 w' → w'.cell? ⟨b9, 3, none⟩ = some (.slice ya yl yc) := fun w' h => carry h n3
    have r4 : ∀ w', Below w2.heap.size w2 w' → w'.cell? ⟨b9, 4, none⟩ = some (.int .i64 a.yd) := fun w' h => carry h n4
    have r5 : ∀ w', Below w2.heap.size w2 w' → w'.cell? ⟨b9, 5, none⟩ = some (.slice za zl zc) := fun w' h => carry h n5
    have r6 : ∀ w', Below w2.heap.size w2 w' → w'.cell? ⟨b9, 6, none⟩ = some (.int .i64 a.rd) := fun w' h => carry h n6
    have r7 : ∀ w', Below w2.heap.size w2 w' → w'.cell? ⟨b9, 7, none⟩ = some (.int .i64 a.wn) := fun w' h => carry h n7
    have r8 : ∀ w', Below w2.heap.size w2 w' → w'.cell? ⟨b9, 8, none⟩ = some (.int .i64 a.wd) := fun w' h => carry h n8
    clear n0 n1 n2 n3 n4 n5 n6 n7 n8 i0 i1 hh hm
    go_upto_region 4 with fail
    go_region_held3 (fun w' => Below w2.heap.size w2 w') (first | (with_reducible assumption) | (with_reducible exact (Below.refl _ _).drew))
      (first | (go_at_call 6; refine Calls.mono (KH.out _ ?_) ?_; (first | (with_reducible assumption) | (with_reducible exact (Below.refl _ _).drew)); rintro e v1 ⟨rfl, hb1⟩)
             | (go_at_call 7; refine Calls.mono (KK.out _ ?_) ?_; (first | (with_reducible assumption) | (with_reducible exact (Below.refl _ _).drew)); rintro e v2 ⟨rfl, hb2'⟩))
    clear q0 q1 r0 r1 r2 r3 r4 r5 r6 r7 r8 KH KK
    go_wp2_with fail
    go_ret
    exact ⟨rfl, bstep hB hb2'⟩

end Go.Proofs.YtipcbhodlgoflaaGreat.solveHolds
