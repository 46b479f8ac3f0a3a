/- The walk of SolveBest: for every program and point it answers true. -/
import Derived.Test.YtipcbhodlgoflaaSlvW7
import Derived.Test.YtipcbhodlgoflaaPrfN
namespace Go.Proofs.Ytipcbhodlgoflaa.solveBest
open Go.RowKit

set_option maxRecDepth 4000 in
set_option maxHeartbeats 1600000 in
theorem walk (ca : Option Addr) (cl cc : Nat) (ra : Option Addr) (rl rc : Nat) (p : Num.Lp) (w : World) (hc : Ints w ca cl p.costs) (hcl : cl ≤ 9223372036854775807) (hr : RowsAt w ra rl p.rows) (hrl : rl ≤ 9223372036854775807)
    (ta : Option Addr) (tl tc : Nat) (t : List Int) (td : Int) (ht : Ints w ta tl t) (htl : tl ≤ 9223372036854775807) :
    Calls Try.prog 13 #[.agg #[.slice ca cl cc, .slice ra rl rc], .agg #[.slice ta tl tc, .int .i64 td]] w fun e w' => e = .returned (.bool true) ∧ Below w.heap.size w w' := by
  have HC : Hid (Ints w ca cl p.costs) := hc
  have HR : Hid (RowsAt w ra rl p.rows) := hr
  have HT : Hid (Ints w ta tl t) := ht
  have HCL : Hid (cl = p.costs.length) := hc.1
  have HTL : Hid (tl = t.length) := ht.1
  clear hc hr ht
  generalize hV : (w.alloc (.cells #[.slice ca cl cc, .slice ra rl rc] 40)).alloc (.cells #[.slice ta tl tc, .int .i64 td] 29) = V
  have HV : Hid (∀ w1, Below V.heap.size V w1 → (w1.cell? ⟨w.heap.size, 0, none⟩ = some (.slice ca cl cc) ∧ w1.cell? ⟨w.heap.size, 1, none⟩ = some (.slice ra rl rc)) ∧ (w1.cell? ⟨w.heap.size + 1, 0, none⟩ = some (.slice ta tl tc) ∧ w1.cell? ⟨w.heap.size + 1, 1, none⟩ = some (.int .i64 td)) ∧ w.heap.size + 1 < w1.heap.size ∧ Below w.heap.size w w1) := by
    intro w1 hb
    rw [← hV] at hb
    have h := box22 hb
    exact ⟨h.1, h.2.1, h.2.2.2⟩
  obtain ⟨⟨i0, i1⟩, _, _, hB0⟩ := HV.out V (Below.refl _ _)
  go_enter Try.func13, Try.ntmps13
  go_wp2_with fail
  refine (solve_any ca cl cc ra rl rc p V (Ints.below HC.out hB0 (Nat.le_refl _)) hcl (RowsAt.below HR.out hB0 (Nat.le_refl _)) hrl).mono ?_
  rintro e w1 ⟨hb1, hcase⟩
  clear hV i0 i1 hB0
  rcases hcase with ⟨hm, rfl⟩ | ⟨hm, a, xa, xl, xc, ya, yl, yc, za, zl, zc, rfl, hA, hh⟩
  · have hbW := bstep hb1 (balloc w1 (.cells #[.int .i64 0, .slice none 0 0, .int .i64 0, .slice none 0 0, .int .i64 0, .slice none 0 0, .int .i64 0, .int .i64 0, .int .i64 0] 57))
    obtain ⟨⟨i0, i1⟩, _, hz, hB⟩ := HV.out w1 hb1
    have hB2 := (HV.out _ hbW).2.2.2
    have hz0 : w.heap.size < w1.heap.size := by omega
    go_wp2_with fail
    refine (lmay_any ca cl cc ra rl rc p _ (Ints.below HC.out hB2 (Nat.le_refl _)) hcl (RowsAt.below HR.out hB2 (Nat.le_refl _)) hrl).mono ?_
    rintro e w2 ⟨rfl, hb2⟩
    rw [hm]
    go_wp2_with fail
    go_ret
    exact ⟨rfl, bstep hB2 hb2⟩
  · have hbA := balloc w1 (.cells #[.int .i64 a.kind, .slice xa xl xc, .int .i64 a.xd, .slice ya yl yc, .int .i64 a.yd, .slice za zl zc, .int .i64 a.rd, .int .i64 a.wn, .int .i64 a.wd] 57)
    have hN := Box9.new w1 (.int .i64 a.kind) (.slice xa xl xc) (.int .i64 a.xd) (.slice ya yl yc) (.int .i64 a.yd) (.slice za zl zc) (.int .i64 a.rd) (.int .i64 a.wn) (.int .i64 a.wd) 57
    have HIX : Hid (Ints (w1.alloc (.cells #[.int .i64 a.kind, .slice xa xl xc, .int .i64 a.xd, .slice ya yl yc, .int .i64 a.yd, .slice za zl zc, .int .i64 a.rd, .int .i64 a.wn, .int .i64 a.wd] 57)) xa xl a.x) := Ints.below hA.x hbA (Nat.le_refl _)
    have HIY : Hid (Ints (w1.alloc (.cells #[.int .i64 a.kind, .slice xa xl xc, .int .i64 a.xd, .slice ya yl yc, .int .i64 a.yd, .slice za zl zc, .int .i64 a.rd, .int .i64 a.wn, .int .i64 a.wd] 57)) ya yl a.y) := Ints.below hA.y hbA (Nat.le_refl _)
    have HIZ : Hid (Ints (w1.alloc (.cells #[.int .i64 a.kind, .slice xa xl xc, .int .i64 a.xd, .slice ya yl yc, .int .i64 a.yd, .slice za zl zc, .int .i64 a.rd, .int .i64 a.wn, .int .i64 a.wd] 57)) za zl a.r) := Ints.below hA.r hbA (Nat.le_refl _)
    have hx8 := hA.x8
    have hy8 := hA.y8
    have hz8 := hA.z8
    have hbW := bstep hb1 hbA
    go_upto_region 4 with fail
    generalize w1.alloc (.cells #[.int .i64 a.kind, .slice xa xl xc, .int .i64 a.xd, .slice ya yl yc, .int .i64 a.yd, .slice za zl zc, .int .i64 a.rd, .int .i64 a.wn, .int .i64 a.wd] 57) = W at *
    generalize w1.heap.size = b9 at *
    clear hb1 hA hbA
    obtain ⟨⟨i0, i1⟩, ⟨i2, i3⟩, hz, hB⟩ := HV.out W hbW
    have KH : Hid (Calls Try.prog 34 #[.agg #[.slice ca cl cc, .slice ra rl rc], ansV a xa xl xc ya yl yc za zl zc] W fun e w' => e = .returned (.bool (Num.holds p a)) ∧ Below W.heap.size W w') :=
      holds_any ca cl cc ra rl rc p W (Ints.below HC.out hB (Nat.le_refl _)) hcl (RowsAt.below HR.out hB (Nat.le_refl _)) hrl a xa xl xc ya yl yc za zl zc HIX.out (by omega) HIY.out (by omega) HIZ.out (by omega)
    rw [hh] at KH
    have HH : Hid (Num.holds p a = true) := hh
    obtain ⟨n0, n1, n2, n3, n4, n5, n6, n7, n8, _⟩ := hN
    have hkind : a.kind = 1 ∨ a.kind = 2 ∨ a.kind = 3 := by
      by_cases k1 : a.kind = 1
      · exact Or.inl k1
      by_cases k2 : a.kind = 2
      · exact Or.inr (Or.inl k2)
      by_cases k3 : a.kind = 3
      · exact Or.inr (Or.inr k3)
      rw [Num.holds_none p a k1 k2 k3] at hh
      cases hh
    have HM : Hid (p.may = true) := hm
    clear hh hm
    obtain ⟨⟨u, v, z⟩, hwt⟩ : ∃ q, Num.worth p t td = q := ⟨_, rfl⟩
    have HWT : Hid (Num.worth p t td = (u, v, z)) := hwt
    clear hwt
    go_wp2_with fail
    refine KH.out.mono ?_
    rintro e w2 ⟨rfl, hb2⟩
    have hbV2 := bstep hbW hb2
    replace n0 := carry hb2 n0
    have n7' := carry hb2 n7
    have n8' := carry hb2 n8
    clear i0 i1 i2 i3 n1 n2 n3 n4 n5 n6 n7 n8 KH hB hz HIX HIY HIZ
    obtain ⟨⟨i0, i1⟩, ⟨i2, i3⟩, hz, hB⟩ := HV.out w2 hbV2
    go_wp2_with fail
    refine (goes_any ca cl cc ra rl rc p w2 (Ints.below HC.out hB (Nat.le_refl _)) hcl (RowsAt.below HR.out hB (Nat.le_refl _)) hrl ta tl tc t td (Ints.below HT.out hB (Nat.le_refl _)) htl).mono ?_
    rintro e w3 ⟨rfl, hb3⟩
    have hbV3 := bstep hbV2 hb3
    replace n0 := carry hb3 n0
    replace n7' := carry hb3 n7'
    replace n8' := carry hb3 n8'
    clear i0 i1 i2 i3 hz hB
    obtain ⟨⟨i0, i1⟩, ⟨i2, i3⟩, hz, hB⟩ := HV.out w3 hbV3
    cases hg : p.goes t td with
    | false =>
      rcases hkind with k | k | k <;> rw [k] at n0 <;>
        (go_wp2_with fail
         go_ret
         exact ⟨rfl, hB⟩)
    | true =>
      have HG : Hid (p.goes t td = true) := hg
      clear hg
      go_wp2_with fail
      refine (worth_any ca cl cc ra rl rc p w3 (Ints.below HC.out hB (Nat.le_refl _)) hcl (RowsAt.below HR.out hB (Nat.le_refl _)) hrl ta tl tc t td (Ints.below HT.out hB (Nat.le_refl _)) htl u v z HWT.out).mono ?_
      rintro e w4 ⟨rfl, hb4⟩
      replace n0 := carry hb4 n0
      replace n7' := carry hb4 n7'
      replace n8' := carry hb4 n8'
      have hb9 : b9 < w4.heap.size := World.block_lt_of_cell? w4 _ n0
      have hB4 := bstep hB hb4
      have hB5 := bstep hB4 (balloc w4 (.cells #[.int .i64 u, .int .i64 v] 24))
      clear i0 i1 i2 i3 hz
      rcases hkind with k | k | k
      · rw [k] at n0
        have HSO : Hid (z = 1 ∨ (z = 0 ∧ u * a.wd - a.wn * v ≤ 0)) := by
          have hh := HH.out
          rw [Num.holds_best p a HM.out k] at hh
          simp only [Bool.and_eq_true] at hh
          have hf : p.fits t td = true := by
            have hgo := HG.out
            unfold Num.Lp.goes at hgo
            simp only [Bool.and_eq_true] at hgo
            exact hgo.1.1
          have htn : t.length = p.costs.length := (Num.goes_len p t td HG.out).2.1
          have hmk : Num.mk (Num.dotN p.costs t p.costs.length) td = (u, v, z) := by
            have := HWT.out
            unfold Num.worth at this
            rw [if_pos hf, htn] at this
            exact this
          rcases Num.best_so p a hh.2 t td HG.out u v z hmk with h | ⟨h, h2, _⟩
          · exact Or.inl h
          · exact Or.inr ⟨h, h2⟩
        rcases HSO.out with hz1 | ⟨hz0, hle⟩
        · subst hz1
          go_wp2_with fail
          go_ret
          exact ⟨rfl, hB5⟩
        · subst hz0
          go_wp2_with fail
          refine (less_any a.wn a.wd u v _).mono ?_
          rintro e w6 ⟨rfl, hb6⟩
          have hd : (Num.mayB a.wd [a.wn] && (Num.mayB v [u] && decide (a.wn * v < u * a.wd))) = false := by
            have : decide (a.wn * v < u * a.wd) = false := decide_eq_false (by omega)
            rw [this]; simp
          rw [hd]
          go_wp2_with fail
          go_ret
          exact ⟨rfl, bstep hB5 hb6⟩
      · rw [k] at n0
        go_wp2_with fail
        go_ret
        exact ⟨rfl, hB5⟩
      · exfalso
        have hh := HH.out
        rw [Num.holds_nothing p a HM.out k] at hh
        simp only [Bool.and_eq_true] at hh
        have := HG.out
        rw [Num.nothing_so p a hh.2 t td] at this
        cases this

end Go.Proofs.Ytipcbhodlgoflaa.solveBest
