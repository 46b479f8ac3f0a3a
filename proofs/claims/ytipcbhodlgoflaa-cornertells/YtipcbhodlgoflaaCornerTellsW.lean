/- The walk of CornerTells: for every program and columns it answers true. -/
import Derived.Test.YtipcbhodlgoflaaCornR
import Derived.Test.YtipcbhodlgoflaaCornR6
import Derived.Test.YtipcbhodlgoflaaCornL
import Derived.Test.YtipcbhodlgoflaaRef2A
namespace Go.Proofs.Ytipcbhodlgoflaa.cornerTells
open Go.RowKit

/-- A box of two cells, in every later world. -/
theorem box1 {w w1 : World} {a b : Value} {t : TypeId} (hb : Below (w.alloc (.cells #[a, b] t)).heap.size (w.alloc (.cells #[a, b] t)) w1) :
    (w1.cell? ⟨w.heap.size, 0, none⟩ = some a ∧ w1.cell? ⟨w.heap.size, 1, none⟩ = some b) ∧ w.heap.size < w1.heap.size ∧ Below w.heap.size w w1 :=
  ⟨(kept2 hb).1, by have := hb.size; simp at this; omega, binto hb⟩

set_option maxHeartbeats 3200000 in
theorem walk (ca : Option Addr) (cl cc : Nat) (ra : Option Addr) (rl rc : Nat) (p : Num.Lp) (w : World) (hc : Ints w ca cl p.costs) (hcl : cl ≤ 9223372036854775807) (hr : RowsAt w ra rl p.rows) (hrl : rl ≤ 9223372036854775807)
    (aa : Option Addr) (al ac : Nat) (at' : List Int) (ha : Ints w aa al at') (hal : al ≤ 9223372036854775807) :
    Calls Try.prog 6 #[.agg #[.slice ca cl cc, .slice ra rl rc], .slice aa al ac] w fun e w' => e = .returned (.bool true) ∧ Below w.heap.size w w' := by
  have HC : Hid (Ints w ca cl p.costs) := hc
  have HR : Hid (RowsAt w ra rl p.rows) := hr
  have HA : Hid (Ints w aa al at') := ha
  have HCL : Hid (cl = p.costs.length) := hc.1
  have HRL : Hid (rl = p.rows.length) := hr.1
  have HAL : Hid (al = at'.length) := ha.1
  clear hc hr ha
  obtain ⟨L, hL⟩ : ∃ L, Num.look p at' = L := ⟨_, rfl⟩
  have HL : Hid (Num.look p at' = L) := hL
  have KL := fun (w' : World) (hb : Below w.heap.size w w') => look_any ca cl cc ra rl rc p w' (Ints.below HC.out hb (Nat.le_refl _)) hcl (RowsAt.below HR.out hb (Nat.le_refl _)) hrl aa al ac at' (Ints.below HA.out hb (Nat.le_refl _)) hal
  rw [hL] at KL
  have HKL : Hid _ := KL
  clear KL hL
  obtain ⟨er, lx, dx, ly, dy, lg, dg⟩ := L
  dsimp only at HKL
  go_enter Try.func6, Try.ntmps6
  go_wp2_with fail
  refine (HKL.out _ (balloc _ _)).mono ?_
  rintro e w1 ⟨xa, xl, xc, ya, yl, yc, ga, gl, gc, rfl, hix, hiy, hig, hx8, hy8, hg8, hb1⟩
  have HIX : Hid (Ints w1 xa xl lx) := hix
  have HIY : Hid (Ints w1 ya yl ly) := hiy
  have HIG : Hid (Ints w1 ga gl lg) := hig
  obtain ⟨⟨c0, c1⟩, hz1, hB1⟩ := box1 hb1
  clear hix hiy hig HKL
  go_wp2_with fail
  have hs1 := Six.new w1 (.slice xa xl xc) (.int .i64 dx) (.slice ya yl yc) (.int .i64 dy) (.slice ga gl gc) (.int .i64 dg) 47
  have hb2 := bstep hb1 hs1.bel
  refine (same3_any xa ya ga none none none xl xc yl yc gl gc 0 0 0 0 0 0 lx ly lg [] [] [] dx dy dg 0 0 0 _ (Ints.below HIX.out hs1.bel (Nat.le_refl _)) (Ints.below HIY.out hs1.bel (Nat.le_refl _)) (Ints.below HIG.out hs1.bel (Nat.le_refl _)) (Ints.empty _) (Ints.empty _) (Ints.empty _) ⟨hx8, hy8, hg8⟩ (by omega)).mono ?_
  rintro e w2 ⟨rfl, hk2⟩
  have hs2 := hs1.step hk2
  have hb3 := bstep hb2 hk2
  clear c0 c1 hs1 hb1 hb2 hk2 hB1
  obtain ⟨⟨c0, c1⟩, hz3, hB3⟩ := box1 hb3
  generalize hbo : (dx == 0 && lx == [] && (dy == 0 && ly == []) && (dg == 0 && lg == [])) = bo
  have HBO : Hid _ := hbo
  clear hbo
  go_wp2_with fail
  refine (r2may_any _ _ _ _ _ _ p _ (Ints.below HC.out hB3 (Nat.le_refl _)) hcl (RowsAt.below HR.out hB3 (Nat.le_refl _)) hrl).mono ?_
  rintro e w4 ⟨rfl, hk4⟩
  have hs4 := hs2.step hk4
  have hb4 := bstep hb3 hk4
  clear c0 c1 hs2 hb3 hk4 hB3
  obtain ⟨⟨c0, c1⟩, hz4, hB4⟩ := box1 hb4
  cases hm : p.may with
  | false =>
    have h0 := HL.out
    rw [Num.look_form p at' hm] at h0
    unfold Num.noLook at h0
    injection h0 with q1 q2 q3 q4 q5 q6 q7
    subst q1 q2 q3 q4 q5 q6 q7
    obtain rfl : true = bo := HBO.out
    go_wp2_with fail
    go_ret
    exact ⟨rfl, hB4⟩
  | true =>
    have h8 : cl + rl ≤ 8 := by have := HCL.out; have := HRL.out; have := (p.may_of hm).1.2; have := (p.may_of hm).2.2.1.2; omega
    go_wp2_with fail
    refine (right_any _ _ _ _ _ _ _ _ _ _ at' (Ints.below HA.out hB4 (Nat.le_refl _)) hal (cl + rl) rfl h8).mono ?_
    rintro e w5 ⟨rfl, hk5⟩
    have hs5 := hs4.step hk5
    have hb5 := bstep hb4 hk5
    clear c0 c1 hs4 hb4 hk5 hB4
    obtain ⟨⟨c0, c1⟩, hz5, hB5⟩ := box1 hb5
    cases hri : Num.rightB at' rl (cl + rl) with
    | false =>
      have h0 := HL.out
      rw [Num.look_range p at' hm (by rw [← HRL.out, ← HCL.out]; exact hri)] at h0
      unfold Num.noLook at h0
      injection h0 with q1 q2 q3 q4 q5 q6 q7
      subst q1 q2 q3 q4 q5 q6 q7
      obtain rfl : true = bo := HBO.out
      go_wp2_with fail
      go_ret
      exact ⟨rfl, hB5⟩
    | true =>
      obtain ⟨hal2, hat⟩ := Num.right_all at' rl (cl + rl) hri
      have hale : al = rl := by have := HAL.out; omega
      have HRI : Hid _ := hri
      clear hri hal2
      subst hale
      obtain ⟨⟨mx, qx, zx⟩, hpx⟩ : ∃ t, Num.pt (Num.xL p at' al (cl + al)) (Num.denL p at' al) = t := ⟨_, rfl⟩
      obtain ⟨⟨my, qy, zy⟩, hpy⟩ : ∃ t, Num.pt (Num.priceL p at' al) (Num.denL p at' al) = t := ⟨_, rfl⟩
      obtain ⟨⟨mg, qg, zg⟩, hpg⟩ : ∃ t, Num.pt (Num.gainL p at' al (cl + al)) (Num.denL p at' al) = t := ⟨_, rfl⟩
      have HPX : Hid _ := hpx
      have HPY : Hid _ := hpy
      have HPG : Hid _ := hpg
      clear hpx hpy hpg
      go_wp2_with fail
      refine (rlook_any ca cl cc ra al rc p w5 (Ints.below HC.out hB5 (Nat.le_refl _)) (RowsAt.below HR.out hB5 (Nat.le_refl _)) aa ac at' (Ints.below HA.out hB5 (Nat.le_refl _)) hm (cl + al) rfl h8 hat mx my mg qx qy qg zx zy zg HPX.out HPY.out HPG.out).mono ?_
      rintro e w6 ⟨hk6, ⟨hd, rfl⟩ | ⟨hd, xa', xl', xc', ya', yl', yc', ga', gl', gc', rfl, hix', hiy', hig', hx8', hy8', hg8'⟩⟩
      · have hB6 := bstep hB5 hk6
        have h0 := HL.out
        rw [Num.look_none p at' hm (by rw [← HRL.out, ← HCL.out]; exact HRI.out) (by rw [← HRL.out]; exact hd)] at h0
        unfold Num.noLook at h0
        injection h0 with q1 q2 q3 q4 q5 q6 q7
        subst q1 q2 q3 q4 q5 q6 q7
        obtain rfl : true = bo := HBO.out
        unfold corner0
        go_wp2_with fail
        go_ret
        exact ⟨rfl, bstep hB6 (balloc _ _)⟩
      · have hB6 := bstep hB5 hk6
        have hs6 := hs5.step hk6
        have h0 := HL.out
        rw [Num.look_some p at' hm (by rw [← HRL.out, ← HCL.out]; exact HRI.out) (by rw [← HRL.out]; exact hd) al (cl + al) HRL.out (by rw [← HRL.out, ← HCL.out]), HPX.out, HPY.out, HPG.out] at h0
        dsimp only at h0
        injection h0 with q1 q2 q3 q4 q5 q6 q7
        subst q2 q3 q4 q5 q6 q7
        have HIX' : Hid (Ints w6 xa' xl' mx) := hix'
        have HIY' : Hid (Ints w6 ya' yl' my) := hiy'
        have HIG' : Hid (Ints w6 ga' gl' mg) := hig'
        have HS6 : Hid _ := hs6
        have z0 := hs6.c0
        have z1 := hs6.c1
        have z2 := hs6.c2
        have z3 := hs6.c3
        have z4 := hs6.c4
        have z5 := hs6.c5
        have zl := hs6.hi
        have hL6 : Below w1.heap.size w1 w6 := hs6.bel
        clear hix' hiy' hig' hs5 hs6 c0 c1 hd hk6
        subst q1
        go_wp2_with fail
        refine (same3_any xa ya ga xa' ya' ga' xl xc yl yc gl gc xl' xc' yl' yc' gl' gc' mx my mg mx my mg qx qy qg qx qy qg _ (Ints.below HIX.out (bstep hL6 (balloc _ _)) (Nat.le_refl _)) (Ints.below HIY.out (bstep hL6 (balloc _ _)) (Nat.le_refl _)) (Ints.below HIG.out (bstep hL6 (balloc _ _)) (Nat.le_refl _)) (Ints.below HIX'.out (balloc _ _) (Nat.le_refl _)) (Ints.below HIY'.out (balloc _ _) (Nat.le_refl _)) (Ints.below HIG'.out (balloc _ _) (Nat.le_refl _)) ⟨hx8, hy8, hg8⟩ ⟨hx8', hy8', hg8'⟩).mono ?_
        rintro e w7 ⟨rfl, hk7⟩
        go_wp2_with fail
        go_ret
        exact ⟨by simp, bstep (bstep hB6 (balloc _ _)) hk7⟩

end Go.Proofs.Ytipcbhodlgoflaa.cornerTells
