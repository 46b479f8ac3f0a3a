/- The walk of CornerComes: for every program and columns it answers true. -/
import Derived.Test.YtipcbhodlgoflaaPlnA
import Derived.Test.YtipcbhodlgoflaaRef2A
import Derived.Test.YtipcbhodlgoflaaSixA
namespace Go.Proofs.Ytipcbhodlgoflaa
open Go.RowKit

theorem known_look : (Num.look ⟨[5], [([2], 3)]⟩ [0]).x = [3, 0] ∧ (Num.look ⟨[5], [([2], 3)]⟩ [0]).xd = 2 := by decide +kernel

theorem ints_one_of {W : World} {k : Nat} {x : Int} (hc : W.cell? ⟨k, 0, none⟩ = some (.int .i64 x)) : Ints W (some ⟨k, 0, none⟩) 1 [x] := by
  refine ⟨rfl, Or.inr ⟨k, 0, rfl, World.block_lt_of_cell? W _ hc, fun j hj => ?_⟩⟩
  obtain rfl : j = 0 := by omega
  simpa using hc

theorem knownC_any (w : World) (k : Nat) (hk : k = w.heap.size) : Calls Try.prog 30 #[.agg #[.slice (some ⟨k, 0, none⟩) 1 1, .slice (some ⟨k + 1 + 1, 0, none⟩) 1 1], .slice (some ⟨k + 1 + 1 + 1 + 1, 0, none⟩) 1 1]
    (((((w.alloc (.cells #[.int .i64 5] 2)).alloc (.cells #[.int .i64 2] 2)).alloc (.cells #[.slice (some ⟨k + 1, 0, none⟩) 1 1, .int .i64 3] 55)).alloc (.cells #[.slice (some ⟨k, 0, none⟩) 1 1, .slice (some ⟨k + 1 + 1, 0, none⟩) 1 1] 40)).alloc (.cells #[.int .i64 0] 3))
    fun e w' => ∃ xa xc ya yl yc ga gl gc dy dg er, e = .returned (.tuple #[.agg #[.slice xa 2 xc, .int .i64 2, .slice ya yl yc, .int .i64 dy, .slice ga gl gc, .int .i64 dg], .int .i64 er]) ∧ Ints w' xa 2 [3, 0] ∧ Below w.heap.size w w' := by
  subst hk
  generalize hW : ((((w.alloc (.cells #[.int .i64 5] 2)).alloc (.cells #[.int .i64 2] 2)).alloc (.cells #[.slice (some ⟨w.heap.size + 1, 0, none⟩) 1 1, .int .i64 3] 55)).alloc (.cells #[.slice (some ⟨w.heap.size, 0, none⟩) 1 1, .slice (some ⟨w.heap.size + 1 + 1, 0, none⟩) 1 1] 40)).alloc (.cells #[.int .i64 0] 3) = W
  have hB : Below w.heap.size w W := by
    rw [← hW]
    exact bstep (bstep (bstep (bstep (balloc _ _) (balloc _ _)) (balloc _ _)) (balloc _ _)) (balloc _ _)
  have k0 : W.cell? ⟨w.heap.size, 0, none⟩ = some (.int .i64 5) := by rw [← hW]; clear hW; go_simp
  have k1 : W.cell? ⟨w.heap.size + 1, 0, none⟩ = some (.int .i64 2) := by rw [← hW]; clear hW; go_simp
  have k2 : W.cell? ⟨w.heap.size + 1 + 1, 0, none⟩ = some (.slice (some ⟨w.heap.size + 1, 0, none⟩) 1 1) := by rw [← hW]; clear hW; go_simp
  have k3 : W.cell? ⟨w.heap.size + 1 + 1, 1, none⟩ = some (.int .i64 3) := by rw [← hW]; clear hW; go_simp
  have k4 : W.cell? ⟨w.heap.size + 1 + 1 + 1 + 1, 0, none⟩ = some (.int .i64 0) := by rw [← hW]; clear hW; go_simp
  have hrows : RowsAt W (some ⟨w.heap.size + 1 + 1, 0, none⟩) 1 [([2], 3)] := by
    refine ⟨rfl, Or.inr ⟨w.heap.size + 1 + 1, 0, rfl, World.block_lt_of_cell? W _ k2, fun j hj => ?_⟩⟩
    obtain rfl : j = 0 := by omega
    exact ⟨_, _, _, k2, k3, ints_one_of k1, by omega⟩
  refine (look_any (some ⟨w.heap.size, 0, none⟩) 1 1 (some ⟨w.heap.size + 1 + 1, 0, none⟩) 1 1 ⟨[5], [([2], 3)]⟩ W (ints_one_of k0) (by omega) hrows (by omega) (some ⟨w.heap.size + 1 + 1 + 1 + 1, 0, none⟩) 1 1 [0] (ints_one_of k4) (by omega)).mono ?_
  rintro e w' ⟨xa, xl, xc, ya, yl, yc, ga, gl, gc, rfl, hx, _, _, _, _, _, hb⟩
  rw [known_look.1] at hx
  rw [known_look.2]
  obtain rfl : xl = 2 := hx.1
  exact ⟨xa, xc, ya, yl, yc, ga, gl, gc, _, _, _, rfl, hx, bstep hB hb⟩

theorem Num.mosts12 (p : Num.Lp) (hm : p.may = true) (m : Nat) : ∀ j : Nat, -12 ≤ (Num.mostsL p m)[j]?.getD 0 ∧ (Num.mostsL p m)[j]?.getD 0 ≤ 12 := by
  intro j
  unfold Num.mostsL
  rw [Num.range_getD]
  split
  · unfold Num.mostF
    by_cases hj : j < p.rows.length
    · exact (p.row_of hm j hj).2.2
    · rw [List.getElem?_eq_none (l := p.rows) (by omega)]; simp
  · omega

theorem Ints.take {w : World} {a : Option Addr} {n : Nat} {l : List Int} (h : Ints w a n l) (k : Nat) (hk : k ≤ n) : Ints w a k (l.take k) := by
  obtain ⟨h1, h2⟩ := h
  refine ⟨by rw [List.length_take]; omega, ?_⟩
  rcases h2 with h2 | ⟨b, off, ha, hs, hc⟩
  · exact Or.inl (by omega)
  · exact Or.inr ⟨b, off, ha, hs, fun j hj => by rw [hc j (by omega), List.getElem?_take_of_lt hj]⟩

theorem Num.dotN_take (c l : List Int) (k : Nat) : Num.dotN c (l.take k) k = Num.dotN c l k := by
  rw [Num.dotN_sum, Num.dotN_sum]
  exact Num.sumN_congr _ _ _ fun i hi => by rw [List.getElem?_take_of_lt hi]

theorem Num.take_bd (l : List Int) (k : Nat) (B : Int) (hB : 0 ≤ B) (h : ∀ j : Nat, -B ≤ l[j]?.getD 0 ∧ l[j]?.getD 0 ≤ B) : ∀ j : Nat, -B ≤ (l.take k)[j]?.getD 0 ∧ (l.take k)[j]?.getD 0 ≤ B := by
  intro j
  by_cases hj : j < k
  · rw [List.getElem?_take_of_lt hj]; exact h j
  · rw [List.getElem?_eq_none (by rw [List.length_take]; omega)]
    exact ⟨by show -B ≤ (0 : Int); omega, hB⟩

theorem Num.look_cases (p : Num.Lp) (at' : List Int) : ((Num.look p at').err ≠ 0 ∧ (Num.look p at').x = [] ∧ (Num.look p at').y = [] ∧ (Num.look p at').g = []) ∨
    (p.may = true ∧ Num.rightB at' p.rows.length (p.costs.length + p.rows.length) = true ∧ Num.denL p at' p.rows.length ≠ 0) := by
  cases hm : p.may with
  | false => left; rw [Num.look_form p at' hm]; decide
  | true =>
    cases hr : Num.rightB at' p.rows.length (p.costs.length + p.rows.length) with
    | false => left; rw [Num.look_range p at' hm hr]; decide
    | true =>
      by_cases hd : Num.denL p at' p.rows.length = 0
      · left; rw [Num.look_none p at' hm hr hd]; decide
      · right; exact ⟨rfl, rfl, hd⟩

set_option maxRecDepth 4000 in
set_option maxHeartbeats 3200000 in
theorem cornerComes.walk (ca : Option Addr) (cl cc : Nat) (ra : Option Addr) (rl rc : Nat) (p : Num.Lp) (w : World) (hc : Ints w ca cl p.costs) (hcl : cl ≤ 9223372036854775807) (hr : RowsAt w ra rl p.rows) (hrl : rl ≤ 9223372036854775807)
    (aa : Option Addr) (al ac : Nat) (at' : List Int) (ha : Ints w aa al at') (hal : al ≤ 9223372036854775807) :
    Calls Try.prog 7 #[.agg #[.slice ca cl cc, .slice ra rl rc], .slice aa al ac] w fun e w' => e = .returned (.bool true) ∧ Below w.heap.size w w' := by
  have HC : Hid (Ints w ca cl p.costs) := hc
  have HR : Hid (RowsAt w ra rl p.rows) := hr
  have HA : Hid (Ints w aa al at') := ha
  have HCL : Hid (cl = p.costs.length) := hc.1
  have HRL : Hid (rl = p.rows.length) := hr.1
  have HAL : Hid (al = at'.length) := ha.1
  have KL := fun (w' : World) (hb : Below w.heap.size w w') => look_cap ca cl cc ra rl rc p w' (hc.below hb (Nat.le_refl _)) hcl (hr.below hb (Nat.le_refl _)) hrl aa al ac at' (ha.below hb (Nat.le_refl _)) hal
  have HCASE := Num.look_cases p at'
  have HCOME := fun h1 h2 h3 => Num.look_comes p at' rl cl h1 hr.1 hc.1 h2 h3
  rw [← hr.1, ← hc.1] at HCASE
  obtain ⟨L, hL⟩ : ∃ L, Num.look p at' = L := ⟨_, rfl⟩
  rw [hL] at KL HCASE HCOME
  obtain ⟨er, lx, dx, ly, dy, lg, dg⟩ := L
  dsimp only at KL HCASE HCOME
  have HKL : Hid _ := KL
  have HCS : Hid _ := HCASE
  have HCM : Hid _ := HCOME
  clear KL HCASE HCOME hL hc hr ha
  go_enter Try.func7, Try.ntmps7
  go_wp2_with fail
  refine (HKL.out _ (balloc _ _)).mono ?_
  rintro e w1 ⟨xa, xl, xc, ya, yl, yc, ga, gl, gc, rfl, hix, hiy, hig, hx8, hy8, hg8, hb1, hcx, hcy, hcg⟩
  have HIX : Hid (Ints w1 xa xl lx) := hix
  have HIY : Hid (Ints w1 ya yl ly) := hiy
  have HIG : Hid (Ints w1 ga gl lg) := hig
  obtain ⟨⟨c0, c1⟩, _⟩ := kept2 hb1
  have hz1 : w.heap.size < w1.heap.size := by have := hb1.size; simp at this; omega
  clear hix hiy hig HKL
  go_wp2_with fail
  have hs1 := Six.new w1 (.slice xa xl xc) (.int .i64 dx) (.slice ya yl yc) (.int .i64 dy) (.slice ga gl gc) (.int .i64 dg) 47
  have hb2 := bstep hb1 hs1.bel
  refine (knownC_any (w1.alloc (.cells #[.slice xa xl xc, .int .i64 dx, .slice ya yl yc, .int .i64 dy, .slice ga gl gc, .int .i64 dg] 47)) (w1.heap.size + 1) (by simp)).mono ?_
  rintro e w3 ⟨ua, uc, va, vl, vc, ta, tl, tc, ey, eg, er3, rfl, hu, hk3⟩
  have hs3 := hs1.step hk3
  have hb3 := bstep hb2 hk3
  clear c0 c1 hs1 hb2 hk3 hb1
  rcases hu.2 with h | ⟨ub, uo, hua, hubs, huc⟩
  · omega
  have u0 := huc 0 (by omega)
  simp only [Nat.add_zero, List.getElem?_cons_zero, Option.getD_some] at u0
  clear huc hu
  subst hua
  obtain ⟨⟨c0, c1⟩, _⟩ := kept2 hb3
  have hz3 : w.heap.size < w3.heap.size := by have := hb3.size; simp at this; omega
  have hB3 := binto hb3
  have z0 := hs3.c0
  have z1 := hs3.c1
  have z2 := hs3.c2
  have z3 := hs3.c3
  have z4 := hs3.c4
  have z5 := hs3.c5
  have zl := hs3.hi
  rcases HCS.out with ⟨he, rfl, rfl, rfl⟩ | ⟨hmay, hri, hden⟩
  · obtain rfl : xl = 0 := HIX.out.1
    obtain rfl : yl = 0 := HIY.out.1
    obtain rfl : gl = 0 := HIG.out.1
    have he' : (er == 0) = false := by simpa using he
    go_wp2_with fail
    go_ret
    exact ⟨rfl, bstep hB3 (balloc _ _)⟩
  · obtain ⟨her, hlx, hly, hlg, hxd, hyd, hxb, hyb, hrow, hgain, hworth⟩ := HCM.out hmay hri hden
    subst her
    obtain ⟨N, hN⟩ : ∃ N, cl + rl = N := ⟨_, rfl⟩
    have hxl : xl = N := by have := HIX.out.1; omega
    have hyl : yl = rl := by have := HIY.out.1; omega
    have hgl : gl = N := by have := HIG.out.1; omega
    have hcl4 : cl ≤ 4 := by have := HCL.out; have := (p.may_of hmay).1.2; omega
    have hrl4 : rl ≤ 4 := by have := HRL.out; have := (p.may_of hmay).2.2.1.2; omega
    obtain ⟨hal2, hat⟩ := Num.right_all at' rl (cl + rl) hri
    have hale : al = rl := by have := HAL.out; omega
    have HXB : Hid _ := hxb
    have HYB : Hid _ := hyb
    have HROW : Hid _ := hrow
    have HGAIN : Hid _ := hgain
    have HWORTH : Hid _ := hworth
    have HRI : Hid _ := hri
    have HMAY : Hid _ := hmay
    have HAT : Hid _ := hat
    have HMB : Hid (∀ j : Nat, -12 ≤ (Num.mostsL p rl)[j]?.getD 0 ∧ (Num.mostsL p rl)[j]?.getD 0 ≤ 12) := Num.mosts12 p hmay rl
    have HCB : Hid (∀ j : Nat, -400 ≤ p.costs[j]?.getD 0 ∧ p.costs[j]?.getD 0 ≤ 400) := Num.withinB_iff _ _ (p.may_of hmay).2.1 (by omega)
    have hN1 : (cl : Int) + rl = N := by omega
    clear hxb hyb hrow hgain hworth hlx hly hlg hri hden HCS HCM hal2 hat
    subst hxl
    subst hgl
    subst hyl
    subst hale
    have HBX : Hid (∀ w', Below w3.heap.size w3 w' → (w'.cell? ⟨w.heap.size, 0, none⟩ = some (.slice ca cl cc) ∧ w'.cell? ⟨w.heap.size, 1, none⟩ = some (.slice ra al rc)) ∧ Six w1 w1.heap.size (.slice xa gl xc) (.int .i64 dx) (.slice ya al yc) (.int .i64 dy) (.slice ga gl gc) (.int .i64 dg) w' ∧ w.heap.size < w'.heap.size ∧ Below w.heap.size w w') := by
      intro w' h
      exact ⟨(kept2 (bstep hb3 h)).1, hs3.step h, by have := h.size; omega, bstep hB3 h⟩
    go_wp2_with fail
    refine (r2may_any _ _ _ _ _ _ p _ (Ints.below HC.out (HBX.out _ (balloc _ _)).2.2.2 (Nat.le_refl _)) hcl (RowsAt.below HR.out (HBX.out _ (balloc _ _)).2.2.2 (Nat.le_refl _)) hrl).mono ?_
    rintro e w4 ⟨rfl, hk4⟩
    rw [HMAY.out]
    have hL4 : Below w3.heap.size w3 w4 := bstep (balloc _ _) hk4
    clear z0 z1 z2 z3 z4 z5 zl c0 c1 hk4 u0 hubs hz3 hB3 hs3 hb3
    obtain ⟨⟨c0, c1⟩, hsx, hz4, hB4⟩ := HBX.out w4 hL4
    have z0 := hsx.c0
    have z1 := hsx.c1
    have z2 := hsx.c2
    have z3 := hsx.c3
    have z4 := hsx.c4
    have z5 := hsx.c5
    have zl := hsx.hi
    go_wp2_with fail
    refine (right_any _ _ _ _ _ _ _ _ _ _ at' (Ints.below HA.out hB4 (Nat.le_refl _)) hal gl hN (by omega)).mono ?_
    rintro e w5 ⟨rfl, hk5⟩
    have hri : Num.rightB at' al gl = true := by rw [← hN]; exact HRI.out
    rw [hri]
    have hL5 := bstep hL4 hk5
    clear z0 z1 z2 z3 z4 z5 zl c0 c1 hk5 hz4 hB4 hsx hri hL4
    go_wp2_with fail
    generalize w5 = W5 at *
    have hal1 : 1 ≤ al := by have := HRL.out; have := (p.may_of hmay).2.2.1.1; omega
    rcases HIX.out.2 with h | ⟨xb, xo, hxa, hxs, hxc⟩
    · omega
    rcases HIY.out.2 with h | ⟨yb, yo, hya, hys, hyc⟩
    · omega
    rcases HIG.out.2 with h | ⟨gb, go', hga, hgs, hgc⟩
    · omega
    rcases HR.out.2 with h | ⟨rb, ro, hra, hrs, hrc⟩
    · omega
    rcases HA.out.2 with h | ⟨ab, ao, haa, has, hac⟩
    · omega
    have HXC : Hid _ := hxc
    have HYC : Hid _ := hyc
    have HGC : Hid _ := hgc
    have HRC : Hid _ := hrc
    have HAC : Hid _ := hac
    clear hxc hyc hgc hrc hac
    subst hxa hya hga hra haa
    have hcx1 : cl ≤ xc := by omega
    have hXT : Hid (∀ j : Nat, -497664 ≤ (lx.take cl)[j]?.getD 0 ∧ (lx.take cl)[j]?.getD 0 ≤ 497664) := Num.take_bd lx cl 497664 (by omega) HXB.out
    go_loopw [12] (fun q wr => ∃ i : Nat, i ≤ al ∧ q = .int .i64 i ∧ Below w3.heap.size w3 wr) (fun q _ => al - (intOf q).toNat)
    case atStart => exact ⟨0, Nat.zero_le _, rfl, hL5⟩
    case round =>
      clear hL5 W5
      obtain ⟨i, hi, rfl, hLr⟩ := hrel
      obtain ⟨⟨c0, c1⟩, hsx, hz, hB⟩ := HBX.out wr hLr
      have z0 := hsx.c0
      have z1 := hsx.c1
      have z2 := hsx.c2
      have z3 := hsx.c3
      have z4 := hsx.c4
      have z5 := hsx.c5
      have zl := hsx.hi
      by_cases hlm : i < al
      · obtain ⟨ta, tl, tc, d0, d1, hti, htl⟩ := HRC.out i hlm
        have hrow := p.row_of HMAY.out i (by have := HRL.out; omega)
        have hcome := HROW.out i hlm
        obtain ⟨q, hq⟩ : ∃ q, cl + i = q := ⟨_, rfl⟩
        rw [hq] at hcome
        have hqg : q < gl := by omega
        have hxi := HXC.out q hqg
        have hxbi := HXB.out q
        generalize (p.rows[i]?.getD ([], 0)) = rr at *
        obtain ⟨r1, r2⟩ := rr
        dsimp only at *
        obtain ⟨hr0, hr1, hr2⟩ := hrow
        have hte : tl = cl := by have := hti.1; have := HCL.out; omega
        subst hte
        have HTI : Hid (Ints w ta tl r1) := hti
        have HWR : Hid (∀ j : Nat, -12 ≤ r1[j]?.getD 0 ∧ r1[j]?.getD 0 ≤ 12) := Num.withinB_iff _ _ hr1 (by omega)
        have hmx := Num.mul_bd2 r2 dx 12 497664 hr2 (by omega)
        have q1 : ∀ w', Below wr.heap.size wr w' → w'.cell? ⟨w.heap.size, 1, none⟩ = some (.slice (some ⟨rb, ro, none⟩) al rc) := fun w' h => (HBX.out w' (bstep hLr h)).1.2
        have q2 : ∀ w', Below wr.heap.size wr w' → w'.cell? ⟨w1.heap.size, 0, none⟩ = some (.slice (some ⟨xb, xo, none⟩) gl xc) := fun w' h => (HBX.out w' (bstep hLr h)).2.1.c0
        have q2' : ∀ w', Below wr.heap.size wr w' → w'.cell? ⟨w1.heap.size, 1, none⟩ = some (.int .i64 dx) := fun w' h => (HBX.out w' (bstep hLr h)).2.1.c1
        have q3 : ∀ w', Below wr.heap.size wr w' → w'.cell? ⟨rb, ro + i * 2, none⟩ = some (.slice ta tl tc) := fun w' h => by rw [(HBX.out w' (bstep hLr h)).2.2.2.cell (p := ⟨rb, ro + i * 2, none⟩) hrs]; exact d0
        have q4 : ∀ w', Below wr.heap.size wr w' → w'.cell? ⟨rb, ro + i * 2 + 1, none⟩ = some (.int .i64 r2) := fun w' h => by rw [(HBX.out w' (bstep hLr h)).2.2.2.cell (p := ⟨rb, ro + i * 2 + 1, none⟩) hrs]; exact d1
        have q5 : ∀ w', Below wr.heap.size wr w' → w'.cell? ⟨xb, xo + q, none⟩ = some (.int .i64 (lx[q]?.getD 0)) := fun w' h => by rw [(HBX.out w' (bstep hLr h)).2.1.bel.cell (p := ⟨xb, xo + q, none⟩) hxs]; exact hxi
        have KT : Hid (∀ w', Below wr.heap.size wr w' → Calls Try.prog 29 #[.slice ta tl tc, .slice (some ⟨xb, xo, none⟩) tl xc] w' fun e w'' => e = .returned (.int .i64 (Num.dotN r1 lx tl)) ∧ Below wr.heap.size wr w'') := by
          intro w' h
          rw [← Num.dotN_take]
          exact (below_of_drew (dot_any _ _ _ _ _ _ r1 (lx.take tl) w' 12 497664 (Ints.below HTI.out (HBX.out w' (bstep hLr h)).2.2.2 (Nat.le_refl _)) (Ints.take (Ints.below HIX.out (HBX.out w' (bstep hLr h)).2.1.bel (Nat.le_refl _)) tl (by omega)) (Nat.le_refl _) (by omega) HWR.out hXT.out (by omega))).mono fun _ _ k => ⟨k.1, bstep h k.2⟩
        generalize lx[q]?.getD 0 = xv at hcome hxbi q5 hxi
        have v2 : (0 : Int) ≤ q := by omega
        have v3 : (q : Int) < gl := by omega
        have v4 : (tl : Int) + i = q := by omega
        have hS0 : Below wr.heap.size wr wr.drew := (Below.refl _ _).drew
        generalize Num.dotN r1 lx tl = D at KT hcome
        generalize hrr : r2 * dx = rd at hcome hmx
        have hrd := IntWalk.wrap64_in rd (by omega)
        have hqw := IntWalk.wrap64_in (q : Int) (by omega)
        clear hr0 hr1 hti d0 d1 hxi hxbi hmx
        have v1 : wrap64 ((tl : Int) + i) = q := by rw [v4]; exact hqw
        have v1' : IntKind.i64.wrap ((tl : Int) + i) = q := by rw [IntWalk.i64_left]; exact v1
        have u1 : wrap64 (D + xv) = rd := by rw [hcome]; exact hrd
        have u1' : IntKind.i64.wrap (D + xv) = rd := by rw [IntWalk.i64_left]; exact u1
        clear hqw hcome v4
        have u2 : wrap64 (r2 * dx) = rd := by rw [hrr]; exact hrd
        have u2' : IntKind.i64.wrap (r2 * dx) = rd := by rw [IntWalk.i64_left]; exact u2
        clear hrr hrd
        go_wp2_with fail
        go_region_held3 (fun w' => Below wr.heap.size wr w') (first | assumption)
          (first | (go_at_call 29; refine (KT.out _ ?_).mono ?_; assumption; rintro e t1 ⟨rfl, hk1⟩))
        have hbv := bstep hLr hk1
        clear v1 v1' v2 v3 q1 q2 q2' q3 q4 q5 KT hS0 hk1 c0 c1 z0 z1 z2 z3 z4 z5 zl hsx hz hB hLr
        go_wp2_with fail
        go_roundw
        case rel => exact ⟨i + 1, hlm, by go_num, hbv⟩
        case measure => simp [intOf]; omega
      · have him : al = i := by omega
        subst him
        have hD := Num.dotN_bd p.costs lx 400 497664 HCB.out HXB.out cl
        have hD1 : -796262400 ≤ Num.dotN p.costs lx cl ∧ Num.dotN p.costs lx cl ≤ 796262400 := by omega
        have q0 : ∀ w', Below wr.heap.size wr w' → w'.cell? ⟨w.heap.size, 0, none⟩ = some (.slice ca cl cc) := fun w' h => (HBX.out w' (bstep hLr h)).1.1
        have q2 : ∀ w', Below wr.heap.size wr w' → w'.cell? ⟨w1.heap.size, 0, none⟩ = some (.slice (some ⟨xb, xo, none⟩) gl xc) := fun w' h => (HBX.out w' (bstep hLr h)).2.1.c0
        have KT : Hid (∀ w', Below wr.heap.size wr w' → Calls Try.prog 29 #[.slice ca cl cc, .slice (some ⟨xb, xo, none⟩) cl xc] w' fun e w'' => e = .returned (.int .i64 (Num.dotN p.costs lx cl)) ∧ Below wr.heap.size wr w'') := by
          intro w' h
          rw [← Num.dotN_take]
          exact (below_of_drew (dot_any _ _ _ _ _ _ p.costs (lx.take cl) w' 400 497664 (Ints.below HC.out (HBX.out w' (bstep hLr h)).2.2.2 (Nat.le_refl _)) (Ints.take (Ints.below HIX.out (HBX.out w' (bstep hLr h)).2.1.bel (Nat.le_refl _)) cl (by omega)) (Nat.le_refl _) (by omega) HCB.out hXT.out (by omega))).mono fun _ _ k => ⟨k.1, bstep h k.2⟩
        have hS0 : Below wr.heap.size wr wr.drew := (Below.refl _ _).drew
        clear hD
        have hworth := HWORTH.out
        generalize Num.dotN p.costs lx cl = D at KT hD1 hworth
        have HWO : Hid _ := hworth
        clear hworth HWORTH
        go_wp2_with fail
        go_region_held3 (fun w' => Below wr.heap.size wr w') (first | assumption)
          (first | (go_at_call 29; refine (KT.out _ ?_).mono ?_; assumption; rintro e t1 ⟨rfl, hk1⟩))
        have hL6 := bstep hLr hk1
        clear q0 q2 KT hS0 hk1 c0 c1 z0 z1 z2 z3 z4 z5 zl hsx hz hB hLr
        go_wp2_with fail
        go_loopw [14, 15] (fun c q wr => ∃ i : Nat, i ≤ al ∧ q = .int .i64 i ∧ c = .int .i64 (Num.dotN (Num.mostsL p al) ly i) ∧ Below w3.heap.size w3 wr) (fun _ q _ => al - (intOf q).toNat)
        case atStart => exact ⟨0, Nat.zero_le _, rfl, rfl, hL6⟩
        case round =>
          obtain ⟨k, hk, rfl, rfl, hLr⟩ := hrel
          obtain ⟨⟨c0, c1⟩, hsx, hz, hB⟩ := HBX.out _ hLr
          have z0 := hsx.c0
          have z1 := hsx.c1
          have z2 := hsx.c2
          have z3 := hsx.c3
          have z4 := hsx.c4
          have z5 := hsx.c5
          have zl := hsx.hi
          by_cases hlt : k < al
          · obtain ⟨ta, tl, tc, d0, d1, hti, htl⟩ := HRC.out k hlt
            have e1 := HYC.out k hlt
            rw [← hB.cell (p := ⟨rb, ro + k * 2 + 1, none⟩) hrs] at d1
            rw [← hsx.bel.cell (p := ⟨yb, yo + k, none⟩) hys] at e1
            have hE : Num.dotN (Num.mostsL p al) ly (k + 1) = Num.dotN (Num.mostsL p al) ly k + (p.rows[k]?.getD ([], 0)).2 * ly[k]?.getD 0 := by
              have e : (Num.mostsL p al)[k]?.getD 0 = (p.rows[k]?.getD ([], 0)).2 := by unfold Num.mostsL; rw [Num.range_getD, if_pos hlt]; rfl
              rw [← e]; rfl
            have hs0 := Num.dotN_bd (Num.mostsL p al) ly 12 796262400 HMB.out HYB.out k
            have hs1 := Num.dotN_bd (Num.mostsL p al) ly 12 796262400 HMB.out HYB.out (k + 1)
            have hp := Num.mul_bd2 _ _ 12 796262400 (p.row_of HMAY.out k (by have := HRL.out; omega)).2.2 (HYB.out k)
            rw [hE] at hs1
            have HEQ : Hid _ := hE
            clear hE hti htl d0
            have hrsz : rb < wr.heap.size := by omega
            have hysz : yb < wr.heap.size := by omega
            generalize Num.dotN (Num.mostsL p al) ly k = sm at *
            generalize (p.rows[k]?.getD ([], 0)).2 = x0 at d1 hs1 hp HEQ
            generalize ly[k]?.getD 0 = y0 at e1 hs1 hp HEQ
            generalize hpp : x0 * y0 = pp at *
            have HPP : Hid _ := hpp
            clear hpp
            go_wp2_with fail
            go_region
            go_wp2_with fail
            go_roundw
            case rel => exact ⟨k + 1, hlt, by go_num, by rw [HEQ.out, HPP.out, IntWalk.wrap64_in pp (by omega), IntWalk.wrap64_in _ (by omega)], hLr.drew⟩
            case measure => simp [intOf]; omega
          · have hke : al = k := by omega
            subst hke
            have hM := Num.dotN_bd (Num.mostsL p al) ly 12 796262400 HMB.out HYB.out al
            have hM1 : -38220595200 ≤ Num.dotN (Num.mostsL p al) ly al ∧ Num.dotN (Num.mostsL p al) ly al ≤ 38220595200 := by omega
            have hwo := HWO.out
            clear hM HWO HMB
            generalize Num.dotN (Num.mostsL p al) ly al = M at *
            have HWO : Hid _ := hwo
            have hpd := Num.mul_bd2 D dy 796262400 497664 hD1 (by omega)
            have hw1 := IntWalk.wrap64_in (D * dy) (by omega)
            have HW1 : Hid (wrap64 (D * dy) = D * dy) := hw1
            clear hwo hw1 hpd hL6
            clear c0 c1 z0 z1 z2 z3 z4 z5 zl hsx hz hB
            go_wp2_with fail
            go_loopw [16] (fun q wr => ∃ i : Nat, i ≤ al ∧ q = .int .i64 i ∧ Below w3.heap.size w3 wr) (fun q _ => al - (intOf q).toNat)
            case atStart => exact ⟨0, Nat.zero_le _, rfl, hLr⟩
            case round =>
              clear hLr
              obtain ⟨k, hk, rfl, hLr⟩ := hrel
              obtain ⟨⟨c0, c1⟩, hsx, hz, hB⟩ := HBX.out _ hLr
              have z0 := hsx.c0
              have z1 := hsx.c1
              have z2 := hsx.c2
              have z3 := hsx.c3
              have z4 := hsx.c4
              have z5 := hsx.c5
              have zl := hsx.hi
              by_cases hlt : k < al
              · have d1 := HAC.out k hlt
                have hat := HAT.out k hlt
                rw [hN] at hat
                have hg0 := HGAIN.out k hlt
                obtain ⟨q, hq⟩ : ∃ q, Num.atF at' k = q := ⟨_, rfl⟩
                rw [hq] at hg0
                have hqe : at'[k]?.getD 0 = (q : Int) := by rw [← hq]; unfold Num.atF; omega
                rw [hqe] at d1 hat
                have hqg : q < gl := by omega
                have e1 := HGC.out q hqg
                rw [hg0] at e1
                rw [← hB.cell (p := ⟨ab, ao + k, none⟩) has] at d1
                rw [← hsx.bel.cell (p := ⟨gb, go' + q, none⟩) hgs] at e1
                have hasz : ab < wr.heap.size := by omega
                have hgsz : gb < wr.heap.size := by omega
                clear hq hqe hg0
                go_wp2_with fail
                go_region
                go_wp2_with fail
                go_roundw
                case rel => exact ⟨k + 1, hlt, by go_num, hLr.drew⟩
                case measure => simp [intOf]; omega
              · have u1 := HW1.out
                have u2 : wrap64 (M * dx) = D * dy := by rw [← HWO.out]; exact u1
                have u1' : IntKind.i64.wrap (D * dy) = D * dy := by rw [IntWalk.i64_left]; exact u1
                have u2' : IntKind.i64.wrap (M * dx) = D * dy := by rw [IntWalk.i64_left]; exact u2
                go_wp2_with fail
                go_ret
                exact ⟨rfl, hB⟩

end Go.Proofs.Ytipcbhodlgoflaa
