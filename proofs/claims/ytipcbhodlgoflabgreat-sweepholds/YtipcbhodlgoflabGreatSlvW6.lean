/- What solve.Corners does: the corners of a program, one by one. -/
import Derived.RangeFuncNested
import Derived.RangeFuncBound
import Derived.RangeFuncCalls
import Derived.RangeFuncLeaves
import Derived.Shelf.Abstract
import Derived.Shelf.RegionOpen
import Derived.WalkKit
import Derived.OwnWalkIn
import Derived.TacticsInMore
import Derived.LoopNIn
import Derived.LoopIn
import Derived.Test.YtipcbhodlgoflabGreatSlvWC
namespace Go.Proofs.YtipcbhodlgoflabGreat
open Go.RowKit Go.Shelf

/-- A plain contract, at the fence that asks nothing. -/
theorem wide_call {n k : Nat} {P : Program} {f : FuncId} {args : Array Value} {w : World} {R : Ending → World → Prop} (h : Calls P f args w R) : Fence.wide.fn f ∧ (Fence.wide.depth.isSome = true → 1 ≤ n) ∧ CallsIn Fence.wide k P f args w R :=
  ⟨trivial, fun h => (by cases h), callsIn_wide.2 h⟩

/-- What a round is handed: columns, and the corner that they make, as they lie in a world. -/
structure Handed (p : Num.Lp) (s : Nat) (W : World) (aa : Option Addr) (al : Nat) (xa : Option Addr) (xl : Nat) (ya : Option Addr) (yl : Nat) (ga : Option Addr) (gl : Nat) : Prop where
  at' : Ints W aa al (Num.membersTo s 8)
  x : Ints W xa xl (Num.look p (Num.membersTo s 8)).x
  y : Ints W ya yl (Num.look p (Num.membersTo s 8)).y
  g : Ints W ga gl (Num.look p (Num.membersTo s 8)).g
  a8 : al ≤ 8
  x8 : xl ≤ 8
  y8 : yl ≤ 8
  g8 : gl ≤ 8
  ok : (Num.look p (Num.membersTo s 8)).err = 0

set_option maxRecDepth 12000 in
set_option maxHeartbeats 3200000 in
theorem iter_gen (ca : Option Addr) (cl cc : Nat) (ra : Option Addr) (rl rc : Nat) (p : Num.Lp) (W : World) (hcl : cl = p.costs.length) (hrl : rl = p.rows.length) (hm : p.may = true) (b l n : Nat)
    (J : Nat → World → Prop) (Jx : World → Prop)
    (hJr : ∀ s A, J s A → A.cell? ⟨b, 0, none⟩ = some (.slice ca cl cc) ∧ A.cell? ⟨b, 1, none⟩ = some (.slice ra rl rc) ∧ Ints A ca cl p.costs ∧ RowsAt A ra rl p.rows)
    (hJb : ∀ s A B, J s A → Below A.heap.size A B → J s B)
    (hJs : ∀ s A, J (s + 1) A → (Num.look p (Num.membersTo (s + 1) 8)).err ≠ 0 → J s A)
    (hY : ∀ s A aa al ac xa xl xc ya yl yc ga gl gc, J (s + 1) A → s + 1 < 2 ^ (cl + rl) → Handed p (s + 1) A aa al xa xl ya yl ga gl →
      YieldAt Fence.wide (n - 1) Tryz.prog l #[.slice aa al ac, .agg #[.slice xa xl xc, .int .i64 (Num.look p (Num.membersTo (s + 1) 8)).xd, .slice ya yl yc, .int .i64 (Num.look p (Num.membersTo (s + 1) 8)).yd, .slice ga gl gc, .int .i64 (Num.look p (Num.membersTo (s + 1) 8)).gd]] A fun e B =>
        (e = .returned (.bool true) ∧ J s B) ∨ (e = .returned (.bool false) ∧ Jx B))
    (h0 : J (2 ^ (cl + rl) - 1) W) :
    CallsIn Fence.wide n Tryz.prog 26 #[.func (.yield l) #[] #[], .pointer (some ⟨b, 0, none⟩)] W fun e B => (∃ v, e = .returned v) ∧ (J 0 B ∨ Jx B) := by
  have hc4 : cl ≤ 4 ∧ 1 ≤ cl := by have := (p.may_of hm).1; omega
  have hr4 : rl ≤ 4 ∧ 1 ≤ rl := by have := (p.may_of hm).2.2.1; omega
  have HJR : Hid (∀ s A, J s A → A.cell? ⟨b, 0, none⟩ = some (.slice ca cl cc) ∧ A.cell? ⟨b, 1, none⟩ = some (.slice ra rl rc) ∧ Ints A ca cl p.costs ∧ RowsAt A ra rl p.rows) := hJr
  have HJB : Hid (∀ s A B, J s A → Below A.heap.size A B → J s B) := hJb
  have HJS : Hid (∀ s A, J (s + 1) A → (Num.look p (Num.membersTo (s + 1) 8)).err ≠ 0 → J s A) := hJs
  have HY : Hid _ := hY
  clear hJr hJb hJs hY hcl hrl
  obtain ⟨hb0, hb1, hcW, hrW⟩ := HJR.out _ W h0
  have KMAY : Hid (Calls Tryz.prog 9 #[.agg #[.slice ca cl cc, .slice ra rl rc]] W fun e w' => e = .returned (.bool true) ∧ Below W.heap.size W w') := by
    have := lmay_any ca cl cc ra rl rc p W hcW (by omega) hrW (by omega)
    rw [hm] at this
    exact this
  clear hcW hrW
  refine callsIn_of_wp Tryz.func26 rfl trivial ?_ rfl
  simp only [Tryz.ntmps26, List.size_toArray, List.length_cons, List.length_nil, Nat.reduceAdd, Nat.reduceSub, Array.replicate_succ, Array.replicate_zero, List.push_toArray, List.append_toArray, List.nil_append, List.cons_append]
  gi_wp2_with fail
  refine wide_call (KMAY.out.mono ?_)
  rintro e w0 ⟨rfl, hw0⟩
  replace h0 := HJB.out _ _ _ h0 hw0
  obtain ⟨hc0, hc1, -, -⟩ := HJR.out _ w0 h0
  clear hb0 hb1 hw0
  gi_wp2_with fail
  obtain ⟨N, hN⟩ : ∃ N, cl + rl = N := ⟨_, rfl⟩
  have hN8 : N ≤ 8 := by omega
  refine wide_call ((width_any ca cl cc ra rl rc w0 N hN hN8).mono ?_)
  rintro e w1 ⟨rfl, hw1⟩
  have hpow : 2 ^ N ≤ 256 := Nat.le_trans (Nat.pow_le_pow_right (by omega) hN8) (by decide)
  have hpos : 0 < 2 ^ N := Nat.pow_pos (by omega)
  have hp2 : ((2 : Int) ^ N) = ((2 ^ N : Nat) : Int) := by simp
  have hsh : wrap64 (wrap64 ((2 : Int) ^ N) - 1) = ((2 ^ N - 1 : Nat) : Int) := by
    rw [hp2, IntWalk.wrap64_in ((2 ^ N : Nat) : Int) (by omega), IntWalk.wrap64_in (((2 ^ N : Nat) : Int) - 1) (by omega)]
    omega
  have HSH : Hid _ := hsh
  have hJ0 : J (2 ^ N - 1) w1 := HJB.out _ _ _ (by rw [← hN]; exact h0) hw1
  have HY2 : Hid (∀ s A aa al ac xa xl xc ya yl yc ga gl gc, J (s + 1) A → s + 1 < 2 ^ N → Handed p (s + 1) A aa al xa xl ya yl ga gl →
      YieldAt Fence.wide (n - 1) Tryz.prog l #[.slice aa al ac, .agg #[.slice xa xl xc, .int .i64 (Num.look p (Num.membersTo (s + 1) 8)).xd, .slice ya yl yc, .int .i64 (Num.look p (Num.membersTo (s + 1) 8)).yd, .slice ga gl gc, .int .i64 (Num.look p (Num.membersTo (s + 1) 8)).gd]] A fun e B =>
        (e = .returned (.bool true) ∧ J s B) ∨ (e = .returned (.bool false) ∧ Jx B)) := by rw [← hN]; exact HY.out
  clear hsh hp2 hN h0 HY hw1 hc0 hc1
  generalize hM : 2 ^ N = M at *
  clear hM
  gi_wp2_with fail
  rw [HSH.out]
  clear HSH
  gi_loopw [3] (fun i wr => ∃ s : Nat, s < M ∧ i = .int .i64 s ∧ J s wr) (fun i _ => (intOf i).toNat)
  case atStart => exact ⟨M - 1, by omega, rfl, hJ0⟩
  case round =>
    obtain ⟨s, hs, rfl, hJ⟩ := hrel
    obtain ⟨b0, b1, -, -⟩ := HJR.out _ wr hJ
    clear hJ0
    cases s with
    | zero =>
      gi_wp2
      go_end0
      exact ⟨⟨_, rfl⟩, .inl hJ⟩
    | succ s =>
      have hsI : (0 : Int) < ((s + 1 : Nat) : Int) := by omega
      have KM : Hid (Calls Tryz.prog 28 #[.int .i64 ((s + 1 : Nat) : Int)] wr fun e w' => ∃ a n c, e = .returned (.slice a n c) ∧ Ints w' a n (Num.membersTo (s + 1) 8) ∧ (n = 0 ∨ ∃ g, a = some ⟨g, 0, none⟩ ∧ wr.heap.size ≤ g) ∧ n ≤ 8 ∧ Below wr.heap.size wr w') := members_any (s + 1) (by omega) wr
      generalize hsv : ((s + 1 : Nat) : Int) = sv at *
      have HSV : Hid (sv = (s : Int) + 1) := by show sv = _; omega
      gi_wp2_with fail
      refine wide_call (KM.out.mono ?_)
      rintro e w2 ⟨aa, al, ac, rfl, hia, hfa, ha8, hb2⟩
      have HIA : Hid (Ints w2 aa al (Num.membersTo (s + 1) 8)) := hia
      have hJ2 := HJB.out _ _ _ hJ hb2
      obtain ⟨c0, c1, hc2, hr2⟩ := HJR.out _ w2 hJ2
      have KL := look_any ca cl cc ra rl rc p w2 hc2 (by omega) hr2 (by omega) aa al ac (Num.membersTo (s + 1) 8) HIA.out (by omega)
      clear hc2 hr2 b0 b1
      have HSK := HJS.out s
      have HYS := HY2.out s
      have HND := fun (A : World) (aa : Option Addr) (al : Nat) (xa : Option Addr) (xl : Nat) (ya : Option Addr) (yl : Nat) (ga : Option Addr) (gl : Nat) (h1 : Ints A aa al (Num.membersTo (s + 1) 8)) (h2 : Ints A xa xl (Num.look p (Num.membersTo (s + 1) 8)).x) (h3 : Ints A ya yl (Num.look p (Num.membersTo (s + 1) 8)).y) (h4 : Ints A ga gl (Num.look p (Num.membersTo (s + 1) 8)).g) (h5 : al ≤ 8) (h6 : xl ≤ 8) (h7 : yl ≤ 8) (h8 : gl ≤ 8) (h9 : (Num.look p (Num.membersTo (s + 1) 8)).err = 0) => (Handed.mk h1 h2 h3 h4 h5 h6 h7 h8 h9 : Handed p (s + 1) A aa al xa xl ya yl ga gl)
      generalize Num.look p (Num.membersTo (s + 1) 8) = L at *
      obtain ⟨er, lx, dx, ly, dy, lg, dg⟩ := L
      dsimp only at *
      have HKL : Hid _ := KL
      have HHSK : Hid _ := HSK
      have HHYS : Hid _ := HYS
      have HHND : Hid _ := HND
      clear KL HSK HYS HND hia KM hJ hfa
      gi_wp2_with fail
      refine wide_call (Calls.mono HKL.out ?_)
      rintro e w3 ⟨xa, xl, xc, ya, yl, yc, ga, gl, gc, rfl, hix, hiy, hig, hx8, hy8, hg8, hb3⟩
      have hsx := Six.new w3 (.slice xa xl xc) (.int .i64 dx) (.slice ya yl yc) (.int .i64 dy) (.slice ga gl gc) (.int .i64 dg) 60
      have hbW := hsx.bel
      have HIX : Hid (Ints (w3.alloc (.cells #[.slice xa xl xc, .int .i64 dx, .slice ya yl yc, .int .i64 dy, .slice ga gl gc, .int .i64 dg] 60)) xa xl lx) := Ints.below hix hbW (Nat.le_refl _)
      have HIY : Hid (Ints (w3.alloc (.cells #[.slice xa xl xc, .int .i64 dx, .slice ya yl yc, .int .i64 dy, .slice ga gl gc, .int .i64 dg] 60)) ya yl ly) := Ints.below hiy hbW (Nat.le_refl _)
      have HIG : Hid (Ints (w3.alloc (.cells #[.slice xa xl xc, .int .i64 dx, .slice ya yl yc, .int .i64 dy, .slice ga gl gc, .int .i64 dg] 60)) ga gl lg) := Ints.below hig hbW (Nat.le_refl _)
      have HIA3 : Hid (Ints (w3.alloc (.cells #[.slice xa xl xc, .int .i64 dx, .slice ya yl yc, .int .i64 dy, .slice ga gl gc, .int .i64 dg] 60)) aa al (Num.membersTo (s + 1) 8)) := Ints.below (Ints.below HIA.out hb3 (Nat.le_refl _)) hbW (Nat.le_refl _)
      have hJ3 := HJB.out _ _ _ hJ2 (bstep hb3 hbW)
      obtain ⟨_, _, s0, s1, s2, s3, s4, s5, _⟩ := hsx
      clear hix hiy hig HIA hJ2 HKL c0 c1
      by_cases her : er = 0
      · have her' : (er == 0) = true := by rw [her]; rfl
        obtain ⟨fn, tmps, assign, body, hy, hR⟩ := HHYS.out _ aa al ac xa xl xc ya yl yc ga gl gc hJ3 hs (HHND.out _ _ _ _ _ _ _ _ _ HIA3.out HIX.out HIY.out HIG.out ha8 hx8 hy8 hg8 her)
        gi_wp2
        refine ⟨fun h => (by cases h), hR.mono ?_⟩
        rintro e W4 (⟨rfl, hJ4⟩ | ⟨rfl, hJx⟩)
        · gi_wp2
          go_roundw
          case rel => exact ⟨s, by omega, by rw [show sv - 1 = (s : Int) by have := HSV.out; omega], hJ4⟩
          case measure => simp [intOf]; have := HSV.out; omega
        · gi_wp2
          refine bodyPost_ret (results_none rfl _ _ _) rfl ?_
          exact ⟨⟨_, rfl⟩, .inr hJx⟩
      · have her' : (er == 0) = false := by simpa using her
        have hJ4 := HHSK.out _ hJ3 her
        gi_wp2
        refine ⟨fun _ h => (by cases h), ?_⟩
        gi_wp2
        go_roundw
        case rel => exact ⟨s, by omega, by rw [show sv - 1 = (s : Int) by have := HSV.out; omega], hJ4⟩
        case measure => simp [intOf]; have := HSV.out; omega

theorem iter_any (ca : Option Addr) (cl cc : Nat) (ra : Option Addr) (rl rc : Nat) (p : Num.Lp) (W : World) (hc : Ints W ca cl p.costs) (hr : RowsAt W ra rl p.rows) (hm : p.may = true) (b l n : Nat)
    (hb0 : W.cell? ⟨b, 0, none⟩ = some (.slice ca cl cc)) (hb1 : W.cell? ⟨b, 1, none⟩ = some (.slice ra rl rc)) (J : Nat → World → Prop) (Jx : World → Prop)
    (hJb : ∀ s A B, J s A → Below A.heap.size A B → J s B)
    (hJs : ∀ s A, J (s + 1) A → (Num.look p (Num.membersTo (s + 1) 8)).err ≠ 0 → J s A)
    (hY : ∀ s A aa al ac xa xl xc ya yl yc ga gl gc, J (s + 1) A → s + 1 < 2 ^ (cl + rl) → Below W.heap.size W A → Handed p (s + 1) A aa al xa xl ya yl ga gl →
      YieldAt Fence.wide (n - 1) Tryz.prog l #[.slice aa al ac, .agg #[.slice xa xl xc, .int .i64 (Num.look p (Num.membersTo (s + 1) 8)).xd, .slice ya yl yc, .int .i64 (Num.look p (Num.membersTo (s + 1) 8)).yd, .slice ga gl gc, .int .i64 (Num.look p (Num.membersTo (s + 1) 8)).gd]] A fun e B =>
        (e = .returned (.bool true) ∧ J s B ∧ Below A.heap.size A B) ∨ (e = .returned (.bool false) ∧ Jx B))
    (h0 : J (2 ^ (cl + rl) - 1) W) :
    CallsIn Fence.wide n Tryz.prog 26 #[.func (.yield l) #[] #[], .pointer (some ⟨b, 0, none⟩)] W fun e B => (∃ v, e = .returned v) ∧ (J 0 B ∨ Jx B) := by
  refine CallsIn.mono (iter_gen ca cl cc ra rl rc p W hc.1 hr.1 hm b l n (fun s A => J s A ∧ Below W.heap.size W A) Jx
    (fun s A h => ⟨carry h.2 hb0, carry h.2 hb1, Ints.below hc h.2 (Nat.le_refl _), RowsAt.below hr h.2 (Nat.le_refl _)⟩)
    (fun s A B h hb => ⟨hJb s A B h.1 hb, bstep h.2 hb⟩) (fun s A h he => ⟨hJs s A h.1 he, h.2⟩) ?_ ⟨h0, Below.refl _ _⟩) ?_
  · intro s A aa al ac xa xl xc ya yl yc ga gl gc hj hs hH
    obtain ⟨fn, tmps, assign, body, hy, hR⟩ := hY s A aa al ac xa xl xc ya yl yc ga gl gc hj.1 hs hj.2 hH
    refine ⟨fn, tmps, assign, body, hy, hR.mono ?_⟩
    rintro e B (⟨h1, h2, h3⟩ | h)
    · exact Or.inl ⟨h1, h2, bstep hj.2 h3⟩
    · exact Or.inr h
  · rintro e B ⟨h1, h2 | h2⟩
    · exact ⟨h1, Or.inl h2.1⟩
    · exact ⟨h1, Or.inr h2⟩

end Go.Proofs.YtipcbhodlgoflabGreat
