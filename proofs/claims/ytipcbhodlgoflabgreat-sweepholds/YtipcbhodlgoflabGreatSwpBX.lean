/- What sweep.bestLines does. -/
import Derived.RegionIn
import Derived.Test.YtipcbhodlgoflabGreatSwpB0
import Derived.Test.YtipcbhodlgoflabGreatSwpCC
import Derived.Test.YtipcbhodlgoflabGreatSwpPN
import Derived.Test.YtipcbhodlgoflabGreatSlvE
namespace Go.Proofs.YtipcbhodlgoflabGreat
open Go.RowKit Go.Shelf

attribute [local go_sem] Oper.semAt_some

theorem BL.new (w : World) (ca : Option Addr) (cl cc : Nat) (ra : Option Addr) (rl rc : Nat) (ba : Option Addr) (bl bc : Nat) (t0 t1 t3 t4 t5 : TypeId) :
    BL w ca cl cc ra rl rc ba bl bc [] false ((((((w.alloc (.cells #[.slice ca cl cc, .slice ra rl rc] t0)).alloc (.cells #[.slice ba bl bc] t1)).alloc (.map #[] 0)).alloc (.cells #[.map (some (w.heap.size + 1 + 1))] t3)).alloc (.cells #[.bool false] t4)).alloc (.cells #[.slice ca cl cc, .slice ra rl rc] t5)) :=
  ⟨bstep (bstep (bstep (bstep (bstep (balloc _ _) (balloc _ _)) (balloc _ _)) (balloc _ _)) (balloc _ _)) (balloc _ _),
   (((((Bx.new rfl _ _).step (balloc _ _)).step (balloc _ _)).step (balloc _ _)).step (balloc _ _)).step (balloc _ _),
   ((((Bx.new (by simp) _ _).step (balloc _ _)).step (balloc _ _)).step (balloc _ _)).step (balloc _ _),
   (((by simpa using MapIs.new ((w.alloc (.cells #[.slice ca cl cc, .slice ra rl rc] t0)).alloc (.cells #[.slice ba bl bc] t1)) : MapIs _ (w.heap.size + 1 + 1) []).below (balloc _ _)).below (balloc _ _)).below (balloc _ _),
   ((Bx.new (by simp) _ _).step (balloc _ _)).step (balloc _ _),
   (Bx.new (by simp) _ _).step (balloc _ _),
   Bx.new (by simp) _ _⟩

theorem Num.EnOk.bd {a : Num.En} (h : Num.EnOk a) : (-1073741824 ≤ a.n ∧ a.n ≤ 1073741824) ∧ (-1073741824 ≤ a.d ∧ a.d ≤ 1073741824) := by
  rcases h with ⟨_, h1, h2⟩ | ⟨_, h2⟩
  · rw [h1, h2]; omega
  · have := Num.mayB_bd _ _ h2
    rw [Num.withinB_one] at this
    simp only [Bool.and_eq_true, decide_eq_true_eq] at this
    omega

theorem Num.lower_ok (a b : Num.En) (ha : Num.EnOk a) (hb : Num.EnOk b) : Num.EnOk (Num.lowerN a b) := by
  rcases Num.lower_one a b ha hb with h | h <;> rw [h] <;> assumption
theorem Num.higher_ok (a b : Num.En) (ha : Num.EnOk a) (hb : Num.EnOk b) : Num.EnOk (Num.higherN a b) := by
  rcases Num.higher_one a b ha hb with h | h <;> rw [h] <;> assumption

theorem pc_ok (x : Num.Pc) (hf : Num.EnOk x.f) (ht : Num.EnOk x.t) (hb : Num.mayB x.bd [x.bn] = true) (hs : Num.mayB x.sd [x.sn] = true) : Num.PcOk x := by
  have h1 := Num.mayB_bd _ _ hb
  have h2 := Num.mayB_bd _ _ hs
  rw [Num.withinB_one] at h1 h2
  simp only [Bool.and_eq_true, decide_eq_true_eq] at h1 h2
  exact ⟨hf.bd.1, hf.bd.2, ht.bd.1, ht.bd.2, by omega, by omega, by omega, by omega⟩

/-- A corner that is not good adds nothing. -/
theorem best_skip {p : Num.Lp} {b : List Int} {rl cl : Nat} (cx : Num.Ctx p b rl cl) (M s : Nat) (hs : s + 1 < M) (h : (Num.look p (Num.membersTo (s + 1) 8)).err ≠ 0 ∨ Num.anyNeg (Num.look p (Num.membersTo (s + 1) 8)).x = true) :
    Num.linesN p b rl cl (Num.setsN M s) = Num.linesN p b rl cl (Num.setsN M (s + 1)) ∧ (Num.setsN M s).any (Num.goodB p) = (Num.setsN M (s + 1)).any (Num.goodB p) := by
  have hg : Num.goodB p (Num.membersTo (s + 1) 8) = false := by
    cases hc : Num.goodB p (Num.membersTo (s + 1) 8) with
    | false => rfl
    | true =>
      have := (Num.good_of p _ rl cl cx.may cx.hm cx.hn).2 ((Num.goodB_iff p _ rl cl cx.may cx.hm cx.hn).1 hc)
      rcases h with h | h
      · exact absurd this.1 h
      · rw [this.2] at h; cases h
  rw [Num.sets_down M s hs, Num.lines_snoc, List.any_append]
  refine ⟨if_neg (fun hu => ?_), by simp [hg]⟩
  rw [Num.used_good p b rl cl _ hu] at hg
  cases hg

set_option maxRecDepth 12000 in
set_option maxHeartbeats 800000 in
theorem bestLines_any (ca : Option Addr) (cl cc : Nat) (ra : Option Addr) (rl rc : Nat) (p : Num.Lp) (w : World) (hc : Ints w ca cl p.costs) (hr : RowsAt w ra rl p.rows) (ba : Option Addr) (bl bc : Nat) (b : List Int) (hb : Ints w ba bl b) (cx : Num.Ctx p b rl cl) :
    Calls Tryz.prog 10 #[.agg #[.slice ca cl cc, .slice ra rl rc], .slice ba bl bc] w fun e w' => e = .returned (.tuple #[.map (some (w.heap.size + 1 + 1)), .bool ((Num.setsN (2 ^ (cl + rl)) 0).any (Num.goodB p))]) ∧ MapIs w' (w.heap.size + 1 + 1) (Num.linesN p b rl cl (Num.setsN (2 ^ (cl + rl)) 0)) ∧ Below w.heap.size w w' := by
  have HC : Hid (Ints w ca cl p.costs) := hc
  have HR : Hid (RowsAt w ra rl p.rows) := hr
  have HBB : Hid (Ints w ba bl b) := hb
  have CX : Hid (Num.Ctx p b rl cl) := cx
  have hc4 : cl ≤ 4 ∧ 1 ≤ cl := ⟨cx.n4, cx.n1⟩
  have hr4 : rl ≤ 4 ∧ 1 ≤ rl := ⟨cx.h4, cx.h1⟩
  have hbl4 : bl = cl := hb.1.trans cx.hb
  clear hc hr hb cx
  subst hbl4
  obtain ⟨n, hn9⟩ : ∃ n : Nat, n = 9 := ⟨_, rfl⟩
  clear hn9
  have hmk : ∀ W : World, (Instr.makeMap 50 none).run Tryz.prog W = .ok (.map (some W.heap.size)) (W.alloc (.map #[] 0)) := fun _ => rfl
  have hN := BL.new w ca bl cc ra rl rc ba bl bc 25 22 50 4 25
  obtain ⟨M, hM⟩ : ∃ M, 2 ^ (bl + rl) = M := ⟨_, rfl⟩
  have hM1 : 1 ≤ M := by rw [← hM]; exact Nat.pow_pos (by omega)
  refine (callsIn_wide (n := n)).1 ?_
  refine callsIn_of_wp_marks Tryz.func10 rfl trivial ?_ rfl
  simp only [Tryz.ntmps10, List.size_toArray, List.length_cons, List.length_nil, Nat.reduceAdd, Nat.reduceSub, Array.replicate_succ, Array.replicate_zero, List.push_toArray, List.append_toArray, List.nil_append, List.cons_append]
  gi_wp2_with fail
  refine wide_call ((corners_any ca bl cc ra rl rc _).mono ?_)
  rintro e w2 ⟨rfl, hw2⟩
  have hN2 : BL w ca bl cc ra rl rc ba bl bc [] false w2 := by rw [hw2]; exact hN
  have HS2 : Hid (w2.heap.size = w.heap.size + 6) := by show _ = _; rw [hw2]; simp
  clear hw2 hN
  gi_wp2_with fail
  refine range_all (gf := 26) (lb := #[.pointer (some ⟨w.heap.size + 1 + 1 + 1 + 1 + 1, 0, none⟩)]) rfl (enters_of Tryz.func26 (by kernel_rfl) rfl) (M - 1)
    (fun s A => s < M ∧ BL w ca bl cc ra rl rc ba bl bc (Num.linesN p b rl bl (Num.setsN M s)) ((Num.setsN M s).any (Num.goodB p)) A) (fun s => (Num.look p (Num.membersTo (s + 1) 8)).err ≠ 0)
    (fun s A vs => ∃ aa al ac xa xl xc ya yl yc ga gl gc, vs = #[.slice aa al ac, .agg #[.slice xa xl xc, .int .i64 (Num.look p (Num.membersTo (s + 1) 8)).xd, .slice ya yl yc, .int .i64 (Num.look p (Num.membersTo (s + 1) 8)).yd, .slice ga gl gc, .int .i64 (Num.look p (Num.membersTo (s + 1) 8)).gd]] ∧ Handed p (s + 1) A aa al xa xl ya yl ga gl)
    ?hsz ?hKb ?hKs ?hKl ?h0 ?hiter ?hround ?hdone
  case hsz =>
    rintro s A vs ⟨aa, al, ac, xa, xl, xc, ya, yl, yc, ga, gl, gc, rfl, _⟩
    rfl
  case hKb => exact fun s A B h hb => ⟨h.1, h.2.step hb⟩
  case hKs =>
    rintro s A ⟨hs, h⟩ hk
    refine ⟨by omega, ?_⟩
    rw [(best_skip CX.out M s hs (Or.inl hk)).1, (best_skip CX.out M s hs (Or.inl hk)).2]
    exact h
  case hKl => exact fun s A l o r hl _ h => ⟨h.1, h.2.putL l o (by have := HS2.out; omega)⟩
  case h0 =>
    refine ⟨by omega, ?_⟩
    rw [Num.sets_top]
    exact hN2
  case hiter =>
    intro l J Jx W hJK hJb hJs hY hJ0
    have h := iter_gen ca bl cc ra rl rc p W CX.out.hn CX.out.hm CX.out.may (w.heap.size + 1 + 1 + 1 + 1 + 1) l (n - 1) J Jx
      (fun s A hJ => by
        have hB := (hJK s A hJ).2
        exact ⟨hB.cb.c 0 _ rfl, hB.cb.c 1 _ rfl, Ints.below HC.out hB.bel (Nat.le_refl _), RowsAt.below HR.out hB.bel (Nat.le_refl _)⟩)
      hJb hJs (fun s A aa al ac xa xl xc ya yl yc ga gl gc hj _ hH => hY s A _ hj ⟨aa, al, ac, xa, xl, xc, ya, yl, yc, ga, gl, gc, rfl, hH⟩) (by rw [hM]; exact hJ0)
    exact h
  case hdone =>
    rintro B ⟨_, hB⟩ hK
    have m0 := hB.mb.c 0 _ rfl
    have g0 := hB.gb.c 0 _ rfl
    have HZ : Hid _ := (hB.move (A' := B.drew) ((Below.refl _ _).drew)).putL w2.heap.size (.deferred none) (by have := HS2.out; omega)
    have HK : Hid (B.drew.heap[w2.heap.size]? = some (.deferred (some []))) := hK
    clear hB hK
    gi_wp2_with fail
    gi_region
    gi_wp2_with fail
    refine ⟨by simp, .inl ⟨_, _, rfl, run_takeDeferred HK.out, ?_⟩⟩
    refine ⟨.tuple #[.map (some (w.heap.size + 1 + 1)), .bool ((Num.setsN M 0).any (Num.goodB p))], ?_, ?_⟩
    · simp [results, Tryz.results10, go_sem]
    · rw [hM]
      exact ⟨rfl, HZ.out.mp, HZ.out.bel⟩
  case hround =>
    rintro s A vs ⟨hsM, hBL⟩ ⟨aa, al, ac, xa, xl, xc, ya, yl, yc, ga, gl, gc, rfl, hH⟩ ⟨r, hloop⟩ hlt
    obtain ⟨hri, hden⟩ := Num.ok_right p (Num.membersTo (s + 1) 8) rl bl CX.out.hm CX.out.hn hH.ok
    obtain ⟨_, hxlen, _⟩ := Num.look_parts p (Num.membersTo (s + 1) 8) rl bl CX.out.may CX.out.hm CX.out.hn hri hden
    have HOK : Hid _ := hH.ok
    have hxl : xl = bl + rl := by have := hH.x.1; omega
    have HRI : Hid _ := hri
    have HDEN : Hid _ := hden
    have HHA : Hid _ := hH.at'
    have HHX : Hid _ := hH.x
    have hal : al = rl := by have := hH.at'.1; have := (Num.right_all _ _ _ hri).1; omega
    have HSK : Hid (Num.anyNeg (Num.look p (Num.membersTo (s + 1) 8)).x = true → Num.linesN p b rl bl (Num.setsN M s) = Num.linesN p b rl bl (Num.setsN M (s + 1)) ∧ (Num.setsN M s).any (Num.goodB p) = (Num.setsN M (s + 1)).any (Num.goodB p)) := fun h => best_skip CX.out M s hsM (Or.inr h)
    have HDN : Hid (Num.setsN M s = Num.setsN M (s + 1) ++ [Num.membersTo (s + 1) 8]) := Num.sets_down M s hsM
    clear hri hden hH hxlen
    subst hxl hal
    generalize hat : Num.membersTo (s + 1) 8 = at' at *
    clear hat
    gi_wp2_with fail
    refine ⟨balloc _ _, fun o => ?_⟩
    have hsx := Six.new A (.slice xa (bl + al) xc) (.int .i64 (Num.look p at').xd) (.slice ya yl yc) (.int .i64 (Num.look p at').yd) (.slice ga gl gc) (.int .i64 (Num.look p at').gd) 60
    have hloop1 : (A.alloc (.cells #[.slice xa (bl + al) xc, .int .i64 (Num.look p at').xd, .slice ya yl yc, .int .i64 (Num.look p at').yd, .slice ga gl gc, .int .i64 (Num.look p at').gd] 60)).heap[w2.heap.size + 1]? = some (.loop r) := (Below.heap_alloc _ _ _ (Array.getElem?_eq_some_iff.1 hloop).1).trans hloop
    have s0 := cell_putObj o hloop1 hsx.c0
    have s1 := cell_putObj o hloop1 hsx.c1
    have HIA : Hid (Ints ((A.alloc (.cells #[.slice xa (bl + al) xc, .int .i64 (Num.look p at').xd, .slice ya yl yc, .int .i64 (Num.look p at').yd, .slice ga gl gc, .int .i64 (Num.look p at').gd] 60)).putObj (w2.heap.size + 1) o) aa al at') := Ints.putObj o hloop1 (Ints.below HHA.out hsx.bel (Nat.le_refl _))
    have HIX : Hid (Ints ((A.alloc (.cells #[.slice xa (bl + al) xc, .int .i64 (Num.look p at').xd, .slice ya yl yc, .int .i64 (Num.look p at').yd, .slice ga gl gc, .int .i64 (Num.look p at').gd] 60)).putObj (w2.heap.size + 1) o) xa (bl + al) (Num.look p at').x) := Ints.putObj o hloop1 (Ints.below HHX.out hsx.bel (Nat.le_refl _))
    have hBL2 := (hBL.step hsx.bel).putL (w2.heap.size + 1) o (by have := HS2.out; omega)
    have hszA : A.heap.size < ((A.alloc (.cells #[.slice xa (bl + al) xc, .int .i64 (Num.look p at').xd, .slice ya yl yc, .int .i64 (Num.look p at').yd, .slice ga gl gc, .int .i64 (Num.look p at').gd] 60)).putObj (w2.heap.size + 1) o).heap.size := by simp
    generalize hA2 : (A.alloc (.cells #[.slice xa (bl + al) xc, .int .i64 (Num.look p at').xd, .slice ya yl yc, .int .i64 (Num.look p at').yd, .slice ga gl gc, .int .i64 (Num.look p at').gd] 60)).putObj (w2.heap.size + 1) o = A2 at *
    generalize A.heap.size = bc2 at *
    clear hA2 hsx hloop1 hloop HHA HHX hBL
    gi_wp2_with fail
    refine wide_callR ((below_any xa (bl + al) xc (Num.look p at').x A2 HIX.out (by omega)).mono ?_)
    rintro e A9 ⟨rfl, hA9⟩
    rw [hA9]
    clear hA9 A9
    cases hneg : Num.anyNeg (Num.look p at').x with
    | true =>
      gi_wp2_with fail
      refine ⟨⟨by omega, ?_⟩, rfl, rfl⟩
      rw [(HSK.out hneg).1, (HSK.out hneg).2]
      exact hBL2
    | false =>
      have hBD2 : BD w ca bl cc ra al rc ba bl bc (Num.linesN p b al bl (Num.setsN M (s + 1))) ((Num.setsN M (s + 1)).any (Num.goodB p)) w2.heap.size A2 A2 := ⟨hBL2, rfl, rfl, by omega⟩
      have HBD3 : Hid _ := hBD2.goes HS2.out
      have p0 := hBL2.pb.c 0 _ rfl
      have p1 := hBL2.pb.c 1 _ rfl
      have b0 := hBL2.bb.c 0 _ rfl
      have g0 := hBL2.gb.c 0 _ rfl
      have fg := hBL2.gb.f 0
      have hwl : w.heap.size + 1 + 1 + 1 + 1 < bc2 := by have := HS2.out; omega
      have hIA3 := HIA.out.setNot (u := .bool true) g0 (fun z h => by cases h)
      have hIX3 := HIX.out.setNot (u := .bool true) g0 (fun z h => by cases h)
      have s3 : (A2.setCell ⟨w.heap.size + 1 + 1 + 1 + 1, 0, none⟩ (.bool true)).cell? ⟨bc2, 0, none⟩ = some (.slice xa (bl + al) xc) := by rw [World.cell?_setCell_other _ _ _ _ (fun e => by injection e with e1; omega)]; exact s0
      have s4 : (A2.setCell ⟨w.heap.size + 1 + 1 + 1 + 1, 0, none⟩ (.bool true)).cell? ⟨bc2, 1, none⟩ = some (.int .i64 (Num.look p at').xd) := by rw [World.cell?_setCell_other _ _ _ _ (fun e => by injection e with e1; omega)]; exact s1
      clear hBL2 hBD2
      gi_wp2_with fail
      clear p0 p1 b0 g0 fg s0 s1 HIA HIX
      generalize A2.setCell ⟨w.heap.size + 1 + 1 + 1 + 1, 0, none⟩ (.bool true) = A3 at *
      have HIA3 : Hid _ := hIA3
      have HIX3 : Hid _ := hIX3
      clear hIA3 hIX3
      refine wide_callR ((spanCosts_any ca bl cc ra al rc p A3 (Ints.below HC.out HBD3.out.bl.bel (Nat.le_refl _)) (by omega) (RowsAt.below HR.out HBD3.out.bl.bel (Nat.le_refl _)) (by omega) aa al ac at' HIA3.out (by omega) ba bl bc b (Ints.below HBB.out HBD3.out.bl.bel (Nat.le_refl _)) (by omega)).mono ?_)
      rintro e w3 ⟨rfl, hb3⟩
      have hcv : costsV p at' b = endsV (Num.costsS p b al bl at') := by
        unfold costsV
        rw [if_neg (by rw [HOK.out]; simp), if_pos ⟨CX.out.hb.trans CX.out.hn, ((Num.withC p b).may_of CX.out.bmay).2.1⟩]
        unfold Num.costsN Num.costsS
        rw [← CX.out.hn, ← CX.out.hm]
      rw [hcv]
      have hgood : Num.goodB p at' = true := (Num.goodB_iff p at' al bl CX.out.may CX.out.hm CX.out.hn).2 ((Num.good_of p at' al bl CX.out.may CX.out.hm CX.out.hn).1 ⟨HOK.out, hneg⟩)
      have hany : (Num.setsN M s).any (Num.goodB p) = true := by rw [HDN.out, List.any_append]; simp [hgood]
      have HBDw : Hid _ := HBD3.out.step hb3
      have s5 := carry hb3 s3
      have s6 := carry hb3 s4
      have HIX4 : Hid _ := Ints.below HIX3.out hb3 (Nat.le_refl _)
      clear hcv s3 s4 hb3 HIX3 HIA3 HBD3
      cases hem : Num.emptyS (Num.costsS p b al bl at') with
      | true =>
        have hlin : Num.linesN p b al bl (Num.setsN M s) = Num.linesN p b al bl (Num.setsN M (s + 1)) := by
          rw [HDN.out, Num.lines_snoc, if_neg (by unfold Num.usedB; rw [hem]; simp)]
        have hev : endsV (Num.costsS p b al bl at') = .tuple #[.agg #[.bool false, .int .i64 0, .int .i64 0], .agg #[.bool false, .int .i64 0, .int .i64 0], .int .i64 4] := by
          unfold endsV; rw [if_pos hem]
        rw [hev]
        clear hev
        have HLIN : Hid _ := hlin
        have HANY : Hid _ := hany
        clear hlin hany
        gi_wp2_with fail
        exact ((HBDw.out.step (balloc _ _)).step (balloc _ _)).post (by omega) HLIN.out HANY.out
      | false =>
        have hev : endsV (Num.costsS p b al bl at') = .tuple #[.agg #[.bool (Num.costsS p b al bl at').o, .int .i64 (Num.costsS p b al bl at').n, .int .i64 (Num.costsS p b al bl at').d], .agg #[.bool (Num.costsS p b al bl at').o2, .int .i64 (Num.costsS p b al bl at').n2, .int .i64 (Num.costsS p b al bl at').d2], .int .i64 0] := by
          unfold endsV; rw [if_neg (by rw [hem]; simp)]
        rw [hev]
        clear hev
        have hused : Num.usedB p b al bl at' = true := by unfold Num.usedB; rw [hgood, hem]; rfl
        have HLIN : Hid (Num.linesN p b al bl (Num.setsN M s) = Num.joinedN (Num.linesN p b al bl (Num.setsN M (s + 1))) (Num.pieceN p b al bl at')) := by
          show _ = _
          rw [HDN.out, Num.lines_snoc, if_pos hused]
        obtain ⟨u, v, eW1, mW1, _⟩ := Num.worth_is CX.out at' ((Num.good_of p at' al bl CX.out.may CX.out.hm CX.out.hn).1 ⟨HOK.out, hneg⟩) p.costs CX.out.hn.symm (p.may_of CX.out.may).2.1
        obtain ⟨u2, v2, eW2, mW2, _⟩ := Num.worth_is CX.out at' ((Num.good_of p at' al bl CX.out.may CX.out.hm CX.out.hn).1 ⟨HOK.out, hneg⟩) b CX.out.hb ((Num.withC p b).may_of CX.out.bmay).2.1
        have hFok := CX.out.fromOk at' hused
        have hTok := CX.out.toOk at' hused
        have hpc : Num.pieceN p b al bl at' = ⟨Num.sFrom (Num.costsS p b al bl at'), Num.sTo (Num.costsS p b al bl at'), u, v, u2, v2⟩ := by
          unfold Num.pieceN Num.baseF Num.slopeF
          rw [eW1, eW2]
        have HCAN : Hid _ := Num.canon_lines CX.out (Num.setsN M (s + 1))
        have HANY : Hid _ := hany
        clear hany hem hused
        generalize Num.costsS p b al bl at' = SS at *
        obtain ⟨so, sn, sd, so2, sn2, sd2, sno⟩ := SS
        simp only [Num.sFrom, Num.sTo] at hFok hTok hpc
        rw [hpc] at HLIN
        have HFOK : Hid _ := hFok
        have HTOK : Hid _ := hTok
        have hPok : Num.PcOk ⟨⟨so, sn, sd⟩, ⟨so2, sn2, sd2⟩, u, v, u2, v2⟩ := pc_ok _ hFok hTok mW1 mW2
        have HPOK : Hid _ := hPok
        clear hpc hFok hTok hPok
        gi_wp2_with fail
        have hFT : Bx w3.heap.size [.bool so, .int .i64 sn, .int .i64 sd] ((w3.alloc (.cells #[.bool so, .int .i64 sn, .int .i64 sd] 45)).alloc (.cells #[.bool so2, .int .i64 sn2, .int .i64 sd2] 45)) := (Bx.new rfl _ _).step (balloc _ _)
        have hTT : Bx (w3.heap.size + 1) [.bool so2, .int .i64 sn2, .int .i64 sd2] ((w3.alloc (.cells #[.bool so, .int .i64 sn, .int .i64 sd] 45)).alloc (.cells #[.bool so2, .int .i64 sn2, .int .i64 sd2] 45)) := Bx.new (by simp) _ _
        have hb5 := bstep (balloc w3 (.cells #[.bool so, .int .i64 sn, .int .i64 sd] 45)) (balloc _ (.cells #[.bool so2, .int .i64 sn2, .int .i64 sd2] 45))
        have hw3 : w2.heap.size + 1 < w3.heap.size := HBDw.out.lt
        generalize (w3.alloc (.cells #[.bool so, .int .i64 sn, .int .i64 sd] 45)).alloc (.cells #[.bool so2, .int .i64 sn2, .int .i64 sd2] 45) = V at *
        have HBDV : Hid _ := HBDw.out.step hb5
        have s7 := carry hb5 s5
        have s8 := carry hb5 s6
        have HIXV : Hid _ := Ints.below HIX4.out hb5 (Nat.le_refl _)
        have HFT : Hid _ := hFT
        have HTT : Hid _ := hTT
        obtain ⟨_, _, _, _, hxb, _⟩ := Num.look_parts p at' al bl CX.out.may CX.out.hm CX.out.hn HRI.out HDEN.out
        have HXB : Hid (∀ j : Nat, -1073741824 ≤ (Num.look p at').x[j]?.getD 0 ∧ (Num.look p at').x[j]?.getD 0 ≤ 1073741824) := fun j => by have := hxb j; omega
        have HEW1 : Hid _ := eW1
        have HEW2 : Hid _ := eW2
        have HMW1 : Hid _ := mW1
        have HMW2 : Hid _ := mW2
        have K1 : Hid (∀ w', Below V.heap.size V w' → Calls Tryz.prog 21 #[.slice ca bl cc, .agg #[.slice xa (bl + al) xc, .int .i64 (Num.look p at').xd]] w' fun e w'' => e = .returned (.agg #[.int .i64 u, .int .i64 v]) ∧ Below V.heap.size V w'' ∧ Below w'.heap.size w' w'') := by
          intro w' h
          have hB := bstep HBDV.out.bl.bel h
          exact (sworth_any ca bl cc p.costs xa (bl + al) xc (Num.look p at').x (Num.look p at').xd u v 0 w' (Ints.below HC.out hB (Nat.le_refl _)) (Ints.below HIXV.out h (Nat.le_refl _)) (by omega) (by omega) (Num.withinB_iff _ _ (p.may_of CX.out.may).2.1 (by omega)) HXB.out HEW1.out).mono fun _ _ k => ⟨k.1, bstep h k.2, k.2⟩
        have K2 : Hid (∀ w', Below V.heap.size V w' → Calls Tryz.prog 21 #[.slice ba bl bc, .agg #[.slice xa (bl + al) xc, .int .i64 (Num.look p at').xd]] w' fun e w'' => e = .returned (.agg #[.int .i64 u2, .int .i64 v2]) ∧ Below V.heap.size V w'' ∧ Below w'.heap.size w' w'') := by
          intro w' h
          have hB := bstep HBDV.out.bl.bel h
          exact (sworth_any ba bl bc b xa (bl + al) xc (Num.look p at').x (Num.look p at').xd u2 v2 0 w' (Ints.below HBB.out hB (Nat.le_refl _)) (Ints.below HIXV.out h (Nat.le_refl _)) (by omega) (by omega) (Num.withinB_iff _ _ ((Num.withC p b).may_of CX.out.bmay).2.1 (by omega)) HXB.out HEW2.out).mono fun _ _ k => ⟨k.1, bstep h k.2, k.2⟩
        have HBP : Hid _ := HBDV.out.bl
        have q0 : ∀ w', Below V.heap.size V w' → w'.cell? ⟨w.heap.size, 0, none⟩ = some (.slice ca bl cc) := fun w' h => carry h (HBP.out.pb.c 0 _ rfl)
        have q1 : ∀ w', Below V.heap.size V w' → w'.cell? ⟨w.heap.size + 1, 0, none⟩ = some (.slice ba bl bc) := fun w' h => carry h (HBP.out.bb.c 0 _ rfl)
        have q2 : ∀ w', Below V.heap.size V w' → w'.cell? ⟨bc2, 0, none⟩ = some (.slice xa (bl + al) xc) := fun w' h => carry h s7
        have q3 : ∀ w', Below V.heap.size V w' → w'.cell? ⟨bc2, 1, none⟩ = some (.int .i64 (Num.look p at').xd) := fun w' h => carry h s8
        clear hFT hTT hb5 s5 s6 HIX4 eW1 eW2 mW1 mW2 hxb
        refine region_inRound (S := fun w' => Below V.heap.size V w') (by rintro ⟨a0, w0, h⟩; exact h) rfl (by kernel_rfl) ((Below.refl _ _).drew) (fun hHeld => ?_)
        refine takeR (i := 0) (v := ?_) rfl (by kernel_rfl) (by kernel_rfl) (by kernel_rfl) (fun _ _ _ h => h) (Or.inl ⟨by rfl, ?_⟩) (by assumption) ?_
        rotate_left
        · (intro w' hSw; go_simp; (try with_reducible rfl))
        simp only [Act.put, List.setIfInBounds_toArray, List.set_cons_zero, List.set_cons_succ]
        refine takeR (i := 1) (v := ?_) rfl (by kernel_rfl) (by kernel_rfl) (by kernel_rfl) (fun _ _ _ h => h) (Or.inl ⟨by rfl, ?_⟩) (by assumption) ?_
        rotate_left
        · (intro w' hSw; go_simp; (try with_reducible rfl))
        simp only [Act.put, List.setIfInBounds_toArray, List.set_cons_zero, List.set_cons_succ]
        refine takeR (i := 2) (v := ?_) rfl (by kernel_rfl) (by kernel_rfl) (by kernel_rfl) (fun _ _ _ h => h) (Or.inl ⟨by rfl, ?_⟩) (by assumption) ?_
        rotate_left
        · (intro w' hSw; go_simp; (try with_reducible rfl))
        simp only [Act.put, List.setIfInBounds_toArray, List.set_cons_zero, List.set_cons_succ]
        refine takeR (i := 3) (v := ?_) rfl (by kernel_rfl) (by kernel_rfl) (by kernel_rfl) (fun _ _ _ h => h) (Or.inl ⟨by rfl, ?_⟩) (by assumption) ?_
        rotate_left
        · (intro w' hSw; go_simp; (try with_reducible rfl))
        simp only [Act.put, List.setIfInBounds_toArray, List.set_cons_zero, List.set_cons_succ]
        refine takeR (i := 5) (v := ?_) rfl (by kernel_rfl) (by kernel_rfl) (by kernel_rfl) (fun _ _ _ h => h) (Or.inl ⟨by rfl, ?_⟩) (by assumption) ?_
        rotate_left
        · (intro w' hSw; go_simp; (try with_reducible rfl))
        simp only [Act.put, List.setIfInBounds_toArray, List.set_cons_zero, List.set_cons_succ]
        refine takeR (i := 6) (v := ?_) rfl (by kernel_rfl) (by kernel_rfl) (by kernel_rfl) (fun _ _ _ h => h) (Or.inl ⟨by rfl, ?_⟩) (by assumption) ?_
        rotate_left
        · (intro w' hSw; go_simp; (try with_reducible rfl))
        simp only [Act.put, List.setIfInBounds_toArray, List.set_cons_zero, List.set_cons_succ]
        refine takeR (i := 7) (v := ?_) rfl (by kernel_rfl) (by kernel_rfl) (by kernel_rfl) (fun _ _ _ h => h) (Or.inl ⟨by rfl, ?_⟩) (by assumption) ?_
        rotate_left
        · (intro w' hSw; go_simp; (try with_reducible rfl))
        simp only [Act.put, List.setIfInBounds_toArray, List.set_cons_zero, List.set_cons_succ]
        refine wpAnyH_ready (rs := [4, 10]) (by kernel_rfl) (by simp) ?_
        refine readyR2 rfl rfl (fun K hK => ?_) (fun K hK => ?_)
        · skip
          go_simp
          refine (K1.out _ (by assumption)).mono ?_
          rintro e v1 ⟨rfl, hb1, hk1⟩
          refine hK.out _ _ hb1 (fun hHeld => ?_)
          clear hK K
          refine wpAnyH_ready (rs := [8, 10]) (by kernel_rfl) (by simp) ?_
          refine readyR2 rfl rfl (fun K hK => ?_) (fun K hK => ?_)
          · skip
            go_simp
            refine (K2.out _ (by assumption)).mono ?_
            rintro e v2' ⟨rfl, hb2, hk2⟩
            refine hK.out _ _ hb2 (fun hHeld => ?_)
            clear hK K
            refine takeR (i := 9) (v := ?_) rfl (by kernel_rfl) (by kernel_rfl) (by kernel_rfl) (fun _ _ _ h => h) (Or.inl ⟨by rfl, ?_⟩) (by assumption) ?_
            rotate_left
            · (intro w' hSw; go_simp; (try with_reducible rfl))
            simp only [Act.put, List.setIfInBounds_toArray, List.set_cons_zero, List.set_cons_succ]
            refine wpAnyH_ready (rs := [10]) (by kernel_rfl) (by simp) ?_
            refine readyR rfl (fun K hK => ?_)
            go_simp
            refine hK.out _ _ ?_ (fun hHeld => ?_)
            · exact Below.alloc hb2 hb2.size _
            clear hK K
            refine wpAnyH_ready (rs := [11]) (by kernel_rfl) (by simp) ?_
            refine readyR rfl (fun K hK => ?_)
            go_simp
            refine hK.out _ _ ?_ (fun hHeld => ?_)
            · exact Below.alloc hb2 hb2.size _
            clear hK K
            refine wpAnyH_done (by kernel_rfl) ?_ _
            have hNX : Bx v2'.heap.size [.int .i64 u, .int .i64 v, .int .i64 u2, .int .i64 v2] (v2'.alloc (.cells #[.int .i64 u, .int .i64 v, .int .i64 u2, .int .i64 v2] 72)) := Bx.new rfl _ _
            have hVX : Below V.heap.size V (v2'.alloc (.cells #[.int .i64 u, .int .i64 v, .int .i64 u2, .int .i64 v2] 72)) := Below.alloc hb2 hb2.size _
            have hnb : V.heap.size ≤ v2'.heap.size := hb2.size
            clear q0 q1 q2 q3 K1 K2 hHeld
            generalize v2'.alloc (.cells #[.int .i64 u, .int .i64 v, .int .i64 u2, .int .i64 v2] 72) = X at *
            generalize v2'.heap.size = nb at *
            have hBX := HBDV.out.step hVX
            have hFX := HFT.out.step hVX
            have hTX := HTT.out.step hVX
            have hX0 : w2.heap.size + 1 < X.heap.size := hBX.lt
            obtain ⟨f0, f1, f2, -⟩ := hFX.all3
            obtain ⟨t0, t1, t2, -⟩ := hTX.all3
            obtain ⟨n0, n1, n2, n3, -⟩ := hNX.all4
            have m0 := hBX.bl.mb.c 0 _ rfl
            have hW := Bx.new (w := X) rfl [.bool so, .int .i64 sn, .int .i64 sd, .bool so2, .int .i64 sn2, .int .i64 sd2] 74
            have hNW := hNX.step (balloc X (.cells #[.bool so, .int .i64 sn, .int .i64 sd, .bool so2, .int .i64 sn2, .int .i64 sd2] 74))
            have hBW := hBX.step (balloc X (.cells #[.bool so, .int .i64 sn, .int .i64 sd, .bool so2, .int .i64 sn2, .int .i64 sd2] 74))
            have hnX : nb < X.heap.size := hNX.lt
            have hwX : w.heap.size + 1 + 1 + 1 < X.heap.size := hBX.bl.mb.lt
            have HNW : Hid _ := hNW
            have HBW : Hid _ := hBW
            have HW : Hid _ := hW
            have hlk := hBW.bl.mp.look ⟨⟨so, sn, sd⟩, ⟨so2, sn2, sd2⟩, u, v, u2, v2⟩ HPOK.out
            simp only [lineV] at hlk
            clear hFX hTX hNX hBX hW hNW hBW
            rcases hlk with ⟨y, hy, hsame, hlook⟩ | ⟨hnone, hlook⟩
            · have hyf := HCAN.out.okf CX.out y hy
              have hyt := HCAN.out.okt CX.out y hy
              have HJ : Hid (Num.joinedN (Num.linesN p b al bl (Num.setsN M (s + 1))) ⟨⟨so, sn, sd⟩, ⟨so2, sn2, sd2⟩, u, v, u2, v2⟩ = Num.updN (Num.linesN p b al bl (Num.setsN M (s + 1))) (Num.mergeN y ⟨⟨so, sn, sd⟩, ⟨so2, sn2, sd2⟩, u, v, u2, v2⟩)) := Num.upd_join _ _ y HCAN.out.one hy hsame
              have hnum := HCAN.out.nums CX.out y hy
              have HZOK : Hid (Num.PcOk (Num.mergeN y ⟨⟨so, sn, sd⟩, ⟨so2, sn2, sd2⟩, u, v, u2, v2⟩)) := pc_ok _ (Num.lower_ok _ _ hyf HFOK.out) (Num.higher_ok _ _ hyt HTOK.out) hnum.1 hnum.2.1
              have HLV : Hid (lineV (Num.mergeN y ⟨⟨so, sn, sd⟩, ⟨so2, sn2, sd2⟩, u, v, u2, v2⟩) = .agg #[.int .i64 u, .int .i64 v, .int .i64 u2, .int .i64 v2]) := (lineV_eq (x := Num.mergeN y ⟨⟨so, sn, sd⟩, ⟨so2, sn2, sd2⟩, u, v, u2, v2⟩) (y := ⟨⟨so, sn, sd⟩, ⟨so2, sn2, sd2⟩, u, v, u2, v2⟩)).2 hsame
              have HYF : Hid _ := hyf
              have HYT : Hid _ := hyt
              simp only [strV] at hlook
              clear hyf hyt hy hsame hnum
              gi_wp2_with fail
              refine wide_callR ((spanning_any y ⟨⟨so, sn, sd⟩, ⟨so2, sn2, sd2⟩, u, v, u2, v2⟩ HYF.out HYT.out HFOK.out HTOK.out _).mono ?_)
              rintro e w6 ⟨rfl, hb6⟩
              have hW6 := (HW.out.step (balloc _ _)).step hb6
              have hN6 := (HNW.out.step (balloc _ _)).step hb6
              have hB6 := (HBW.out.step (balloc _ _)).step hb6
              have hX6 : X.heap.size + 1 < w6.heap.size := by have := hb6.size; simp at this; omega
              generalize Num.mergeN y ⟨⟨so, sn, sd⟩, ⟨so2, sn2, sd2⟩, u, v, u2, v2⟩ = Z at *
              have hB7 := (((((hB6.set (by have := HS2.out; omega) X.heap.size hX0 0 (.bool Z.f.o)).set (by have := HS2.out; omega) X.heap.size hX0 1 (.int .i64 Z.f.n)).set (by have := HS2.out; omega) X.heap.size hX0 2 (.int .i64 Z.f.d)).set (by have := HS2.out; omega) X.heap.size hX0 3 (.bool Z.t.o)).set (by have := HS2.out; omega) X.heap.size hX0 4 (.int .i64 Z.t.n)).set (by have := HS2.out; omega) X.heap.size hX0 5 (.int .i64 Z.t.d)
              have hW7 := (((((hW6.set 0 (.bool Z.f.o)).set 1 (.int .i64 Z.f.n)).set 2 (.int .i64 Z.f.d)).set 3 (.bool Z.t.o)).set 4 (.int .i64 Z.t.n)).set 5 (.int .i64 Z.t.d)
              have hN7 := hN6.other6 (show nb ≠ X.heap.size by omega) (.bool Z.f.o) (.int .i64 Z.f.n) (.int .i64 Z.f.d) (.bool Z.t.o) (.int .i64 Z.t.n) (.int .i64 Z.t.d)
              obtain ⟨⟨c0, c1, c2, c3, c4, c5⟩, g0, g1, g2, g3, g4, g5⟩ := hW6.all6
              obtain ⟨o1, hput, hmap⟩ := hB7.bl.mp.put Z HZOK.out
              have HFIN : Hid _ := (hB7.put HS2.out o1 _ hmap).post (M := M) (s := s) (by omega) (HLIN.out.trans HJ.out) HANY.out
              rw [HLV.out] at hput
              have m7 := hB7.bl.mb.c 0 _ rfl
              obtain ⟨d0, d1, d2, d3, -⟩ := hN7.all4
              obtain ⟨⟨e0, e1, e2, e3, e4, e5⟩, -⟩ := Bx.all6 hW7
              simp only [strV] at hput ⊢
              clear hlook hW6 hN6 hB6 hW7 hN7 hB7 hmap HLV HJ hb6 n0 n1 n2 n3 m0 f0 f1 f2 t0 t1 t2 HW HNW HBW
              gi_wp2_with fail
              exact HFIN.out
            · have HJ : Hid (Num.joinedN (Num.linesN p b al bl (Num.setsN M (s + 1))) ⟨⟨so, sn, sd⟩, ⟨so2, sn2, sd2⟩, u, v, u2, v2⟩ = Num.updN (Num.linesN p b al bl (Num.setsN M (s + 1))) ⟨⟨so, sn, sd⟩, ⟨so2, sn2, sd2⟩, u, v, u2, v2⟩) := (Num.join_none _ _ hnone).trans (Num.upd_none _ _ hnone).symm
              simp only [strV, zeroP] at hlook
              have hbk := balloc (X.alloc (.cells #[.bool so, .int .i64 sn, .int .i64 sd, .bool so2, .int .i64 sn2, .int .i64 sd2] 74)) (.cells #[.bool false, .int .i64 0, .int .i64 0, .bool false, .int .i64 0, .int .i64 0] 74)
              have hB7 := HBW.out.step hbk
              have hW7 := HW.out.step hbk
              have hN7 := HNW.out.step hbk
              obtain ⟨o1, hput, hmap⟩ := hB7.bl.mp.put ⟨⟨so, sn, sd⟩, ⟨so2, sn2, sd2⟩, u, v, u2, v2⟩ HPOK.out
              have HFIN : Hid _ := (hB7.put HS2.out o1 _ hmap).post (M := M) (s := s) (by omega) (HLIN.out.trans HJ.out) HANY.out
              have m7 := hB7.bl.mb.c 0 _ rfl
              obtain ⟨d0, d1, d2, d3, -⟩ := hN7.all4
              obtain ⟨⟨e0, e1, e2, e3, e4, e5⟩, -⟩ := hW7.all6
              simp only [strV, lineV] at hput
              clear hnone hW7 hN7 hB7 hmap HJ hbk HW HNW HBW
              gi_wp2_with fail
              exact HFIN.out
          · skip
            go_simp
            refine hK.out _ _ ?_ (fun hHeld => ?_)
            · exact Below.alloc hb1 hb1.size _
            clear hK K
            refine wpAnyH_ready (rs := [8]) (by kernel_rfl) (by simp) ?_
            refine readyR rfl (fun K hK => ?_)
            go_simp
            refine (K2.out _ (by assumption)).mono ?_
            rintro e v2' ⟨rfl, hb2, hk2⟩
            refine hK.out _ _ hb2 (fun hHeld => ?_)
            clear hK K
            have hNB := (Bx.new (w := v1) rfl [.int .i64 0, .int .i64 0, .int .i64 0, .int .i64 0] 72).step hk2
            obtain ⟨y0, y1, y2, y3, f0, f1, f2, f3⟩ := hNB.all4
            refine takeR (i := 9) (v := ?_) rfl (by kernel_rfl) (by kernel_rfl) (by kernel_rfl) (fun _ _ _ h => h) (Or.inl ⟨by rfl, ?_⟩) (by assumption) ?_
            rotate_left
            · (intro w' hSw; go_simp; (try with_reducible rfl))
            simp only [Act.put, List.setIfInBounds_toArray, List.set_cons_zero, List.set_cons_succ]
            refine wpAnyH_ready (rs := [11]) (by kernel_rfl) (by simp) ?_
            refine readyR rfl (fun K hK => ?_)
            go_simp
            refine hK.out _ _ ?_ (fun hHeld => ?_)
            · exact bset (bset (bset (bset hb2 hb1.size _) hb1.size _) hb1.size _) hb1.size _
            clear hK K
            refine wpAnyH_done (by kernel_rfl) ?_ _
            have hNX : Bx v1.heap.size [.int .i64 u, .int .i64 v, .int .i64 u2, .int .i64 v2] ((((v2'.setCell ⟨v1.heap.size, 0, none⟩ (.int .i64 u)).setCell ⟨v1.heap.size, 1, none⟩ (.int .i64 v)).setCell ⟨v1.heap.size, 2, none⟩ (.int .i64 u2)).setCell ⟨v1.heap.size, 3, none⟩ (.int .i64 v2)) := (((hNB.set 0 _).set 1 _).set 2 _).set 3 _
            have hVX : Below V.heap.size V ((((v2'.setCell ⟨v1.heap.size, 0, none⟩ (.int .i64 u)).setCell ⟨v1.heap.size, 1, none⟩ (.int .i64 v)).setCell ⟨v1.heap.size, 2, none⟩ (.int .i64 u2)).setCell ⟨v1.heap.size, 3, none⟩ (.int .i64 v2)) := bset (bset (bset (bset hb2 hb1.size _) hb1.size _) hb1.size _) hb1.size _
            have hnb : V.heap.size ≤ v1.heap.size := hb1.size
            clear q0 q1 q2 q3 K1 K2 hHeld
            generalize (((v2'.setCell ⟨v1.heap.size, 0, none⟩ (.int .i64 u)).setCell ⟨v1.heap.size, 1, none⟩ (.int .i64 v)).setCell ⟨v1.heap.size, 2, none⟩ (.int .i64 u2)).setCell ⟨v1.heap.size, 3, none⟩ (.int .i64 v2) = X at *
            generalize v1.heap.size = nb at *
            have hBX := HBDV.out.step hVX
            have hFX := HFT.out.step hVX
            have hTX := HTT.out.step hVX
            have hX0 : w2.heap.size + 1 < X.heap.size := hBX.lt
            obtain ⟨f0, f1, f2, -⟩ := hFX.all3
            obtain ⟨t0, t1, t2, -⟩ := hTX.all3
            obtain ⟨n0, n1, n2, n3, -⟩ := hNX.all4
            have m0 := hBX.bl.mb.c 0 _ rfl
            have hW := Bx.new (w := X) rfl [.bool so, .int .i64 sn, .int .i64 sd, .bool so2, .int .i64 sn2, .int .i64 sd2] 74
            have hNW := hNX.step (balloc X (.cells #[.bool so, .int .i64 sn, .int .i64 sd, .bool so2, .int .i64 sn2, .int .i64 sd2] 74))
            have hBW := hBX.step (balloc X (.cells #[.bool so, .int .i64 sn, .int .i64 sd, .bool so2, .int .i64 sn2, .int .i64 sd2] 74))
            have hnX : nb < X.heap.size := hNX.lt
            have hwX : w.heap.size + 1 + 1 + 1 < X.heap.size := hBX.bl.mb.lt
            have HNW : Hid _ := hNW
            have HBW : Hid _ := hBW
            have HW : Hid _ := hW
            have hlk := hBW.bl.mp.look ⟨⟨so, sn, sd⟩, ⟨so2, sn2, sd2⟩, u, v, u2, v2⟩ HPOK.out
            simp only [lineV] at hlk
            clear hFX hTX hNX hBX hW hNW hBW
            rcases hlk with ⟨y, hy, hsame, hlook⟩ | ⟨hnone, hlook⟩
            · have hyf := HCAN.out.okf CX.out y hy
              have hyt := HCAN.out.okt CX.out y hy
              have HJ : Hid (Num.joinedN (Num.linesN p b al bl (Num.setsN M (s + 1))) ⟨⟨so, sn, sd⟩, ⟨so2, sn2, sd2⟩, u, v, u2, v2⟩ = Num.updN (Num.linesN p b al bl (Num.setsN M (s + 1))) (Num.mergeN y ⟨⟨so, sn, sd⟩, ⟨so2, sn2, sd2⟩, u, v, u2, v2⟩)) := Num.upd_join _ _ y HCAN.out.one hy hsame
              have hnum := HCAN.out.nums CX.out y hy
              have HZOK : Hid (Num.PcOk (Num.mergeN y ⟨⟨so, sn, sd⟩, ⟨so2, sn2, sd2⟩, u, v, u2, v2⟩)) := pc_ok _ (Num.lower_ok _ _ hyf HFOK.out) (Num.higher_ok _ _ hyt HTOK.out) hnum.1 hnum.2.1
              have HLV : Hid (lineV (Num.mergeN y ⟨⟨so, sn, sd⟩, ⟨so2, sn2, sd2⟩, u, v, u2, v2⟩) = .agg #[.int .i64 u, .int .i64 v, .int .i64 u2, .int .i64 v2]) := (lineV_eq (x := Num.mergeN y ⟨⟨so, sn, sd⟩, ⟨so2, sn2, sd2⟩, u, v, u2, v2⟩) (y := ⟨⟨so, sn, sd⟩, ⟨so2, sn2, sd2⟩, u, v, u2, v2⟩)).2 hsame
              have HYF : Hid _ := hyf
              have HYT : Hid _ := hyt
              simp only [strV] at hlook
              clear hyf hyt hy hsame hnum
              gi_wp2_with fail
              refine wide_callR ((spanning_any y ⟨⟨so, sn, sd⟩, ⟨so2, sn2, sd2⟩, u, v, u2, v2⟩ HYF.out HYT.out HFOK.out HTOK.out _).mono ?_)
              rintro e w6 ⟨rfl, hb6⟩
              have hW6 := (HW.out.step (balloc _ _)).step hb6
              have hN6 := (HNW.out.step (balloc _ _)).step hb6
              have hB6 := (HBW.out.step (balloc _ _)).step hb6
              have hX6 : X.heap.size + 1 < w6.heap.size := by have := hb6.size; simp at this; omega
              generalize Num.mergeN y ⟨⟨so, sn, sd⟩, ⟨so2, sn2, sd2⟩, u, v, u2, v2⟩ = Z at *
              have hB7 := (((((hB6.set (by have := HS2.out; omega) X.heap.size hX0 0 (.bool Z.f.o)).set (by have := HS2.out; omega) X.heap.size hX0 1 (.int .i64 Z.f.n)).set (by have := HS2.out; omega) X.heap.size hX0 2 (.int .i64 Z.f.d)).set (by have := HS2.out; omega) X.heap.size hX0 3 (.bool Z.t.o)).set (by have := HS2.out; omega) X.heap.size hX0 4 (.int .i64 Z.t.n)).set (by have := HS2.out; omega) X.heap.size hX0 5 (.int .i64 Z.t.d)
              have hW7 := (((((hW6.set 0 (.bool Z.f.o)).set 1 (.int .i64 Z.f.n)).set 2 (.int .i64 Z.f.d)).set 3 (.bool Z.t.o)).set 4 (.int .i64 Z.t.n)).set 5 (.int .i64 Z.t.d)
              have hN7 := hN6.other6 (show nb ≠ X.heap.size by omega) (.bool Z.f.o) (.int .i64 Z.f.n) (.int .i64 Z.f.d) (.bool Z.t.o) (.int .i64 Z.t.n) (.int .i64 Z.t.d)
              obtain ⟨⟨c0, c1, c2, c3, c4, c5⟩, g0, g1, g2, g3, g4, g5⟩ := hW6.all6
              obtain ⟨o1, hput, hmap⟩ := hB7.bl.mp.put Z HZOK.out
              have HFIN : Hid _ := (hB7.put HS2.out o1 _ hmap).post (M := M) (s := s) (by omega) (HLIN.out.trans HJ.out) HANY.out
              rw [HLV.out] at hput
              have m7 := hB7.bl.mb.c 0 _ rfl
              obtain ⟨d0, d1, d2, d3, -⟩ := hN7.all4
              obtain ⟨⟨e0, e1, e2, e3, e4, e5⟩, -⟩ := Bx.all6 hW7
              simp only [strV] at hput ⊢
              clear hlook hW6 hN6 hB6 hW7 hN7 hB7 hmap HLV HJ hb6 n0 n1 n2 n3 m0 f0 f1 f2 t0 t1 t2 HW HNW HBW
              gi_wp2_with fail
              exact HFIN.out
            · have HJ : Hid (Num.joinedN (Num.linesN p b al bl (Num.setsN M (s + 1))) ⟨⟨so, sn, sd⟩, ⟨so2, sn2, sd2⟩, u, v, u2, v2⟩ = Num.updN (Num.linesN p b al bl (Num.setsN M (s + 1))) ⟨⟨so, sn, sd⟩, ⟨so2, sn2, sd2⟩, u, v, u2, v2⟩) := (Num.join_none _ _ hnone).trans (Num.upd_none _ _ hnone).symm
              simp only [strV, zeroP] at hlook
              have hbk := balloc (X.alloc (.cells #[.bool so, .int .i64 sn, .int .i64 sd, .bool so2, .int .i64 sn2, .int .i64 sd2] 74)) (.cells #[.bool false, .int .i64 0, .int .i64 0, .bool false, .int .i64 0, .int .i64 0] 74)
              have hB7 := HBW.out.step hbk
              have hW7 := HW.out.step hbk
              have hN7 := HNW.out.step hbk
              obtain ⟨o1, hput, hmap⟩ := hB7.bl.mp.put ⟨⟨so, sn, sd⟩, ⟨so2, sn2, sd2⟩, u, v, u2, v2⟩ HPOK.out
              have HFIN : Hid _ := (hB7.put HS2.out o1 _ hmap).post (M := M) (s := s) (by omega) (HLIN.out.trans HJ.out) HANY.out
              have m7 := hB7.bl.mb.c 0 _ rfl
              obtain ⟨d0, d1, d2, d3, -⟩ := hN7.all4
              obtain ⟨⟨e0, e1, e2, e3, e4, e5⟩, -⟩ := hW7.all6
              simp only [strV, lineV] at hput
              clear hnone hW7 hN7 hB7 hmap HJ hbk HW HNW HBW
              gi_wp2_with fail
              exact HFIN.out
        · skip
          go_simp
          refine hK.out _ _ ?_ (fun hHeld => ?_)
          · exact ((Below.refl _ _).drew).alloc (Nat.le_refl _) _
          clear hK K
          refine wpAnyH_ready (rs := [4]) (by kernel_rfl) (by simp) ?_
          refine readyR rfl (fun K hK => ?_)
          go_simp
          refine (K1.out _ (by assumption)).mono ?_
          rintro e v1 ⟨rfl, hb1, hk1⟩
          refine hK.out _ _ hb1 (fun hHeld => ?_)
          clear hK K
          refine wpAnyH_ready (rs := [8]) (by kernel_rfl) (by simp) ?_
          refine readyR rfl (fun K hK => ?_)
          go_simp
          refine (K2.out _ (by assumption)).mono ?_
          rintro e v2' ⟨rfl, hb2, hk2⟩
          refine hK.out _ _ hb2 (fun hHeld => ?_)
          clear hK K
          have hNB := ((Bx.new (b := V.heap.size) (w := V.drew) rfl [.int .i64 0, .int .i64 0, .int .i64 0, .int .i64 0] 72).step hk1).step hk2
          obtain ⟨y0, y1, y2, y3, f0, f1, f2, f3⟩ := hNB.all4
          refine takeR (i := 9) (v := ?_) rfl (by kernel_rfl) (by kernel_rfl) (by kernel_rfl) (fun _ _ _ h => h) (Or.inl ⟨by rfl, ?_⟩) (by assumption) ?_
          rotate_left
          · (intro w' hSw; go_simp; (try with_reducible rfl))
          simp only [Act.put, List.setIfInBounds_toArray, List.set_cons_zero, List.set_cons_succ]
          refine wpAnyH_ready (rs := [11]) (by kernel_rfl) (by simp) ?_
          refine readyR rfl (fun K hK => ?_)
          go_simp
          refine hK.out _ _ ?_ (fun hHeld => ?_)
          · exact bset (bset (bset (bset hb2 (Nat.le_refl _) _) (Nat.le_refl _) _) (Nat.le_refl _) _) (Nat.le_refl _) _
          clear hK K
          refine wpAnyH_done (by kernel_rfl) ?_ _
          have hNX : Bx V.heap.size [.int .i64 u, .int .i64 v, .int .i64 u2, .int .i64 v2] ((((v2'.setCell ⟨V.heap.size, 0, none⟩ (.int .i64 u)).setCell ⟨V.heap.size, 1, none⟩ (.int .i64 v)).setCell ⟨V.heap.size, 2, none⟩ (.int .i64 u2)).setCell ⟨V.heap.size, 3, none⟩ (.int .i64 v2)) := (((hNB.set 0 _).set 1 _).set 2 _).set 3 _
          have hVX : Below V.heap.size V ((((v2'.setCell ⟨V.heap.size, 0, none⟩ (.int .i64 u)).setCell ⟨V.heap.size, 1, none⟩ (.int .i64 v)).setCell ⟨V.heap.size, 2, none⟩ (.int .i64 u2)).setCell ⟨V.heap.size, 3, none⟩ (.int .i64 v2)) := bset (bset (bset (bset hb2 (Nat.le_refl _) _) (Nat.le_refl _) _) (Nat.le_refl _) _) (Nat.le_refl _) _
          have hnb : V.heap.size ≤ V.heap.size := Nat.le_refl _
          clear q0 q1 q2 q3 K1 K2 hHeld
          generalize (((v2'.setCell ⟨V.heap.size, 0, none⟩ (.int .i64 u)).setCell ⟨V.heap.size, 1, none⟩ (.int .i64 v)).setCell ⟨V.heap.size, 2, none⟩ (.int .i64 u2)).setCell ⟨V.heap.size, 3, none⟩ (.int .i64 v2) = X at *
          obtain ⟨nb, enb⟩ : ∃ nb, V.heap.size = nb := ⟨_, rfl⟩
          rw [enb] at hNX hnb ⊢
          have hBX := HBDV.out.step hVX
          have hFX := HFT.out.step hVX
          have hTX := HTT.out.step hVX
          have hX0 : w2.heap.size + 1 < X.heap.size := hBX.lt
          obtain ⟨f0, f1, f2, -⟩ := hFX.all3
          obtain ⟨t0, t1, t2, -⟩ := hTX.all3
          obtain ⟨n0, n1, n2, n3, -⟩ := hNX.all4
          have m0 := hBX.bl.mb.c 0 _ rfl
          have hW := Bx.new (w := X) rfl [.bool so, .int .i64 sn, .int .i64 sd, .bool so2, .int .i64 sn2, .int .i64 sd2] 74
          have hNW := hNX.step (balloc X (.cells #[.bool so, .int .i64 sn, .int .i64 sd, .bool so2, .int .i64 sn2, .int .i64 sd2] 74))
          have hBW := hBX.step (balloc X (.cells #[.bool so, .int .i64 sn, .int .i64 sd, .bool so2, .int .i64 sn2, .int .i64 sd2] 74))
          have hnX : nb < X.heap.size := hNX.lt
          have hwX : w.heap.size + 1 + 1 + 1 < X.heap.size := hBX.bl.mb.lt
          have HNW : Hid _ := hNW
          have HBW : Hid _ := hBW
          have HW : Hid _ := hW
          have hlk := hBW.bl.mp.look ⟨⟨so, sn, sd⟩, ⟨so2, sn2, sd2⟩, u, v, u2, v2⟩ HPOK.out
          simp only [lineV] at hlk
          clear hFX hTX hNX hBX hW hNW hBW
          rcases hlk with ⟨y, hy, hsame, hlook⟩ | ⟨hnone, hlook⟩
          · have hyf := HCAN.out.okf CX.out y hy
            have hyt := HCAN.out.okt CX.out y hy
            have HJ : Hid (Num.joinedN (Num.linesN p b al bl (Num.setsN M (s + 1))) ⟨⟨so, sn, sd⟩, ⟨so2, sn2, sd2⟩, u, v, u2, v2⟩ = Num.updN (Num.linesN p b al bl (Num.setsN M (s + 1))) (Num.mergeN y ⟨⟨so, sn, sd⟩, ⟨so2, sn2, sd2⟩, u, v, u2, v2⟩)) := Num.upd_join _ _ y HCAN.out.one hy hsame
            have hnum := HCAN.out.nums CX.out y hy
            have HZOK : Hid (Num.PcOk (Num.mergeN y ⟨⟨so, sn, sd⟩, ⟨so2, sn2, sd2⟩, u, v, u2, v2⟩)) := pc_ok _ (Num.lower_ok _ _ hyf HFOK.out) (Num.higher_ok _ _ hyt HTOK.out) hnum.1 hnum.2.1
            have HLV : Hid (lineV (Num.mergeN y ⟨⟨so, sn, sd⟩, ⟨so2, sn2, sd2⟩, u, v, u2, v2⟩) = .agg #[.int .i64 u, .int .i64 v, .int .i64 u2, .int .i64 v2]) := (lineV_eq (x := Num.mergeN y ⟨⟨so, sn, sd⟩, ⟨so2, sn2, sd2⟩, u, v, u2, v2⟩) (y := ⟨⟨so, sn, sd⟩, ⟨so2, sn2, sd2⟩, u, v, u2, v2⟩)).2 hsame
            have HYF : Hid _ := hyf
            have HYT : Hid _ := hyt
            simp only [strV] at hlook
            clear hyf hyt hy hsame hnum
            gi_wp2_with fail
            refine wide_callR ((spanning_any y ⟨⟨so, sn, sd⟩, ⟨so2, sn2, sd2⟩, u, v, u2, v2⟩ HYF.out HYT.out HFOK.out HTOK.out _).mono ?_)
            rintro e w6 ⟨rfl, hb6⟩
            have hW6 := (HW.out.step (balloc _ _)).step hb6
            have hN6 := (HNW.out.step (balloc _ _)).step hb6
            have hB6 := (HBW.out.step (balloc _ _)).step hb6
            have hX6 : X.heap.size + 1 < w6.heap.size := by have := hb6.size; simp at this; omega
            generalize Num.mergeN y ⟨⟨so, sn, sd⟩, ⟨so2, sn2, sd2⟩, u, v, u2, v2⟩ = Z at *
            have hB7 := (((((hB6.set (by have := HS2.out; omega) X.heap.size hX0 0 (.bool Z.f.o)).set (by have := HS2.out; omega) X.heap.size hX0 1 (.int .i64 Z.f.n)).set (by have := HS2.out; omega) X.heap.size hX0 2 (.int .i64 Z.f.d)).set (by have := HS2.out; omega) X.heap.size hX0 3 (.bool Z.t.o)).set (by have := HS2.out; omega) X.heap.size hX0 4 (.int .i64 Z.t.n)).set (by have := HS2.out; omega) X.heap.size hX0 5 (.int .i64 Z.t.d)
            have hW7 := (((((hW6.set 0 (.bool Z.f.o)).set 1 (.int .i64 Z.f.n)).set 2 (.int .i64 Z.f.d)).set 3 (.bool Z.t.o)).set 4 (.int .i64 Z.t.n)).set 5 (.int .i64 Z.t.d)
            have hN7 := hN6.other6 (show nb ≠ X.heap.size by omega) (.bool Z.f.o) (.int .i64 Z.f.n) (.int .i64 Z.f.d) (.bool Z.t.o) (.int .i64 Z.t.n) (.int .i64 Z.t.d)
            obtain ⟨⟨c0, c1, c2, c3, c4, c5⟩, g0, g1, g2, g3, g4, g5⟩ := hW6.all6
            obtain ⟨o1, hput, hmap⟩ := hB7.bl.mp.put Z HZOK.out
            have HFIN : Hid _ := (hB7.put HS2.out o1 _ hmap).post (M := M) (s := s) (by omega) (HLIN.out.trans HJ.out) HANY.out
            rw [HLV.out] at hput
            have m7 := hB7.bl.mb.c 0 _ rfl
            obtain ⟨d0, d1, d2, d3, -⟩ := hN7.all4
            obtain ⟨⟨e0, e1, e2, e3, e4, e5⟩, -⟩ := Bx.all6 hW7
            simp only [strV] at hput ⊢
            clear hlook hW6 hN6 hB6 hW7 hN7 hB7 hmap HLV HJ hb6 n0 n1 n2 n3 m0 f0 f1 f2 t0 t1 t2 HW HNW HBW
            gi_wp2_with fail
            exact HFIN.out
          · have HJ : Hid (Num.joinedN (Num.linesN p b al bl (Num.setsN M (s + 1))) ⟨⟨so, sn, sd⟩, ⟨so2, sn2, sd2⟩, u, v, u2, v2⟩ = Num.updN (Num.linesN p b al bl (Num.setsN M (s + 1))) ⟨⟨so, sn, sd⟩, ⟨so2, sn2, sd2⟩, u, v, u2, v2⟩) := (Num.join_none _ _ hnone).trans (Num.upd_none _ _ hnone).symm
            simp only [strV, zeroP] at hlook
            have hbk := balloc (X.alloc (.cells #[.bool so, .int .i64 sn, .int .i64 sd, .bool so2, .int .i64 sn2, .int .i64 sd2] 74)) (.cells #[.bool false, .int .i64 0, .int .i64 0, .bool false, .int .i64 0, .int .i64 0] 74)
            have hB7 := HBW.out.step hbk
            have hW7 := HW.out.step hbk
            have hN7 := HNW.out.step hbk
            obtain ⟨o1, hput, hmap⟩ := hB7.bl.mp.put ⟨⟨so, sn, sd⟩, ⟨so2, sn2, sd2⟩, u, v, u2, v2⟩ HPOK.out
            have HFIN : Hid _ := (hB7.put HS2.out o1 _ hmap).post (M := M) (s := s) (by omega) (HLIN.out.trans HJ.out) HANY.out
            have m7 := hB7.bl.mb.c 0 _ rfl
            obtain ⟨d0, d1, d2, d3, -⟩ := hN7.all4
            obtain ⟨⟨e0, e1, e2, e3, e4, e5⟩, -⟩ := hW7.all6
            simp only [strV, lineV] at hput
            clear hnone hW7 hN7 hB7 hmap HJ hbk HW HNW HBW
            gi_wp2_with fail
            exact HFIN.out

end Go.Proofs.YtipcbhodlgoflabGreat

/- What sweep.Sweep does. -/
namespace Go.Proofs.YtipcbhodlgoflabGreat
open Go.RowKit

namespace Num

theorem withC_len (p : Lp) (b : List Int) (h : p.may = true) (hb : (withC p b).may = true) : b.length = p.costs.length ∧ withinB 400 b = true := by
  obtain ⟨_, _, h3, h4⟩ := p.may_of h
  obtain ⟨_, g2, _, g4⟩ := (withC p b).may_of hb
  refine ⟨?_, g2⟩
  cases hr : p.rows with
  | nil => rw [hr] at h3; simp at h3
  | cons x r =>
    have e1 : p.rows.all (rowB b.length) = true := g4
    rw [hr, List.all_cons, Bool.and_eq_true] at h4 e1
    have a1 := h4.1
    have a2 := e1.1
    unfold rowB at a1 a2
    simp only [Bool.and_eq_true, beq_iff_eq] at a1 a2
    omega

theorem any_good (p : Lp) (m n : Nat) (h : p.may = true) (hm : m = p.rows.length) (hn : n = p.costs.length) : (setsN (2 ^ (n + m)) 0).any (goodB p) = true ↔ ∃ a, Good p a m n := by
  have hb := p.may_of h
  constructor
  · intro ha
    obtain ⟨a, _, hg⟩ := List.any_eq_true.1 ha
    exact ⟨a, (goodB_iff p a m n h hm hn).1 hg⟩
  · rintro ⟨a, hg⟩
    obtain ⟨q, q0, q1, q2⟩ := sets_come a m n (by omega) (by omega) (by omega) (by omega) hg.right
    exact List.any_eq_true.2 ⟨a, by rw [← q2]; exact sets_mem _ q q0 q1, (goodB_iff p a m n h hm hn).2 hg⟩

theorem joined_len (x : Pc) : ∀ l : List Pc, (joinedN l x).length ≤ l.length + 1 := by
  intro l
  induction l with
  | nil => simp [joinedN]
  | cons y l ih =>
    unfold joinedN
    split
    · simp
    · simp only [List.length_cons]; omega

theorem fold_len (p : Lp) (b : List Int) (m n : Nat) : ∀ (all : List (List Int)) (l : List Pc), (all.foldl (fun l a => if usedB p b m n a = true then joinedN l (pieceN p b m n a) else l) l).length ≤ l.length + all.length := by
  intro all
  induction all with
  | nil => intro l; simp
  | cons a all ih =>
    intro l
    rw [List.foldl_cons]
    refine Nat.le_trans (ih _) ?_
    rw [List.length_cons]
    split
    · have := joined_len (pieceN p b m n a) l; omega
    · omega

theorem lines_len (p : Lp) (b : List Int) (m n : Nat) (all : List (List Int)) : (linesN p b m n all).length ≤ all.length := by
  have := fold_len p b m n all []
  simpa [linesN] using this

theorem sets_len (M s : Nat) : (setsN M s).length = M - 1 - s := by simp [setsN]

/-- What the code makes of the lines is what the document says. -/
theorem code_sweep (p : Lp) (b : List Int) (m n : Nat) (cx : Ctx p b m n) (srt : List Pc) (hp : srt.Perm (linesN p b m n (setsN (2 ^ (n + m)) 0))) (hs : srt.Pairwise fun y z => ¬ slLt z y) : longN srt = sweepN (linesN p b m n (allC m (n + m))) := by
  refine sweep_code cx _ _ (fun a hu => ?_) srt hp hs
  have hr := ((cx.used a).1 hu).1.right
  obtain ⟨q, q0, q1, q2⟩ := sets_come a m n cx.h1 cx.h4 cx.n1 cx.n4 hr
  exact ⟨fun _ => all_come a m n cx.h1 cx.h4 cx.n1 cx.n4 hr, fun _ => by rw [← q2]; exact sets_mem _ q q0 q1⟩

end Num

set_option maxHeartbeats 1600000 in
theorem sweep_any (ca : Option Addr) (cl cc : Nat) (ra : Option Addr) (rl rc : Nat) (p : Num.Lp) (w : World) (hc : Ints w ca cl p.costs) (hcl : cl ≤ 9223372036854775807) (hr : RowsAt w ra rl p.rows) (hrl : rl ≤ 9223372036854775807)
    (ba : Option Addr) (bl bc : Nat) (b : List Int) (hb : Ints w ba bl b) (hbl : bl ≤ 9223372036854775807) :
    Calls Tryz.prog 4 #[.agg #[.slice ca cl cc, .slice ra rl rc], .slice ba bl bc] w fun e w' => Below w.heap.size w w' ∧
      ((p.may = false ∧ e = .returned (.tuple #[.slice none 0 0, .int .i64 2])) ∨
       (p.may = true ∧ (Num.withC p b).may = false ∧ e = .returned (.tuple #[.slice none 0 0, .int .i64 1])) ∨
       (p.may = true ∧ (Num.withC p b).may = true ∧ (¬ ∃ a, Num.Good p a rl cl) ∧ e = .returned (.tuple #[.slice none 0 0, .int .i64 4])) ∨
       (p.may = true ∧ (Num.withC p b).may = true ∧ (∃ a, Num.Good p a rl cl) ∧ ∃ a c, e = .returned (.tuple #[.slice a (Num.sweepN (Num.linesN p b rl cl (Num.allC rl (cl + rl)))).length c, .int .i64 0]) ∧ PcsAt w' a (Num.sweepN (Num.linesN p b rl cl (Num.allC rl (cl + rl)))).length (Num.sweepN (Num.linesN p b rl cl (Num.allC rl (cl + rl)))))) := by
  have HC : Hid (Ints w ca cl p.costs) := hc
  have HR : Hid (RowsAt w ra rl p.rows) := hr
  have HBB : Hid (Ints w ba bl b) := hb
  have HCN : Hid (cl = p.costs.length) := hc.1
  have HRN : Hid (rl = p.rows.length) := hr.1
  clear hc hr hb
  have hB0 : Bx w.heap.size [.slice ca cl cc, .slice ra rl rc] (w.alloc (.cells #[.slice ca cl cc, .slice ra rl rc] 25)) := Bx.new rfl _ _
  have hBel0 := balloc w (.cells #[.slice ca cl cc, .slice ra rl rc] 25)
  go_enter Tryz.func4, Tryz.ntmps4
  go_wp2_with fail
  refine (lmay_any ca cl cc ra rl rc p _ (Ints.below HC.out hBel0 (Nat.le_refl _)) hcl (RowsAt.below HR.out hBel0 (Nat.le_refl _)) hrl).mono ?_
  rintro e w1 ⟨rfl, hb1⟩
  have hB1 := hB0.step hb1
  have hBel1 := bstep hBel0 hb1
  clear hB0 hBel0 hb1
  have HB1 : Hid _ := hB1
  have HBel1 : Hid (Below w.heap.size w w1) := hBel1
  obtain ⟨p0, p1, -⟩ := hB1.all2
  clear hB1
  cases hm : p.may with
  | false =>
    go_wp2_with fail
    refine bodyPost_ret (v := .tuple #[.slice none 0 0, .int .i64 2]) (by simp [results, Tryz.results4, go_sem]) rfl ?_
    exact ⟨HBel1.out, Or.inl ⟨hm, rfl⟩⟩
  | true =>
    go_wp2_with fail
    refine (lmay_any ba bl bc ra rl rc (Num.withC p b) w1 (Ints.below HBB.out HBel1.out (Nat.le_refl _)) hbl (RowsAt.below HR.out HBel1.out (Nat.le_refl _)) hrl).mono ?_
    rintro e w2 ⟨rfl, hb2⟩
    have hB2 := Bx.step HB1.out hb2
    have HBel2 : Hid (Below w.heap.size w w2) := bstep hBel1 hb2
    obtain ⟨q0, q1, -⟩ := hB2.all2
    clear hBel1 hb2 p0 p1 hB2
    cases hbm : (Num.withC p b).may with
    | false =>
      go_wp2_with fail
      refine bodyPost_ret (v := .tuple #[.slice none 0 0, .int .i64 1]) (by simp [results, Tryz.results4, go_sem]) rfl ?_
      exact ⟨HBel2.out, Or.inr (Or.inl ⟨hm, hbm, rfl⟩)⟩
    | true =>
      obtain ⟨hblen, _⟩ := Num.withC_len p b hm hbm
      have CX : Hid (Num.Ctx p b rl cl) := ⟨HRN.out, HCN.out, hblen.trans HCN.out.symm, hm, hbm⟩
      have HAG : Hid _ := Num.any_good p rl cl hm HRN.out HCN.out
      clear hblen
      go_wp2_with fail
      refine (bestLines_any ca cl cc ra rl rc p w2 (Ints.below HC.out HBel2.out (Nat.le_refl _)) (RowsAt.below HR.out HBel2.out (Nat.le_refl _)) ba bl bc b (Ints.below HBB.out HBel2.out (Nat.le_refl _)) CX.out).mono ?_
      rintro e w3 ⟨rfl, hmap, hb3⟩
      have HMAP : Hid (MapIs w3 (w2.heap.size + 1 + 1) (Num.linesN p b rl cl (Num.setsN (2 ^ (cl + rl)) 0))) := hmap
      have HBel3 : Hid (Below w.heap.size w w3) := bstep HBel2.out hb3
      clear hmap hb3 q0 q1
      cases hag : (Num.setsN (2 ^ (cl + rl)) 0).any (Num.goodB p) with
      | false =>
        go_wp2_with fail
        refine bodyPost_ret (v := .tuple #[.slice none 0 0, .int .i64 4]) (by simp [results, Tryz.results4, go_sem]) rfl ?_
        exact ⟨HBel3.out, Or.inr (Or.inr (Or.inl ⟨hm, hbm, fun h => (by rw [HAG.out.2 h] at hag; cases hag), rfl⟩))⟩
      | true =>
        have hex := HAG.out.1 hag
        have HEX : Hid (∃ a, Num.Good p a rl cl) := hex
        have hll : (Num.linesN p b rl cl (Num.setsN (2 ^ (cl + rl)) 0)).length ≤ 255 := by
          refine Nat.le_trans (Num.lines_len p b rl cl _) ?_
          rw [Num.sets_len]
          have : 2 ^ (cl + rl) ≤ 2 ^ 8 := Nat.pow_le_pow_right (by omega) (by have := CX.out.h8; omega)
          omega
        have HLL : Hid _ := hll
        have HMY : Hid (∀ y ∈ Num.linesN p b rl cl (Num.setsN (2 ^ (cl + rl)) 0), Num.mayB y.sd [y.sn] = true) := fun y hy => ((Num.canon_lines CX.out _).nums CX.out y hy).2.1
        have HCODE : Hid (∀ srt : List Num.Pc, srt.Perm (Num.linesN p b rl cl (Num.setsN (2 ^ (cl + rl)) 0)) → (srt.Pairwise fun y z => ¬ Num.slLt z y) → Num.longN srt = Num.sweepN (Num.linesN p b rl cl (Num.allC rl (cl + rl)))) := fun srt h1 h2 => Num.code_sweep p b rl cl CX.out srt h1 h2
        clear hex hll
        generalize Num.linesN p b rl cl (Num.setsN (2 ^ (cl + rl)) 0) = L at *
        go_wp2_with fail
        refine (pieces_any (w2.heap.size + 1 + 1) L w3 HMAP.out (by have := HLL.out; omega) HMY.out).mono ?_
        rintro e w4 ⟨g, cap, srt, rfl, hsp, hss, hsh, hscap, _, hsg, hb4⟩
        have HBel4 : Hid (Below w.heap.size w w4) := bstep HBel3.out hb4
        have HLO : Hid _ := HCODE.out srt hsp hss
        have KL : Hid _ := longest_any g cap srt w4 hsh hsg (by have := hsp.length_eq; have := HLL.out; omega) hscap
        clear hsp hss hsh hscap hsg hb4 HCODE
        go_wp2_with fail
        refine (Calls.mono KL.out ?_)
        rintro e w5 ⟨a, c, rfl, hpc, hb5⟩
        have HBel5 : Hid (Below w.heap.size w w5) := bstep HBel4.out hb5
        have HPC : Hid (PcsAt w5 a (Num.longN srt).length (Num.longN srt)) := hpc
        clear hpc hb5 KL
        go_wp2_with fail
        refine bodyPost_ret (v := .tuple #[.slice a (Num.longN srt).length c, .int .i64 0]) (by simp [results, Tryz.results4, go_sem]) rfl ?_
        refine ⟨HBel5.out, Or.inr (Or.inr (Or.inr ⟨hm, hbm, HEX.out, a, c, ?_⟩))⟩
        rw [← HLO.out]
        exact ⟨rfl, HPC.out⟩

end Go.Proofs.YtipcbhodlgoflabGreat
