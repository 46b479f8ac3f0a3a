/- What the document's column and falls (chapter 5) do. -/
import Derived.Test.YtipcbhodlgoflaaRef5A
import Derived.Test.YtipcbhodlgoflaaWlkAB
import Derived.Test.YtipcbhodlgoflaaCornR
import Derived.Test.YtipcbhodlgoflaaRowA
import Derived.Deep.RegionLaw
import Derived.Deep.AppendLies
namespace Go.Proofs.Ytipcbhodlgoflaa
open Go.RowKit

set_option maxHeartbeats 1600000 in
theorem column5_any (xa : Option Addr) (xl xc : Nat) (dx : Int) (ya : Option Addr) (yl yc : Nat) (dy : Int) (ga : Option Addr) (gl gc : Nat) (dg : Int) (lx : List Int) (w : World) (hi : Ints w xa xl lx) (j : Nat) (hj : j < xl) (u v z : Int) (hm : Num.mk (lx[j]?.getD 0) dx = (u, v, z)) :
    Calls Try.prog 98 #[.agg #[.slice xa xl xc, .int .i64 dx, .slice ya yl yc, .int .i64 dy, .slice ga gl gc, .int .i64 dg], .int .i64 j] w fun e w' => e = .returned (.agg #[.int .i64 u, .int .i64 v]) ∧ Below w.heap.size w w' := by
  have HM : Hid _ := hm
  rcases hi.2 with h | ⟨b, off, ha, hbs, hc⟩
  · omega
  have cj := hc j hj
  clear hc hi hm
  subst ha
  generalize lx[j]?.getD 0 = x at *
  generalize hV : ((w.alloc (.cells #[.slice (some ⟨b, off, none⟩) xl xc, .int .i64 dx, .slice ya yl yc, .int .i64 dy, .slice ga gl gc, .int .i64 dg] 47)).alloc (.cells #[.int .i64 0, .int .i64 0] 24)) = V
  have hs1 : Six w w.heap.size (.slice (some ⟨b, off, none⟩) xl xc) (.int .i64 dx) (.slice ya yl yc) (.int .i64 dy) (.slice ga gl gc) (.int .i64 dg) V := by
    rw [← hV]; exact (Six.new w _ _ _ _ _ _ _).step (balloc _ _)
  have hH : Held (w.heap.size + 1) V (w.heap.size + 1) V := ⟨Below.refl _ _, _, _, _, by rw [← hV]; exact heap_new (by simp) _⟩
  have hsz : V.heap.size = w.heap.size + 1 + 1 := by rw [← hV]; simp
  have HK : Hid (∀ w', Held (w.heap.size + 1) V (w.heap.size + 1) w' → Below w.heap.size w w' ∧ w.heap.size + 1 ≤ w'.heap.size) := fun w' h => ⟨hs1.bel.trans (h.bel.mono (by omega)), by have := h.bel.size; omega⟩
  have q0 : ∀ w', Held (w.heap.size + 1) V (w.heap.size + 1) w' → w'.cell? ⟨w.heap.size, 0, none⟩ = some (.slice (some ⟨b, off, none⟩) xl xc) := fun w' h => by rw [h.bel.cell (by show w.heap.size < _; omega)]; exact hs1.c0
  have q1 : ∀ w', Held (w.heap.size + 1) V (w.heap.size + 1) w' → w'.cell? ⟨w.heap.size, 1, none⟩ = some (.int .i64 dx) := fun w' h => by rw [h.bel.cell (by show w.heap.size < _; omega)]; exact hs1.c1
  have q2 : ∀ w', Held (w.heap.size + 1) V (w.heap.size + 1) w' → w'.cell? ⟨b, off + j, none⟩ = some (.int .i64 x) := fun w' h => by rw [(bcell (HK.out w' h).1).1 b _ hbs]; exact cj
  obtain ⟨F, G, q4, q5, q6, q7⟩ := Held.cells (B := w.heap.size + 1) (V := V) (r := w.heap.size + 1)
  have KM : Hid (∀ w', Held (w.heap.size + 1) V (w.heap.size + 1) w' → Calls Try.prog 41 #[.int .i64 x, .int .i64 dx] w' fun e w'' => e = .returned (.agg #[.int .i64 u, .int .i64 v]) ∧ Held (w.heap.size + 1) V (w.heap.size + 1) w'') := by
    intro w' h
    exact (of_any _ _ w' _ _ _ HM.out).mono fun _ _ k => ⟨k.1, h.step k.2 (HK.out w' h).2⟩
  clear hs1
  go_enter Try.func98, Try.ntmps98
  go_wp2_with fail
  clear hV hsz cj
  go_region_held3 (fun w' => Held (w.heap.size + 1) V (w.heap.size + 1) w') (first | (with_reducible assumption) | (with_reducible exact Held.drew hH) | (with_reducible refine Held.set (Held.set ?_ ?_ 0 _ ?_) ?_ 1 _ ?_ <;> first | (with_reducible assumption) | exact Nat.le_refl _ | omega))
    (first | (go_at_call 41; refine (KM.out _ ?_).mono ?_; (with_reducible assumption); rintro e w' ⟨rfl, hb⟩))
  rename_i hfin
  have p4 := q4 _ hb
  have p5 := q5 _ hb
  clear q0 q1 q2 q4 q5 q6 q7 KM
  go_wp2_with fail
  exact bodyPost_ret (v := .agg #[.int .i64 u, .int .i64 v]) (by simp [results, Try.results98, go_sem, p4, p5]) rfl ⟨rfl, (HK.out _ hfin).1⟩

set_option maxRecDepth 4000 in
set_option maxHeartbeats 3200000 in
theorem falls5_any (ca : Option Addr) (cl cc : Nat) (ra : Option Addr) (rl rc : Nat) (p : Num.Lp) (w : World) (hc : Ints w ca cl p.costs) (hr : RowsAt w ra rl p.rows) (hm : p.may = true)
    (aa : Option Addr) (ac : Nat) (at' : List Int) (ha : Ints w aa rl at') (hg : Num.Good p at' rl cl) (s : Nat) (hs : s < cl + rl) (kk : Nat) (hkk : kk < rl) :
    Calls Try.prog 97 #[.agg #[.slice ca cl cc, .slice ra rl rc], .slice aa rl ac, .int .i64 s, .int .i64 kk] w fun e w' => e = .returned (.bool (decide (0 < (Num.look (Num.askP p s) at').x[Num.atF at' kk]?.getD 0))) ∧ Below w.heap.size w w' := by
  have HC : Hid (Ints w ca cl p.costs) := hc
  have HR : Hid (RowsAt w ra rl p.rows) := hr
  have HA : Hid (Ints w aa rl at') := ha
  have HM : Hid (p.may = true) := hm
  have HG : Hid (Num.Good p at' rl cl) := hg
  have HCL : Hid (cl = p.costs.length) := hc.1
  have HRL : Hid (rl = p.rows.length) := hr.1
  have hc4 : cl ≤ 4 ∧ 1 ≤ cl := by have := hc.1; have := (p.may_of hm).1; omega
  have hr4 : rl ≤ 4 ∧ 1 ≤ rl := by have := hr.1; have := (p.may_of hm).2.2.1; omega
  rcases hr.2 with h | ⟨b, off, hra, hbs, hrc⟩
  · omega
  obtain ⟨F, hF⟩ : ∃ F : Nat → Value, F = fun j => (w.cell? ⟨b, off + j * 2, none⟩).getD undef := ⟨_, rfl⟩
  have HRC : Hid (∀ j, j < rl → ∃ xa xl xc, F j = .slice xa xl xc ∧ w.cell? ⟨b, off + j * 2, none⟩ = some (.slice xa xl xc) ∧ w.cell? ⟨b, off + j * 2 + 1, none⟩ = some (.int .i64 (p.rows[j]?.getD ([], 0)).2) ∧ Ints w xa xl (p.rows[j]?.getD ([], 0)).1 ∧ xl ≤ 9223372036854775807) := by
    intro j hj
    obtain ⟨xa, xl, xc, c0, c1, c2, c3⟩ := hrc j hj
    exact ⟨xa, xl, xc, by rw [hF]; show (w.cell? ⟨b, off + j * 2, none⟩).getD undef = _; rw [c0]; rfl, c0, c1, c2, c3⟩
  subst hra
  clear hc hr ha hm hg hrc hF
  obtain ⟨i0, hif, hz0, hz1, hz2⟩ := info_parts Try.infoRow5
  generalize hV : (w.alloc (.cells #[.slice ca cl cc, .slice (some ⟨b, off, none⟩) rl rc] 40)).alloc (.cells #[.slice ca cl cc, .slice none 0 0] 40) = V
  have hsz : V.heap.size = w.heap.size + 1 + 1 := by rw [← hV]; simp
  have hbx := boxes (w := w) (a := .slice ca cl cc) (b := .slice (some ⟨b, off, none⟩) rl rc) (c := .slice ca cl cc) (d := .slice none 0 0) (t := 40) (t' := 40) (w1 := V) (by rw [← hV]; exact Below.refl _ _)
  obtain ⟨⟨k0, k1⟩, ⟨k2, k3⟩, ⟨k4, k5⟩, hz3, hB3⟩ := hbx
  have HBV : Hid (∀ w', Below (w.heap.size + 1) V w' → Below w.heap.size w w' ∧ (w'.cell? ⟨w.heap.size, 0, none⟩ = some (.slice ca cl cc) ∧ w'.cell? ⟨w.heap.size, 1, none⟩ = some (.slice (some ⟨b, off, none⟩) rl rc)) ∧ w.heap.size + 1 < w'.heap.size) := by
    intro w' h
    exact ⟨hB3.trans (h.mono (by omega)), ⟨by rw [h.cell (by show w.heap.size < _; omega)]; exact k0, by rw [h.cell (by show w.heap.size < _; omega)]; exact k1⟩, by have := h.size; omega⟩
  go_enter Try.func97, Try.ntmps97
  go_wp2_with fail
  go_loopw [10] (fun i wr => ∃ k : Nat, k ≤ rl ∧ i = .int .i64 k ∧ Below (w.heap.size + 1) V wr ∧ ∃ v, (wr.cell? ⟨w.heap.size + 1, 0, none⟩ = some (.slice ca cl cc) ∧ wr.cell? ⟨w.heap.size + 1, 1, none⟩ = some v) ∧ (wr.frozen? ⟨w.heap.size + 1, 0, none⟩ = false ∧ wr.frozen? ⟨w.heap.size + 1, 1, none⟩ = false) ∧ RowsA wr (w.heap.size + 1 + 1) v k F (Num.hasF p s)) (fun i _ => rl - (intOf i).toNat)
  case atStart => exact ⟨0, Nat.zero_le _, rfl, bset (Below.refl _ _) (Nat.le_refl _) _, _, ⟨by rw [cell_set_ne (by decide)]; exact k2, cell_set_eq k3⟩, ⟨by simpa using k4, by simpa using k5⟩, [], World.ownsRow_nil _ _ _ _, fun _ hj => absurd hj (Nat.not_lt_zero _)⟩
  case round =>
    obtain ⟨k, hk, rfl, hbl, v, ⟨c0, c1⟩, ⟨f0, f1⟩, hRA⟩ := hrel
    clear k0 k1 k2 k3 k4 k5 hz3 hB3
    obtain ⟨hB, ⟨b0, b1⟩, hz⟩ := HBV.out wr hbl
    have HRA : Hid (RowsA wr (w.heap.size + 1 + 1) v k F (Num.hasF p s)) := hRA
    obtain ⟨va, vc, hv⟩ := hRA.shape
    subst hv
    clear hRA
    by_cases hlt : k < rl
    · go_wp2_with fail
      refine (has_any ca cl cc (some ⟨b, off, none⟩) rl rc p wr HCL.out (RowsAt.below HR.out hB (Nat.le_refl _)) HM.out k s hlt (by omega)).mono ?_
      rintro e w1 ⟨rfl, hb1⟩
      have hbl1 : Below (w.heap.size + 1) V w1 := hbl.trans (hb1.mono (by omega))
      have d0 := carry hb1 c0
      have d1 := carry hb1 c1
      have g0 := carryF hb1 c0 f0
      have g1 := carryF hb1 c1 f1
      obtain ⟨xa, xl, xc, hFk, e0, e1, _, _⟩ := HRC.out k hlt
      clear c0 c1 f0 f1 b0 b1 hB hz e1
      obtain ⟨hB, ⟨b0, b1⟩, hz⟩ := HBV.out w1 hbl1
      rw [← (bcell hB).1 b _ hbs] at e0
      have HFK : Hid (.slice xa xl xc = F k) := hFk.symm
      generalize hsx : Num.hasF p s k = x
      have HSX : Hid (x = Num.hasF p s k) := hsx.symm
      have hb1s := hb1.size
      clear hFk hsx hbl
      have hw1 : b < w1.heap.size := by omega
      obtain ⟨vs, hov, hvin⟩ := RowsA.kept HRA.out (bstep hb1 (balloc w1 (.cells #[.slice xa xl xc, .int .i64 x] 55)))
      have HOV : Hid _ := hov
      have HVIN : Hid _ := hvin
      have hone : ∀ u ∈ [Value.slice xa xl xc, Value.int .i64 x], u.oneCell' = true := by
        intro u hu
        simp only [List.mem_cons, List.not_mem_nil, or_false] at hu
        rcases hu with rfl | rfl <;> rfl
      have HONE : Hid _ := hone
      have HBL1 : Hid _ := hbl1
      have HST : Hid (∀ W w2, Below w1.heap.size w1 W → W.grownBy w2 (Value.slice va k vc).ownBlock → Below (w.heap.size + 1) V w2 ∧ (w2.cell? ⟨w.heap.size + 1, 0, none⟩ = some (.slice ca cl cc) ∧ w2.cell? ⟨w.heap.size + 1, 1, none⟩ = some (.slice va k vc)) ∧ (w2.frozen? ⟨w.heap.size + 1, 0, none⟩ = false ∧ w2.frozen? ⟨w.heap.size + 1, 1, none⟩ = false)) := by
        intro W w2 hW hg
        have hWs := hW.size
        have hne : some (w.heap.size + 1) ≠ (Value.slice va k vc).ownBlock := by
          intro e
          have := (World.ownsRow.lt HOV.out _ e.symm).1
          omega
        refine ⟨(HBL1.out.trans (hW.mono (by omega))).grown hg (by omega) (fun j hj => by have := (World.ownsRow.lt HOV.out j hj).1; omega), ⟨?_, ?_⟩, ?_, ?_⟩
        · rw [hg.cell_far ⟨w.heap.size + 1, 0, none⟩ (by show w.heap.size + 1 < _; omega) hne]; exact carry hW d0
        · rw [hg.cell_far ⟨w.heap.size + 1, 1, none⟩ (by show w.heap.size + 1 < _; omega) hne]; exact carry hW d1
        · rw [hg.frozen_far ⟨w.heap.size + 1, 0, none⟩ (by show w.heap.size + 1 < _; omega) hne]; exact carryF hW d0 g0
        · rw [hg.frozen_far ⟨w.heap.size + 1, 1, none⟩ (by show w.heap.size + 1 < _; omega) hne]; exact carryF hW d1 g1
      clear hov hvin hone HRA hb1 hbl1
      go_wp2_with fail
      go_region_law (refine step_append_lies _ (by rfl) (.tmp 29) (.tmp 38) 38 (by rfl) (w.heap.size + 1 + 1) 55 i0 (.agg #[.slice none 0 0, .int .i64 0]) 2 32 Try.underlying38 hif hz0 hz1 hz2 (by rfl) (by decide) (.slice va k vc) k vs (by rfl) HOV.out ⟨w1.heap.size, 0, none⟩ 1 1 [.slice xa xl xc, .int .i64 x] (by rfl) (by rfl) news_two HONE.out (by decide) (by unfold maxLen; omega) (by omega) (by simp; omega) (w1.heap.size + 1) (by simp) ?_; intro g cap w2 ho2 hg2 hat2 hlt2; obtain ⟨hbl2, ⟨m0, m1⟩, m2, m3⟩ := HST.out _ w2 (balloc _ _).drew hg2; have HO2 : Hid (w2.ownsRow (w.heap.size + 1 + 1) 55 2 (.slice (some ⟨g, 0, none⟩) (k + 1) cap) (k + 1) (vs ++ [.slice xa xl xc, .int .i64 x])) := ho2; clear ho2 hg2 hat2)
      all_goals (clear d0 d1 g0 g1 b0 b1 e0)
      all_goals go_wp2_with fail
      all_goals go_roundw
      all_goals first
        | (simp [intOf]; omega)
        | exact ⟨k + 1, hlt, by go_num, bset hbl2 (Nat.le_refl _) _, _, ⟨by rw [cell_set_ne (by decide)]; exact m0, cell_set_eq m1⟩, ⟨by simpa using m2, by simpa using m3⟩, RowsA.setLow (RowsA.push HOV.out HVIN.out HFK.out HSX.out HO2.out) (by omega) _⟩
    · have hke : k = rl := by omega
      subst hke
      have hmq := Num.ask_may p s HM.out
      have HX : Hid (∀ mx dx zx, Num.pt (Num.xL (Num.askP p s) at' k (cl + k)) (Num.denL (Num.askP p s) at' k) = (mx, dx, zx) → (Num.look (Num.askP p s) at').x = mx) := by
        intro mx dx zx hp
        rw [Num.look_some (Num.askP p s) at' hmq (by rw [Num.ask_len, ← HRL.out, Num.ask_costs, ← HCL.out]; exact HG.out.right) (by rw [Num.ask_len, ← HRL.out, Num.ask_den p s at' k HRL.out]; exact HG.out.den) k (cl + k) (by rw [Num.ask_len]; exact HRL.out) (by rw [Num.ask_len, ← HRL.out, Num.ask_costs, ← HCL.out]), hp]
      obtain ⟨⟨mx, dx, zx⟩, hpx⟩ : ∃ t, Num.pt (Num.xL (Num.askP p s) at' k (cl + k)) (Num.denL (Num.askP p s) at' k) = t := ⟨_, rfl⟩
      obtain ⟨⟨my, dy, zy⟩, hpy⟩ : ∃ t, Num.pt (Num.priceL (Num.askP p s) at' k) (Num.denL (Num.askP p s) at' k) = t := ⟨_, rfl⟩
      obtain ⟨⟨mg, dg, zg⟩, hpg⟩ : ∃ t, Num.pt (Num.gainL (Num.askP p s) at' k (cl + k)) (Num.denL (Num.askP p s) at' k) = t := ⟨_, rfl⟩
      have HLX : Hid ((Num.look (Num.askP p s) at').x = mx) := HX.out mx dx zx hpx
      have HLL : Hid ((Num.look (Num.askP p s) at').x.length = cl + k) := (Num.ask_parts p at' k cl s HM.out HRL.out HCL.out HG.out).2.1
      obtain ⟨g, c, hgv, hrows⟩ := RowsA.rows (rs := (Num.askP p s).rows) HRA.out (by rw [Num.ask_len]; exact HRL.out) (by omega) (fun j hj => by
        obtain ⟨xa, xl, xc, f1, _, _, f4, f5⟩ := HRC.out j hj
        refine ⟨xa, xl, xc, f1, ?_, f5⟩
        rw [Num.ask_row p s j (by have := HRL.out; omega)]
        exact f4.below hB (Nat.le_refl _)) (fun j hj => by rw [Num.ask_row p s j (by have := HRL.out; omega)])
      have HROWS : Hid (RowsAt wr (some ⟨g, 0, none⟩) k (Num.askP p s).rows) := hrows
      simp only [Value.slice.injEq, true_and] at hgv
      obtain ⟨rfl, rfl⟩ := hgv
      have HPX : Hid _ := hpx
      have HPY : Hid _ := hpy
      have HPG : Hid _ := hpg
      have HMQ : Hid _ := hmq
      clear hrows hpx hpy hpg HRA HX hmq
      have hat := (Num.right_all at' k _ HG.out.right).2
      have HAT : Hid _ := hat
      clear hat
      go_wp2_with fail
      refine (rlook_any ca cl cc (some ⟨g, 0, none⟩) k vc (Num.askP p s) wr (Ints.below HC.out hB (Nat.le_refl _)) HROWS.out aa ac at' (Ints.below HA.out hB (Nat.le_refl _)) HMQ.out (cl + k) rfl (by omega) HAT.out mx my mg dx dy dg zx zy zg HPX.out HPY.out HPG.out).mono ?_
      rintro e w3 ⟨hb3, ⟨hd, _⟩ | ⟨hd, xa, xl, xc, ya, yl, yc, ga, gl, gc, rfl, hix, _, _, hx8, _, _⟩⟩
      · rw [Num.ask_den p s at' k HRL.out] at hd
        exact absurd hd HG.out.den
      · have hxl : xl = cl + k := by have := hix.1; have := HLL.out; rw [HLX.out] at this; omega
        obtain ⟨j, hj1, hj2, hj3⟩ : ∃ j : Nat, at'[kk]?.getD 0 = j ∧ j < cl + k ∧ Num.atF at' kk = j := ⟨(at'[kk]?.getD 0).toNat, by have := HAT.out kk hkk; omega, by have := HAT.out kk hkk; omega, rfl⟩
        rcases hix.2 with h | ⟨xb, xo, hxa, hxs, hxcell⟩
        · omega
        have hB3 := bstep hB hb3
        rcases (Ints.below HA.out hB3 (Nat.le_refl _)).2 with h | ⟨ab, ao, haa, has, hacell⟩
        · omega
        have cx := hxcell j (by omega)
        have ca' := hacell kk hkk
        rw [hj1] at ca'
        have HV : Hid ((Num.look (Num.askP p s) at').x[Num.atF at' kk]?.getD 0 = mx[j]?.getD 0) := by
          show (Num.look (Num.askP p s) at').x[Num.atF at' kk]?.getD 0 = mx[j]?.getD 0
          rw [HLX.out, hj3]
        clear hxcell hacell hix
        generalize mx[j]?.getD 0 = xv at *
        subst hxa haa hxl
        have u1 : (j : Int) < ((cl + k : Nat) : Int) := by omega
        have u2 : (kk : Int) < (k : Int) := by omega
        go_wp2_with fail
        have hs3 := Six.new w3 (.slice (some ⟨xb, xo, none⟩) (cl + k) xc) (.int .i64 dx) (.slice ya yl yc) (.int .i64 dy) (.slice ga gl gc) (.int .i64 dg) 47
        generalize hW : w3.alloc (.cells #[.slice (some ⟨xb, xo, none⟩) (cl + k) xc, .int .i64 dx, .slice ya yl yc, .int .i64 dy, .slice ga gl gc, .int .i64 dg] 47) = W at *
        have z0 := hs3.c0
        have cx' := carry hs3.bel cx
        have ca2 := carry hs3.bel ca'
        have hBW := bstep hB3 hs3.bel
        generalize w3.heap.size = bb at *
        clear hW hs3 cx ca'
        go_quiet (fail)
        go_wp2_with fail
        go_ret
        exact ⟨ret_bool (by rw [HV.out]), bdrewN hBW _⟩

end Go.Proofs.Ytipcbhodlgoflaa
