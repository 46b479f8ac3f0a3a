/- What the document's Mosts does (chapter 7). -/
import Derived.Test.YtipcbhodlgoflabSpnWC
import Derived.Test.YtipcbhodlgoflabRowA
import Derived.Deep.RegionLaw
namespace Go.Proofs.Ytipcbhodlgoflab
open Go.RowKit

theorem Bx.stepB {b B : Nat} {vs : List Value} {V w' : World} (h : Bx b vs V) (hb : Below B V w') (hB : b < B) : Bx b vs w' :=
  ⟨fun i v e => by rw [hb.cell (p := ⟨b, i, none⟩) hB]; exact h.c i v e, fun i => by rw [hb.frozen (p := ⟨b, i, none⟩) hB]; exact h.f i, Nat.lt_of_lt_of_le h.lt hb.size⟩

theorem Ints.belowB {V w' : World} {a : Option Addr} {n B : Nat} {l : List Int} (h : Ints V a n l) (hf : n = 0 ∨ ∃ b off, a = some ⟨b, off, none⟩ ∧ b < B) (hb : Below B V w') : Ints w' a n l := by
  refine ⟨h.1, ?_⟩
  rcases h.2 with h0 | ⟨b', off, e, hlt, hc⟩
  · exact Or.inl h0
  · rcases hf with h0 | ⟨b, off2, e2, hbB⟩
    · exact Or.inl h0
    · rw [e] at e2
      simp only [Option.some.injEq, Addr.mk.injEq] at e2
      refine Or.inr ⟨b', off, e, Nat.lt_of_lt_of_le hlt hb.size, fun k hk => ?_⟩
      rw [hb.cell (p := ⟨b', off + k, none⟩) (by show b' < B; omega)]
      exact hc k hk

set_option maxRecDepth 4000 in
set_option maxHeartbeats 3200000 in
theorem rmosts_any (ca : Option Addr) (cl cc : Nat) (ra : Option Addr) (rl rc : Nat) (p : Num.Lp) (w : World) (hc : Ints w ca cl p.costs) (hr : RowsAt w ra rl p.rows)
    (aa : Option Addr) (al ac : Nat) (at' : List Int) (ha : Ints w aa al at') (ba : Option Addr) (bl bc : Nat) (y : List Int) (hy : Ints w ba bl y)
    (h : p.may = true ∧ Num.rightB at' p.rows.length (p.costs.length + p.rows.length) = true ∧ Num.denL p at' p.rows.length ≠ 0) (hly : y.length = p.rows.length) (hw : Num.withinB 12 y = true) :
    Calls Try.prog 14 #[.agg #[.slice ca cl cc, .slice ra rl rc], .slice aa al ac, .slice ba bl bc] w fun e w' => e = .returned (endV (Num.mostsN p at' y)) ∧ Below w.heap.size w w' := by
  have HC : Hid (Ints w ca cl p.costs) := hc
  have HRo : Hid (RowsAt w ra rl p.rows) := hr
  have HA : Hid (Ints w aa al at') := ha
  have HY : Hid (Ints w ba bl y) := hy
  have HRL : Hid (rl = p.rows.length) := hr.1
  have HBL : Hid (bl = rl) := by show _ = _; have h1 := hy.1; have h2 := hr.1; omega
  have HH : Hid (p.may = true ∧ Num.rightB at' p.rows.length (p.costs.length + p.rows.length) = true ∧ Num.denL p at' p.rows.length ≠ 0) := h
  have HH2 : Hid ((Num.withM p y).may = true ∧ Num.rightB at' (Num.withM p y).rows.length ((Num.withM p y).costs.length + (Num.withM p y).rows.length) = true ∧ Num.denL (Num.withM p y) at' (Num.withM p y).rows.length ≠ 0) := by
    refine ⟨Num.withM_may p y h.1 hw, ?_, ?_⟩
    · rw [Num.withM_len]; exact h.2.1
    · rw [Num.withM_len, Num.withM_den p y at' _ rfl]; exact h.2.2
  obtain ⟨N, hN⟩ : ∃ N, N = p.costs.length + p.rows.length := ⟨_, rfl⟩
  have hN8 : N ≤ 8 := by have := (p.may_of h.1).1.2; have := (p.may_of h.1).2.2.1.2; omega
  have hr4 : rl ≤ 4 ∧ 1 ≤ rl := by have := hr.1; have := (p.may_of h.1).2.2.1; omega
  obtain ⟨k1, k2, _, _⟩ := Num.mosts_parts p at' y h hw N hN
  obtain ⟨_, _, _, g1, k3, _⟩ := Num.look_parts p at' p.rows.length p.costs.length h.1 rfl rfl h.2.1 h.2.2
  obtain ⟨_, _, _, g2, k4, _⟩ := Num.look_parts (Num.withM p y) at' p.rows.length p.costs.length HH2.out.1 (Num.withM_len p y).symm rfl h.2.1 (by have := HH2.out.2.2; rw [Num.withM_len] at this; exact this)
  have sp := (Num.mosts_span p (p.rows.map (·.2)) y at' p.rows.length p.costs.length rfl rfl (by rw [Num.withM_self]; exact h.1) HH2.out.1 h.2.1 h.2.2).1
  rw [Num.withM_self] at sp
  have HSM := sp
  generalize hA : (fun j : Nat => (Num.look p at').x[j]?.getD 0 * (Num.look (Num.withM p y) at').xd) = A
  generalize hB : (fun j : Nat => (Num.look (Num.withM p y) at').x[j]?.getD 0 * (Num.look p at').xd) = B
  have HAj : Hid (∀ j : Nat, A j = (Num.look p at').x[j]?.getD 0 * (Num.look (Num.withM p y) at').xd) := by intro j; rw [← hA]
  have HBj : Hid (∀ j : Nat, B j = (Num.look (Num.withM p y) at').x[j]?.getD 0 * (Num.look p at').xd) := by intro j; rw [← hB]
  have HSj : Hid (∀ j : Nat, Num.SmallP (A j) (B j)) := by intro j; rw [← hA, ← hB]; exact HSM j
  have HSI : Hid (∀ k : Nat, Num.SpanIs A B k (Num.spanS A B k)) := fun k => Num.span_is A B k fun j _ => HSj.out j
  have HRS : Hid (endV (Num.mostsN p at' y) = endV (Num.spanS A B N)) := by show _ = _; unfold Num.mostsN; rw [hA, hB, hN]
  rw [HRS.out]
  generalize hres : endV (Num.spanS A B N) = res
  have HRES : Hid (endV (Num.spanS A B N) = res) := hres
  have HK1 : Hid _ := k1
  have HK2 : Hid _ := k2
  have HK3 : Hid _ := k3
  have HK4 : Hid _ := k4
  rcases hr.2 with h0 | ⟨b, off, hra, hbs, hrc⟩
  · omega
  rcases hy.2 with h0 | ⟨yb, yo, hyb, hys, hyc⟩
  · have := HBL.out; omega
  obtain ⟨FF, hF⟩ : ∃ F : Nat → Value, F = fun j => (w.cell? ⟨b, off + j * 2, none⟩).getD undef := ⟨_, rfl⟩
  have HRC : Hid (∀ j, j < rl → ∃ xa xl xc, FF j = .slice xa xl xc ∧ w.cell? ⟨b, off + j * 2, none⟩ = some (.slice xa xl xc) ∧ Ints w xa xl (p.rows[j]?.getD ([], 0)).1 ∧ xl ≤ 9223372036854775807) := by
    intro j hj
    obtain ⟨xa, xl, xc, c0, c1, c2, c3⟩ := hrc j hj
    exact ⟨xa, xl, xc, by rw [hF]; show (w.cell? ⟨b, off + j * 2, none⟩).getD undef = _; rw [c0]; rfl, c0, c2, c3⟩
  have HYC : Hid (∀ j, j < rl → w.cell? ⟨yb, yo + j, none⟩ = some (.int .i64 (y[j]?.getD 0))) := by intro j hj; exact hyc j (by have := HBL.out; omega)
  subst hra hyb
  clear hres HRS hA hB sp HSM k1 k2 k3 k4 hc hr ha hy h hly hw hN hrc hyc hF
  obtain ⟨i0, hif, hz0, hz1, hz2⟩ := info_parts Try.infoRow5
  go_enter Try.func14, Try.ntmps14
  go_wp2_with fail
  have HB0 : Hid (Below w.heap.size w ((w.alloc (.cells #[.slice ca cl cc, .slice (some ⟨b, off, none⟩) rl rc] 25)).alloc (.cells #[.bool false, .int .i64 0, .int .i64 0, .bool false, .int .i64 0, .int .i64 0, .bool false] 44))) := bstep (balloc _ _) (balloc _ _)
  refine (rlook_is _ _ _ _ _ _ p _ (Ints.below HC.out HB0.out (Nat.le_refl _)) (RowsAt.below HRo.out HB0.out (Nat.le_refl _)) _ _ _ at' (Ints.below HA.out HB0.out (Nat.le_refl _)) HH.out).mono ?_
  rintro e w1 ⟨xa, xl, xc, ya, yl, yc, ga, gl, gc, rfl, hx, _, hb1⟩
  have HP : Hid (Bx (w.heap.size) [.slice ca cl cc, .slice (some ⟨b, off, none⟩) rl rc] w1) := ((Bx.new rfl _ _).step (balloc _ _)).step hb1
  have HR : Hid (Bx (w.heap.size + 1) [.bool false, .int .i64 0, .int .i64 0, .bool false, .int .i64 0, .int .i64 0, .bool false] w1) := (Bx.new (by simp) _ _).step hb1
  have HB1 : Hid (Below w.heap.size w w1) := bstep HB0.out hb1
  have hgl : N = xl := by have := hx.1; have := HK1.out; omega
  subst hgl
  have HX : Hid (Ints w1 xa N (Num.look p at').x) := hx
  clear hb1 hx HB0
  obtain ⟨p0, p1, _, _⟩ := HP.out.all2
  have z0 : w.heap.size < w1.heap.size := HP.out.lt
  generalize (Num.look p at').xd = dx at *
  generalize (Num.look p at').yd = dy at *
  generalize (Num.look p at').gd = dg at *
  generalize (Num.look p at').x = lg at *
  go_wp2_with fail
  have HVV : Hid (Below w.heap.size w ((w1.alloc (.cells #[.slice xa N xc, .int .i64 dx, .slice ya yl yc, .int .i64 dy, .slice ga gl gc, .int .i64 dg] 39)).alloc (.cells #[.slice ca cl cc, .slice none 0 0] 25)) ∧ Bx w.heap.size [.slice ca cl cc, .slice (some ⟨b, off, none⟩) rl rc] ((w1.alloc (.cells #[.slice xa N xc, .int .i64 dx, .slice ya yl yc, .int .i64 dy, .slice ga gl gc, .int .i64 dg] 39)).alloc (.cells #[.slice ca cl cc, .slice none 0 0] 25)) ∧ Bx (w.heap.size + 1) [.bool false, .int .i64 0, .int .i64 0, .bool false, .int .i64 0, .int .i64 0, .bool false] ((w1.alloc (.cells #[.slice xa N xc, .int .i64 dx, .slice ya yl yc, .int .i64 dy, .slice ga gl gc, .int .i64 dg] 39)).alloc (.cells #[.slice ca cl cc, .slice none 0 0] 25)) ∧ Bx w1.heap.size [.slice xa N xc, .int .i64 dx, .slice ya yl yc, .int .i64 dy, .slice ga gl gc, .int .i64 dg] ((w1.alloc (.cells #[.slice xa N xc, .int .i64 dx, .slice ya yl yc, .int .i64 dy, .slice ga gl gc, .int .i64 dg] 39)).alloc (.cells #[.slice ca cl cc, .slice none 0 0] 25)) ∧ Bx (w1.heap.size + 1) [.slice ca cl cc, .slice none 0 0] ((w1.alloc (.cells #[.slice xa N xc, .int .i64 dx, .slice ya yl yc, .int .i64 dy, .slice ga gl gc, .int .i64 dg] 39)).alloc (.cells #[.slice ca cl cc, .slice none 0 0] 25)) ∧ Ints ((w1.alloc (.cells #[.slice xa N xc, .int .i64 dx, .slice ya yl yc, .int .i64 dy, .slice ga gl gc, .int .i64 dg] 39)).alloc (.cells #[.slice ca cl cc, .slice none 0 0] 25)) xa N lg ∧ ((w1.alloc (.cells #[.slice xa N xc, .int .i64 dx, .slice ya yl yc, .int .i64 dy, .slice ga gl gc, .int .i64 dg] 39)).alloc (.cells #[.slice ca cl cc, .slice none 0 0] 25)).heap.size = w1.heap.size + 1 + 1) :=
    ⟨bstep (bstep HB1.out (balloc _ _)) (balloc _ _), (HP.out.step (balloc _ _)).step (balloc _ _), (HR.out.step (balloc _ _)).step (balloc _ _), (Bx.new rfl _ _).step (balloc _ _), Bx.new (by simp) _ _, Ints.below (Ints.below HX.out (balloc _ _) (Nat.le_refl _)) (balloc _ _) (Nat.le_refl _), by simp⟩
  have HW : Hid (N = 0 ∨ ∃ b off, xa = some ⟨b, off, none⟩ ∧ b < w1.heap.size) := HX.out.where_
  have hz1' : w.heap.size + 1 < w1.heap.size := HR.out.lt
  clear HP HR HB1 HX p0 p1 z0
  generalize (w1.alloc (.cells #[.slice xa N xc, .int .i64 dx, .slice ya yl yc, .int .i64 dy, .slice ga gl gc, .int .i64 dg] 39)).alloc (.cells #[.slice ca cl cc, .slice none 0 0] 25) = V at *
  generalize w1.heap.size = b8 at *
  have HBV : Hid (∀ w', Below (b8 + 1) V w' → Below w.heap.size w w' ∧ Bx w.heap.size [.slice ca cl cc, .slice (some ⟨b, off, none⟩) rl rc] w' ∧ Bx (w.heap.size + 1) [.bool false, .int .i64 0, .int .i64 0, .bool false, .int .i64 0, .int .i64 0, .bool false] w' ∧ Bx b8 [.slice xa N xc, .int .i64 dx, .slice ya yl yc, .int .i64 dy, .slice ga gl gc, .int .i64 dg] w' ∧ Ints w' xa N lg) := by
    intro w' h
    obtain ⟨v1, v2, v3, v4, v5, v6, v7⟩ := HVV.out
    refine ⟨v1.trans (h.mono (by omega)), v2.stepB h (by omega), v3.stepB h (by omega), v4.stepB h (by omega), v6.belowB ?_ h⟩
    rcases HW.out with h0 | ⟨b', o', h1, h2⟩
    · exact Or.inl h0
    · exact Or.inr ⟨b', o', h1, by omega⟩
  go_loopw [11] (fun i wr => ∃ k : Nat, k ≤ rl ∧ i = .int .i64 k ∧ Below (b8 + 1) V wr ∧ ∃ v, (wr.cell? ⟨b8 + 1, 0, none⟩ = some (.slice ca cl cc) ∧ wr.cell? ⟨b8 + 1, 1, none⟩ = some v) ∧ (wr.frozen? ⟨b8 + 1, 0, none⟩ = false ∧ wr.frozen? ⟨b8 + 1, 1, none⟩ = false) ∧ RowsA wr (b8 + 1 + 1) v k FF (fun j => y[j]?.getD 0)) (fun i _ => rl - (intOf i).toNat)
  case atStart =>
    obtain ⟨k2, k3, k4, k5⟩ := HVV.out.2.2.2.2.1.all2
    exact ⟨0, Nat.zero_le _, rfl, Below.refl _ _, _, ⟨k2, k3⟩, ⟨k4, k5⟩, [], World.ownsRow_nil _ _ _ _, fun _ hj => absurd hj (Nat.not_lt_zero _)⟩
  case round =>
    obtain ⟨k, hk, rfl, hbl, v, ⟨c0, c1⟩, ⟨f0, f1⟩, hRA⟩ := hrel
    obtain ⟨hB, hxP, hxR, hx8, hxi⟩ := HBV.out wr hbl
    obtain ⟨b0, b1, _, _⟩ := hxP.all2
    have z0 : w.heap.size < wr.heap.size := hxP.lt
    have z8 : b8 < wr.heap.size := hx8.lt
    have z9 : b8 + 1 < wr.heap.size := by have := hbl.size; have := HVV.out.2.2.2.2.2.2; omega
    have HRA : Hid (RowsA wr (b8 + 1 + 1) v k FF (fun j => y[j]?.getD 0)) := hRA
    obtain ⟨va, vc, hv⟩ := hRA.shape
    subst hv
    clear hRA
    by_cases hlt : k < rl
    · clear hxP hxR hx8 hxi
      obtain ⟨ua, ul, uc, hFk, e0, _, _⟩ := HRC.out k hlt
      have y0 := HYC.out k hlt
      rw [← (bcell hB).1 b _ hbs] at e0
      rw [← (bcell hB).1 yb _ hys] at y0
      have HFK : Hid (.slice ua ul uc = FF k) := hFk.symm
      generalize hsx : y[k]?.getD 0 = x at y0
      have HSX : Hid (x = y[k]?.getD 0) := hsx.symm
      clear hFk hsx
      have hwb : b < wr.heap.size := by have := hB.size; omega
      have hwy : yb < wr.heap.size := by have := hB.size; omega
      have hkb : (k : Int) < (bl : Int) := by have := HBL.out; omega
      obtain ⟨vs, hov, hvin⟩ := RowsA.kept HRA.out (balloc wr (.cells #[.slice ua ul uc, .int .i64 x] 51))
      have HOV : Hid _ := hov
      have HVIN : Hid _ := hvin
      have hone : ∀ u ∈ [Value.slice ua ul uc, Value.int .i64 x], u.oneCell' = true := by
        intro u hu
        simp only [List.mem_cons, List.not_mem_nil, or_false] at hu
        rcases hu with rfl | rfl <;> rfl
      have HONE : Hid _ := hone
      have HBL1 : Hid _ := hbl
      have HST : Hid (∀ W w2, Below wr.heap.size wr W → W.grownBy w2 (Value.slice va k vc).ownBlock → Below (b8 + 1) V w2 ∧ (w2.cell? ⟨b8 + 1, 0, none⟩ = some (.slice ca cl cc) ∧ w2.cell? ⟨b8 + 1, 1, none⟩ = some (.slice va k vc)) ∧ (w2.frozen? ⟨b8 + 1, 0, none⟩ = false ∧ w2.frozen? ⟨b8 + 1, 1, none⟩ = false)) := by
        intro W w2 hW hg
        have hWs := hW.size
        have hne : some (b8 + 1) ≠ (Value.slice va k vc).ownBlock := by
          intro e
          have := (World.ownsRow.lt HOV.out _ e.symm).1
          omega
        refine ⟨(HBL1.out.trans (hW.mono (by omega))).grown hg (by omega) (fun j hj => by have := (World.ownsRow.lt HOV.out j hj).1; omega), ⟨?_, ?_⟩, ?_, ?_⟩
        · rw [hg.cell_far ⟨b8 + 1, 0, none⟩ (by show b8 + 1 < _; omega) hne]; exact carry hW c0
        · rw [hg.cell_far ⟨b8 + 1, 1, none⟩ (by show b8 + 1 < _; omega) hne]; exact carry hW c1
        · rw [hg.frozen_far ⟨b8 + 1, 0, none⟩ (by show b8 + 1 < _; omega) hne]; exact carryF hW c0 f0
        · rw [hg.frozen_far ⟨b8 + 1, 1, none⟩ (by show b8 + 1 < _; omega) hne]; exact carryF hW c1 f1
      clear hov hvin hone HRA hbl HK1 HK2 HK3 HK4 HAj HBj HSj HSI HRES
      go_wp2_with fail
      go_region_law (refine step_append_lies _ (by rfl) (.tmp 33) (.tmp 45) 23 (by rfl) (b8 + 1 + 1) 51 i0 (.agg #[.slice none 0 0, .int .i64 0]) 2 32 Try.underlying23 hif hz0 hz1 hz2 (by rfl) (by decide) (.slice va k vc) k vs (by rfl) HOV.out ⟨wr.heap.size, 0, none⟩ 1 1 [.slice ua ul uc, .int .i64 x] (by rfl) (by rfl) news_two HONE.out (by decide) (by unfold maxLen; omega) (by omega) (by simp; omega) (wr.heap.size + 1) (by simp) ?_; intro g cap w2 ho2 hg2 hat2 hlt2; obtain ⟨hbl2, ⟨m0, m1⟩, m2, m3⟩ := HST.out _ w2 (balloc _ _).drew hg2; have HO2 : Hid (w2.ownsRow (b8 + 1 + 1) 51 2 (.slice (some ⟨g, 0, none⟩) (k + 1) cap) (k + 1) (vs ++ [.slice ua ul uc, .int .i64 x])) := ho2; clear ho2 hg2 hat2)
      all_goals (clear c0 c1 f0 f1 b0 b1 e0 y0)
      all_goals go_wp2_with fail
      all_goals go_roundw
      all_goals first
        | (simp [intOf]; omega)
        | exact ⟨k + 1, hlt, by go_num, bset hbl2 (Nat.le_refl _) _, _, ⟨by rw [cell_set_ne (by decide)]; exact m0, cell_set_eq m1⟩, ⟨by simpa using m2, by simpa using m3⟩, RowsA.setLow (RowsA.push HOV.out HVIN.out HFK.out HSX.out HO2.out) (by omega) _⟩
    · have hke : rl = k := by omega
      subst hke
      obtain ⟨g, c, hgv, hrows⟩ := RowsA.rows (rs := (Num.withM p y).rows) HRA.out (by rw [Num.withM_len]; exact HRL.out) (by omega) (fun j hj => by
        obtain ⟨xa, xl, xc, f1, _, f4, f5⟩ := HRC.out j hj
        refine ⟨xa, xl, xc, f1, ?_, f5⟩
        rw [Num.withM_row p y j (by have := HRL.out; omega)]
        exact f4.below hB (Nat.le_refl _)) (fun j hj => by rw [Num.withM_row p y j (by have := HRL.out; omega)])
      have HROWS : Hid (RowsAt wr (some ⟨g, 0, none⟩) rl (Num.withM p y).rows) := hrows
      simp only [Value.slice.injEq, true_and] at hgv
      obtain ⟨rfl, rfl⟩ := hgv
      have HBw : Hid (Below w.heap.size w wr) := hB
      have HX8w : Hid (Bx b8 [.slice xa N xc, .int .i64 dx, .slice ya yl yc, .int .i64 dy, .slice ga gl gc, .int .i64 dg] wr) := hx8
      have HRw : Hid (Bx (w.heap.size + 1) [.bool false, .int .i64 0, .int .i64 0, .bool false, .int .i64 0, .int .i64 0, .bool false] wr) := hxR
      have HXw : Hid (Ints wr xa N lg) := hxi
      clear hrows HRA hB hxP hxR hx8 hxi hbl HVV HBV HRC HYC HRo HY
      go_wp2_with fail
      refine (rlook_is _ _ _ _ _ _ (Num.withM p y) _ (Ints.below HC.out HBw.out (Nat.le_refl _)) HROWS.out _ _ _ at' (Ints.below HA.out HBw.out (Nat.le_refl _)) HH2.out).mono ?_
      rintro e w2 ⟨xa2, xl2, xc2, ya2, yl2, yc2, ga2, gl2, gc2, rfl, hx2, _, hb2⟩
      have hgl2 : N = xl2 := by have := hx2.1; have := HK2.out; omega
      subst hgl2
      have HG2 : Hid (Ints w2 xa2 N (Num.look (Num.withM p y) at').x) := hx2
      have HX8 : Hid (Bx b8 [.slice xa N xc, .int .i64 dx, .slice ya yl yc, .int .i64 dy, .slice ga gl gc, .int .i64 dg] w2) := HX8w.out.step hb2
      have HR2 : Hid (Bx (w.heap.size + 1) [.bool false, .int .i64 0, .int .i64 0, .bool false, .int .i64 0, .int .i64 0, .bool false] w2) := HRw.out.step hb2
      have HGa : Hid (Ints w2 xa N lg) := Ints.below HXw.out hb2 (Nat.le_refl _)
      have HB3 : Hid (Below w.heap.size w w2) := bstep HBw.out hb2
      clear hb2 hx2 HBw HX8w HRw HXw HROWS c0 c1 f0 f1 z8 z9 b0 b1 z0
      generalize (Num.look (Num.withM p y) at').xd = dx2 at *
      generalize (Num.look (Num.withM p y) at').yd = dy2 at *
      generalize (Num.look (Num.withM p y) at').gd = dg2 at *
      generalize (Num.look (Num.withM p y) at').x = lg2 at *
      go_wp2_with fail
      refine (whole_any _).mono ?_
      rintro e w3 ⟨rfl, hb3⟩
      have HRC : Hid (RC w b8 w2.heap.size w3.heap.size [.slice xa N xc, .int .i64 dx, .slice ya yl yc, .int .i64 dy, .slice ga gl gc, .int .i64 dg] [.slice xa2 N xc2, .int .i64 dx2, .slice ya2 yl2 yc2, .int .i64 dy2, .slice ga2 gl2 gc2, .int .i64 dg2] xa xa2 N lg lg2 (Num.spanS A B 0) (w3.alloc (.cells #[.bool true, .int .i64 0, .int .i64 0, .bool true, .int .i64 0, .int .i64 0, .bool false] 44))) := by
        have hs3 : w2.heap.size < w3.heap.size := by have := hb3.size; simp at this; omega
        refine ⟨bstep (bstep (bstep HB3.out (balloc _ _)) hb3) (balloc _ _), ((HX8.out.step (balloc _ _)).step hb3).step (balloc _ _), ((Bx.new rfl _ _).step hb3).step (balloc _ _), Bx.new rfl _ _, ((HR2.out.step (balloc _ _)).step hb3).step (balloc _ _), Ints.below (Ints.below (Ints.below HGa.out (balloc _ _) (Nat.le_refl _)) hb3 (Nat.le_refl _)) (balloc _ _) (Nat.le_refl _), Ints.below (Ints.below (Ints.below HG2.out (balloc _ _) (Nat.le_refl _)) hb3 (Nat.le_refl _)) (balloc _ _) (Nat.le_refl _), hz1', HX8.out.lt, hs3, ?_, ?_⟩
        · rcases HGa.out.where_ with h | ⟨b, off, h1, h2⟩
          · exact Or.inl h
          · exact Or.inr ⟨b, off, h1, by omega⟩
        · rcases HG2.out.where_ with h | ⟨b, off, h1, h2⟩
          · exact Or.inl h
          · exact Or.inr ⟨b, off, h1, by omega⟩
      clear hb3 HX8 HR2 HGa HG2 HB3
      generalize w2.heap.size = b10 at *
      generalize hb12 : w3.heap.size = b12 at HRC
      unfold spanV
      simp only [Num.wholeS]
      go_wp2_with fail
      clear hb12
      generalize w3.alloc (.cells #[.bool true, .int .i64 0, .int .i64 0, .bool true, .int .i64 0, .int .i64 0, .bool false] 44) = V2 at *
      generalize hc8 : ([.slice xa N xc, .int .i64 dx, .slice ya yl yc, .int .i64 dy, .slice ga gl gc, .int .i64 dg] : List Value) = c8 at HRC
      generalize hc10 : ([.slice xa2 N xc2, .int .i64 dx2, .slice ya2 yl2 yc2, .int .i64 dy2, .slice ga2 gl2 gc2, .int .i64 dg2] : List Value) = c10 at HRC
      have HC8 : Hid (∀ v, Bx b8 c8 v → v.cell? ⟨b8, 0, none⟩ = some (.slice xa N xc) ∧ v.cell? ⟨b8, 1, none⟩ = some (.int .i64 dx)) := by intro v h; subst hc8; exact ⟨h.c 0 _ rfl, h.c 1 _ rfl⟩
      have HC10 : Hid (∀ v, Bx b10 c10 v → v.cell? ⟨b10, 0, none⟩ = some (.slice xa2 N xc2) ∧ v.cell? ⟨b10, 1, none⟩ = some (.int .i64 dx2)) := by intro v h; subst hc10; exact ⟨h.c 0 _ rfl, h.c 1 _ rfl⟩
      clear hc8 hc10
      go_loopw [15] (fun i wr => ∃ k : Nat, k ≤ N ∧ i = .int .i64 k ∧ RC w b8 b10 b12 c8 c10 xa xa2 N lg lg2 (Num.spanS A B k) wr) (fun i _ => N - (intOf i).toNat)
      case atStart => exact ⟨0, Nat.zero_le _, rfl, HRC.out⟩
      case round =>
        obtain ⟨k, hk, rfl, hN⟩ := hrel
        have hS := HSI.out k
        obtain ⟨bd1, bd2, bd3, bd4⟩ := Num.span_bd hS
        obtain ⟨d0, d1⟩ := HC8.out _ hN.x8
        obtain ⟨d2, d3⟩ := HC10.out _ hN.x10
        obtain ⟨⟨s0, s1, s2, s3, s4, s5, s6⟩, sf0, sf1, sf2, sf3, sf4, sf5, sf6⟩ := hN.x12.all7
        have z8 : b8 < wr.heap.size := hN.x8.lt
        have z10 : b10 < wr.heap.size := hN.x10.lt
        have z12 : b12 < wr.heap.size := hN.x12.lt
        have HN : Hid _ := hN
        by_cases hlt : k < N
        · have HE : Hid (Num.spanS A B (k + 1) = Num.aboveS (Num.spanS A B k) (A k) (B k)) := rfl
          have hM := HSj.out k
          rcases hN.i8.2 with h | ⟨bn, on, hna, hbn, hcn⟩
          · omega
          rcases hN.i10.2 with h | ⟨bs, os, hsa, hbs, hcs⟩
          · omega
          have cn := hcn k hlt
          have cs := hcs k hlt
          have hx := HK3.out k
          have hx2 := HK4.out k
          have HAk := HAj.out k
          have HBk := HBj.out k
          clear hcn hcs hN hS
          have HXk : Hid (∀ v, Ints v xa N lg → v.cell? ⟨bn, on + k, none⟩ = some (.int .i64 (lg[k]?.getD 0))) := by
            intro v h
            rcases h.2 with h0 | ⟨b', o', he, _, hcc⟩
            · omega
            · rw [hna] at he
              simp only [Option.some.injEq, Addr.mk.injEq, and_true] at he
              rw [he.1, he.2]; exact hcc k hlt
          have HX2k : Hid (∀ v, Ints v xa2 N lg2 → v.cell? ⟨bs, os + k, none⟩ = some (.int .i64 (lg2[k]?.getD 0))) := by
            intro v h
            rcases h.2 with h0 | ⟨b', o', he, _, hcc⟩
            · omega
            · rw [hsa] at he
              simp only [Option.some.injEq, Addr.mk.injEq, and_true] at he
              rw [he.1, he.2]; exact hcc k hlt
          generalize lg[k]?.getD 0 = x at cn hx HAk HXk
          generalize lg2[k]?.getD 0 = x2 at cs hx2 HBk HX2k
          have hp1 := Num.mul_bd x dx2 1073741824 (by omega) (by omega) (by omega)
          have hp2 := Num.mul_bd x2 dx 1073741824 (by omega) (by omega) (by omega)
          simp only [show (1073741824 : Int) * 1073741824 = 1152921504606846976 from rfl] at hp1 hp2
          generalize hq1 : x * dx2 = q1 at *
          generalize hq2 : x2 * dx = q2 at *
          rw [HAk, HBk] at hM
          generalize hs1 : Num.spanS A B (k + 1) = s' at HE
          have HS1 : Hid (Num.spanS A B (k + 1) = s') := hs1
          clear hs1
          generalize Num.spanS A B k = s at *
          have KA : Hid (∀ v, Calls Try.prog 34 #[.agg #[.bool s.o, .int .i64 s.n, .int .i64 s.d, .bool s.o2, .int .i64 s.n2, .int .i64 s.d2, .bool s.no], .int .i64 q1, .int .i64 q2] v fun e v' => e = .returned (.agg #[.bool s'.o, .int .i64 s'.n, .int .i64 s'.d, .bool s'.o2, .int .i64 s'.n2, .int .i64 s'.d2, .bool s'.no]) ∧ Below v.heap.size v v') := by
            intro v
            have := above7_any s q1 q2 v hM bd1 bd2 bd3 bd4
            rw [← HAk, ← HBk, ← HE.out, HAk, HBk] at this
            exact this
          clear HE hM HAk HBk HAj HBj HSj HSI HK1 HK2 HK3 HK4 HC HA HH HH2
          subst hna hsa
          obtain ⟨so, sn, sd, so2, sn2, sd2, sno⟩ := s
          obtain ⟨so', sn', sd', so2', sn2', sd2', sno'⟩ := s'
          dsimp only at *
          go_wp2_with fail
          have wq1 : IntKind.i64.wrap q1 = q1 := by rw [IntWalk.i64_left]; exact IntWalk.wrap64_in _ (by omega)
          have wq2 : IntKind.i64.wrap q2 = q2 := by rw [IntWalk.i64_left]; exact IntWalk.wrap64_in _ (by omega)
          have q0 : ∀ v, RS w b8 b10 b12 c8 c10 (some ⟨bn, on, none⟩) (some ⟨bs, os, none⟩) N lg lg2 v → v.cell? ⟨b8, 0, none⟩ = some (.slice (some ⟨bn, on, none⟩) N xc) := fun v h => by obtain ⟨s, h⟩ := h; exact (HC8.out v h.x8).1
          have q1' : ∀ v, RS w b8 b10 b12 c8 c10 (some ⟨bn, on, none⟩) (some ⟨bs, os, none⟩) N lg lg2 v → v.cell? ⟨b8, 1, none⟩ = some (.int .i64 dx) := fun v h => by obtain ⟨s, h⟩ := h; exact (HC8.out v h.x8).2
          have q2' : ∀ v, RS w b8 b10 b12 c8 c10 (some ⟨bn, on, none⟩) (some ⟨bs, os, none⟩) N lg lg2 v → v.cell? ⟨b10, 0, none⟩ = some (.slice (some ⟨bs, os, none⟩) N xc2) := fun v h => by obtain ⟨s, h⟩ := h; exact (HC10.out v h.x10).1
          have q3 : ∀ v, RS w b8 b10 b12 c8 c10 (some ⟨bn, on, none⟩) (some ⟨bs, os, none⟩) N lg lg2 v → v.cell? ⟨b10, 1, none⟩ = some (.int .i64 dx2) := fun v h => by obtain ⟨s, h⟩ := h; exact (HC10.out v h.x10).2
          have q4 : ∀ v, RS w b8 b10 b12 c8 c10 (some ⟨bn, on, none⟩) (some ⟨bs, os, none⟩) N lg lg2 v → v.cell? ⟨bn, on + k, none⟩ = some (.int .i64 x) := fun v h => by obtain ⟨s, h⟩ := h; exact HXk.out v h.i8
          have q5 : ∀ v, RS w b8 b10 b12 c8 c10 (some ⟨bn, on, none⟩) (some ⟨bs, os, none⟩) N lg lg2 v → v.cell? ⟨bs, os + k, none⟩ = some (.int .i64 x2) := fun v h => by obtain ⟨s, h⟩ := h; exact HX2k.out v h.i10
          have hS0 : RS w b8 b10 b12 c8 c10 (some ⟨bn, on, none⟩) (some ⟨bs, os, none⟩) N lg lg2 wr.drew := ⟨_, HN.out.step (Below.refl _ _).drew⟩
          have i0 : (0 : Int) ≤ (k : Int) := by omega
          have i1 : (k : Int) < (N : Int) := by omega
          clear d0 d1 d2 d3 cn cs
          refine wp_region_held_drew (S := fun v => RS w b8 b10 b12 c8 c10 (some ⟨bn, on, none⟩) (some ⟨bs, os, none⟩) N lg lg2 v) (by kernel_rfl) ?_ (fun hHeld => ?_)
          · assumption
          refine takeS (i := 1) (v := ?_) rfl (by kernel_rfl) (by kernel_rfl) (by kernel_rfl) (fun _ _ _ h => h) (Or.inl ⟨by rfl, ?_⟩) (by assumption) ?_
          rotate_left
          · (intro w' hSw; go_simp; (try with_reducible rfl))
          simp only [Act.put, List.setIfInBounds_toArray, List.set_cons_zero, List.set_cons_succ]
          refine takeS (i := 2) (v := ?_) rfl (by kernel_rfl) (by kernel_rfl) (by kernel_rfl) (fun _ _ _ h => h) (Or.inl ⟨by rfl, ?_⟩) (by assumption) ?_
          rotate_left
          · (intro w' hSw; go_simp; (try with_reducible rfl))
          simp only [Act.put, List.setIfInBounds_toArray, List.set_cons_zero, List.set_cons_succ]
          refine takeS (i := 3) (v := ?_) rfl (by kernel_rfl) (by kernel_rfl) (by kernel_rfl) (fun _ _ _ h => h) (Or.inl ⟨by rfl, ?_⟩) (by assumption) ?_
          rotate_left
          · (intro w' hSw; go_simp; (try with_reducible rfl))
          simp only [Act.put, List.setIfInBounds_toArray, List.set_cons_zero, List.set_cons_succ]
          refine takeS (i := 4) (v := ?_) rfl (by kernel_rfl) (by kernel_rfl) (by kernel_rfl) (fun _ _ _ h => h) (Or.inl ⟨by rfl, ?_⟩) (by assumption) ?_
          rotate_left
          · (intro w' hSw; go_simp; (try with_reducible rfl))
          simp only [Act.put, List.setIfInBounds_toArray, List.set_cons_zero, List.set_cons_succ]
          refine takeS (i := 5) (v := ?_) rfl (by kernel_rfl) (by kernel_rfl) (by kernel_rfl) (fun _ _ _ h => h) (Or.inl ⟨by rfl, ?_⟩) (by assumption) ?_
          rotate_left
          · (intro w' hSw; go_simp; (try with_reducible rfl))
          simp only [Act.put, List.setIfInBounds_toArray, List.set_cons_zero, List.set_cons_succ]
          refine takeS (i := 6) (v := ?_) rfl (by kernel_rfl) (by kernel_rfl) (by kernel_rfl) (fun _ _ _ h => h) (Or.inl ⟨by rfl, ?_⟩) (by assumption) ?_
          rotate_left
          · (intro w' hSw; go_simp; (try with_reducible rfl))
          simp only [Act.put, List.setIfInBounds_toArray, List.set_cons_zero, List.set_cons_succ]
          refine takeS (i := 7) (v := ?_) rfl (by kernel_rfl) (by kernel_rfl) (by kernel_rfl) (fun _ _ _ h => h) (Or.inl ⟨by rfl, ?_⟩) (by assumption) ?_
          rotate_left
          · (intro w' hSw; go_simp; (try with_reducible rfl))
          simp only [Act.put, List.setIfInBounds_toArray, List.set_cons_zero, List.set_cons_succ]
          refine takeS (i := 8) (v := ?_) rfl (by kernel_rfl) (by kernel_rfl) (by kernel_rfl) (fun _ _ _ h => h) (Or.inl ⟨by rfl, ?_⟩) (by assumption) ?_
          rotate_left
          · (intro w' hSw; go_simp; (try with_reducible rfl))
          simp only [Act.put, List.setIfInBounds_toArray, List.set_cons_zero, List.set_cons_succ]
          refine takeS (i := 9) (v := ?_) rfl (by kernel_rfl) (by kernel_rfl) (by kernel_rfl) (fun _ _ _ h => h) (Or.inl ⟨by rfl, ?_⟩) (by assumption) ?_
          rotate_left
          · (intro w' hSw; go_simp; (try with_reducible rfl))
          simp only [Act.put, List.setIfInBounds_toArray, List.set_cons_zero, List.set_cons_succ]
          refine takeS (i := 10) (v := ?_) rfl (by kernel_rfl) (by kernel_rfl) (by kernel_rfl) (fun _ _ _ h => h) (Or.inl ⟨by rfl, ?_⟩) (by assumption) ?_
          rotate_left
          · (intro w' hSw; go_simp; (try with_reducible rfl))
          simp only [Act.put, List.setIfInBounds_toArray, List.set_cons_zero, List.set_cons_succ]
          refine takeS (i := 11) (v := ?_) rfl (by kernel_rfl) (by kernel_rfl) (by kernel_rfl) (fun _ _ _ h => h) (Or.inl ⟨by rfl, ?_⟩) (by assumption) ?_
          rotate_left
          · (intro w' hSw; go_simp; (try with_reducible rfl))
          simp only [Act.put, List.setIfInBounds_toArray, List.set_cons_zero, List.set_cons_succ]
          refine takeS (i := 12) (v := ?_) rfl (by kernel_rfl) (by kernel_rfl) (by kernel_rfl) (fun _ _ _ h => h) (Or.inl ⟨by rfl, ?_⟩) (by assumption) ?_
          rotate_left
          · (intro w' hSw; go_simp; (try with_reducible rfl))
          simp only [Act.put, List.setIfInBounds_toArray, List.set_cons_zero, List.set_cons_succ]
          refine takeS (i := 13) (v := ?_) rfl (by kernel_rfl) (by kernel_rfl) (by kernel_rfl) (fun _ _ _ h => h) (Or.inl ⟨by rfl, ?_⟩) (by assumption) ?_
          rotate_left
          · (intro w' hSw; go_simp; (try with_reducible rfl))
          simp only [Act.put, List.setIfInBounds_toArray, List.set_cons_zero, List.set_cons_succ]
          refine takeS (i := 14) (v := ?_) rfl (by kernel_rfl) (by kernel_rfl) (by kernel_rfl) (fun _ _ _ h => h) (Or.inl ⟨by rfl, ?_⟩) (by assumption) ?_
          rotate_left
          · (intro w' hSw; go_simp; (try with_reducible rfl))
          simp only [Act.put, List.setIfInBounds_toArray, List.set_cons_zero, List.set_cons_succ]
          refine takeS (i := 15) (v := ?_) rfl (by kernel_rfl) (by kernel_rfl) (by kernel_rfl) (fun _ _ _ h => h) (Or.inl ⟨by rfl, ?_⟩) (by assumption) ?_
          rotate_left
          · (intro w' hSw; go_simp; (try with_reducible rfl))
          simp only [Act.put, List.setIfInBounds_toArray, List.set_cons_zero, List.set_cons_succ]
          refine takeS (i := 16) (v := ?_) rfl (by kernel_rfl) (by kernel_rfl) (by kernel_rfl) (fun _ _ _ h => h) (Or.inl ⟨by rfl, ?_⟩) (by assumption) ?_
          rotate_left
          · (intro w' hSw; go_simp; (try with_reducible rfl))
          simp only [Act.put, List.setIfInBounds_toArray, List.set_cons_zero, List.set_cons_succ]
          refine takeS (i := 17) (v := ?_) rfl (by kernel_rfl) (by kernel_rfl) (by kernel_rfl) (fun _ _ _ h => h) (Or.inl ⟨by rfl, ?_⟩) (by assumption) ?_
          rotate_left
          · (intro w' hSw; go_simp; (try with_reducible rfl))
          simp only [Act.put, List.setIfInBounds_toArray, List.set_cons_zero, List.set_cons_succ]
          refine takeS (i := 18) (v := ?_) rfl (by kernel_rfl) (by kernel_rfl) (by kernel_rfl) (fun _ _ _ h => h) (Or.inl ⟨by rfl, ?_⟩) (by assumption) ?_
          rotate_left
          · (intro w' hSw; go_simp; (try with_reducible rfl))
          simp only [Act.put, List.setIfInBounds_toArray, List.set_cons_zero, List.set_cons_succ]
          refine takeS (i := 19) (v := ?_) rfl (by kernel_rfl) (by kernel_rfl) (by kernel_rfl) (fun _ _ _ h => h) (Or.inl ⟨by rfl, ?_⟩) (by assumption) ?_
          rotate_left
          · (intro w' hSw; go_simp; (try with_reducible rfl))
          simp only [Act.put, List.setIfInBounds_toArray, List.set_cons_zero, List.set_cons_succ]
          refine takeS (i := 20) (v := ?_) rfl (by kernel_rfl) (by kernel_rfl) (by kernel_rfl) (fun _ _ _ h => h) (Or.inl ⟨by rfl, ?_⟩) (by assumption) ?_
          rotate_left
          · (intro w' hSw; go_simp; (try with_reducible rfl))
          simp only [Act.put, List.setIfInBounds_toArray, List.set_cons_zero, List.set_cons_succ]
          refine wpAnyH_ready (rs := [0]) (by kernel_rfl) (by simp) ?_
          refine readyS rfl (fun K hK => ?_)
          go_simp
          refine hK.out _ _ ?_ (fun hHeld => ?_)
          · (first | (with_reducible assumption) | (with_reducible refine RS.set7 ?_ _ _ _ _ _ _ _; with_reducible assumption))
          clear hK K
          refine wpAnyH_ready (rs := [21]) (by kernel_rfl) (by simp) ?_
          refine readyS rfl (fun K hK => ?_)
          go_simp
          with_reducible refine (KA.out _).mono ?_
          rintro e w4 ⟨rfl, hb4⟩
          have hR4 := RS.step hS0 hb4
          have hX4 := (HN.out.x12.step (Below.refl _ _).drew).step hb4
          obtain ⟨⟨e0, e1, e2, e3, e4, e5, e6⟩, ef0, ef1, ef2, ef3, ef4, ef5, ef6⟩ := hX4.all7
          clear hX4
          go_wp2_with fail
          refine hK.out _ _ ?_ (fun hHeld => ?_)
          · (first | (with_reducible assumption) | (with_reducible refine RS.set7 ?_ _ _ _ _ _ _ _; with_reducible assumption))
          clear hK K
          refine wpAnyH_ready (rs := [22]) (by kernel_rfl) (by simp) ?_
          refine readyS rfl (fun K hK => ?_)
          go_simp
          refine hK.out _ _ ?_ (fun hHeld => ?_)
          · (first | (with_reducible assumption) | (with_reducible refine RS.set7 ?_ _ _ _ _ _ _ _; with_reducible assumption))
          clear hK K
          refine wpAnyH_done (by kernel_rfl) ?_ _
          go_wp2_with fail
          go_roundw
          case rel => exact ⟨k + 1, hlt, by go_num, by rw [HS1.out]; exact RC.set (HN.out.step ((Below.refl _ _).drew.trans (hb4.mono (Nat.le_refl _)))) ⟨so', sn', sd', so2', sn2', sd2', sno'⟩⟩
          case measure => simp [intOf]; omega
        · have hke : k = N := by omega
          subst hke
          obtain ⟨⟨r0, r1, r2, r3, r4, r5, r6⟩, rf0, rf1, rf2, rf3, rf4, rf5, rf6⟩ := hN.r.all7
          have zr : w.heap.size + 1 < wr.heap.size := hN.r.lt
          generalize Num.spanS A B k = s at *
          clear hN hS HSI HSj HAj HBj
          have KE : Hid (∀ v, Calls Try.prog 35 #[.agg #[.bool s.o, .int .i64 s.n, .int .i64 s.d, .bool s.o2, .int .i64 s.n2, .int .i64 s.d2, .bool s.no]] v fun e v' => e = .returned res ∧ Below v.heap.size v v') := by
            intro v
            have := end_any s v bd1 bd2 bd3 bd4
            rw [HRES.out] at this
            exact this
          obtain ⟨so', sn', sd', so2', sn2', sd2', sno', sb, hform⟩ := endV_form s
          rw [HRES.out] at hform
          subst hform
          obtain ⟨so, sn, sd, so2, sn2, sd2, sno⟩ := s
          dsimp only at *
          clear HRES
          go_wp2_with fail
          refine (KE.out _).mono ?_
          rintro e w4 ⟨rfl, hb4⟩
          have HR4 : Hid (Bx (w.heap.size + 1) [.bool false, .int .i64 0, .int .i64 0, .bool false, .int .i64 0, .int .i64 0, .bool false] w4) := HN.out.r.step hb4
          have HB4 : Hid (Below w.heap.size w w4) := bstep HN.out.bel hb4
          clear s0 s1 s2 s3 s4 s5 s6 sf0 sf1 sf2 sf3 sf4 sf5 sf6 r0 r1 r2 r3 r4 r5 r6 rf0 rf1 rf2 rf3 rf4 rf5 rf6 zr hb4 d0 d1 d2 d3 KE
          obtain ⟨⟨r0, r1, r2, r3, r4, r5, r6⟩, rf0, rf1, rf2, rf3, rf4, rf5, rf6⟩ := HR4.out.all7
          have zr : w.heap.size + 1 < w4.heap.size := HR4.out.lt
          go_wp2_with fail
          generalize hX : (((((((w4).setCell ⟨w.heap.size + 1, 0, none⟩ (.bool so')).setCell ⟨w.heap.size + 1, 1, none⟩ (.int .i64 sn')).setCell ⟨w.heap.size + 1, 2, none⟩ (.int .i64 sd')).setCell ⟨w.heap.size + 1, 3, none⟩ (.bool so2')).setCell ⟨w.heap.size + 1, 4, none⟩ (.int .i64 sn2')).setCell ⟨w.heap.size + 1, 5, none⟩ (.int .i64 sd2')).setCell ⟨w.heap.size + 1, 6, none⟩ (.bool sno') = X
          have hXR : Bx (w.heap.size + 1) [.bool so', .int .i64 sn', .int .i64 sd', .bool so2', .int .i64 sn2', .int .i64 sd2', .bool sno'] X := by rw [← hX]; exact HR4.out.set7 _ _ _ _ _ _ _
          have hXB : Below w.heap.size w X := by rw [← hX]; exact bset7 HB4.out (Nat.le_succ _) _ _ _ _ _ _ _
          obtain ⟨⟨x0, x1, x2, x3, x4, x5, x6⟩, _⟩ := hXR.all7
          exact bodyPost_ret (v := .tuple #[.agg #[.bool so', .int .i64 sn', .int .i64 sd', .bool so2', .int .i64 sn2', .int .i64 sd2', .bool sno'], .bool sb]) (by simp [results, Try.results14, go_sem, x0, x1, x2, x3, x4, x5, x6]) rfl ⟨rfl, hXB⟩

end Go.Proofs.Ytipcbhodlgoflab
