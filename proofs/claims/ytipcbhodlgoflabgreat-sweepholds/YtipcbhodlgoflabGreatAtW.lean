/- What the law's own at does: a program whose costs lie along a line. -/
import Derived.Test.YtipcbhodlgoflabGreatBxs
import Derived.Test.YtipcbhodlgoflabGreatSixA
import Derived.Deep.RegionLaw
import Derived.Deep.AppendLies
namespace Go.Proofs.YtipcbhodlgoflabGreat
open Go.RowKit

theorem Bx.stepL {b B : Nat} {vs : List Value} {V w' : World} (h : Bx b vs V) (hb : Below B V w') (hB : b < B) : Bx b vs w' :=
  ⟨fun i v e => by rw [hb.cell (p := ⟨b, i, none⟩) hB]; exact h.c i v e, fun i => by rw [hb.frozen (p := ⟨b, i, none⟩) hB]; exact h.f i, Nat.lt_of_lt_of_le h.lt hb.size⟩

theorem Ints.setFarL {w : World} {a : Option Addr} {n b j B : Nat} {l : List Int} (h : Ints w a n l) (hf : n = 0 ∨ ∃ g, a = some ⟨g, 0, none⟩ ∧ B ≤ g) (hb : b < B) (u : Value) : Ints (w.setCell ⟨b, j, none⟩ u) a n l := by
  refine ⟨h.1, ?_⟩
  rcases h.2 with h0 | ⟨b', off, e, hlt, hc⟩
  · exact Or.inl h0
  · rcases hf with h0 | ⟨g, e2, hg⟩
    · exact Or.inl h0
    · rw [e] at e2
      simp only [Option.some.injEq, Addr.mk.injEq] at e2
      refine Or.inr ⟨b', off, e, by simpa using hlt, fun k hk => ?_⟩
      rw [World.cell?_setCell_other _ _ _ _ (fun e => by injection e with e1; omega)]
      exact hc k hk

/-- Costs along a line. -/
def Num.atL (c y : List Int) (num den : Int) : List Int := (List.range c.length).map fun j => den * c[j]?.getD 0 + num * y[j]?.getD 0

/-- Numbers of the call's own, that grow. -/
def GrowL (w : World) (base : Nat) (v : Value) (k : Nat) (G : Nat → Int) : Prop :=
  ∃ vs : List Value, w.ownsRow base 2 1 v k vs ∧ ∀ j, j < k → vs[j]? = some (.int .i64 (G j))

theorem GrowL.shape {w : World} {base k : Nat} {v : Value} {G : Nat → Int} (h : GrowL w base v k G) : ∃ a c, v = .slice a k c := by
  obtain ⟨vs, h, _⟩ := h
  rcases h.2 with ⟨hv, h0⟩ | ⟨g, cap, cur, hv, _⟩
  · subst h0; exact ⟨none, 0, hv⟩
  · exact ⟨_, cap, hv⟩

theorem GrowL.kept {w w' : World} {base k : Nat} {v : Value} {G : Nat → Int} (h : GrowL w base v k G) (hb : Below w.heap.size w w') : GrowL w' base v k G := by
  obtain ⟨vs, h, hin⟩ := h
  exact ⟨vs, World.ownsRow.kept (row := none) h ⟨hb.os, hb.tape, hb.output, hb.size, fun k hk _ => hb.block k hk⟩ (by cases v.ownBlock <;> simp), hin⟩

theorem GrowL.setLow {w : World} {base k : Nat} {v : Value} {G : Nat → Int} (h : GrowL w base v k G) {q j : Nat} (hq : q < base) (u : Value) : GrowL (w.setCell ⟨q, j, none⟩ u) base v k G := by
  obtain ⟨vs, h, hin⟩ := h
  exact ⟨vs, ownsRow_setCell_below h (a := ⟨q, j, none⟩) hq u, hin⟩

theorem GrowL.push {w w' : World} {base k : Nat} {v v' : Value} {G : Nat → Int} {vs : List Value} (h : w.ownsRow base 2 1 v k vs) (hin : ∀ j, j < k → vs[j]? = some (.int .i64 (G j))) {x : Int} (hx : x = G k)
    (h' : w'.ownsRow base 2 1 v' (k + 1) (vs ++ [.int .i64 x])) : GrowL w' base v' (k + 1) G := by
  have hl : vs.length = k * 1 := h.1
  subst hx
  refine ⟨_, h', fun j hj => ?_⟩
  by_cases hjk : j = k
  · subst hjk
    rw [List.getElem?_append_right (by omega), show j - vs.length = 0 by omega]; rfl
  · rw [List.getElem?_append_left (by omega)]; exact hin j (by omega)

theorem GrowL.ints {w : World} {base n : Nat} {v : Value} {G : Nat → Int} (h : GrowL w base v n G) (h1 : 1 ≤ n) : ∃ g c, v = .slice (some ⟨g, 0, none⟩) n c ∧ base ≤ g ∧ Ints w (some ⟨g, 0, none⟩) n ((List.range n).map G) := by
  obtain ⟨vs, h, hin⟩ := h
  obtain ⟨g, c, rfl, hb, hlt⟩ := h.form (by omega)
  refine ⟨g, c, rfl, hb, by simp, Or.inr ⟨g, 0, rfl, hlt, fun j hj => ?_⟩⟩
  rw [Nat.zero_add, World.ownsRow.cellAt h _ (by omega), hin j hj, Num.range_getD, if_pos hj]

theorem news_lone {w : World} {u : Value} {t : TypeId} : ∀ (j : Nat) (x : Value), [u][j]? = some x → (w.alloc (.cells #[u] t)).cell? (Addr.add ⟨w.heap.size, 0, none⟩ j) = some x := by
  intro j x hj
  match j, hj with
  | 0, hj => simp at hj; subst hj; go_simp

set_option maxRecDepth 4000 in
set_option maxHeartbeats 3200000 in
theorem at_any (ca : Option Addr) (cl cc : Nat) (ra : Option Addr) (rl rc : Nat) (c y : List Int) (w : World) (hc : Ints w ca cl c) (ba : Option Addr) (bl bc : Nat) (hy : Ints w ba bl y) (h1 : 1 ≤ cl) (h4 : cl ≤ 4) (hbl : bl = cl)
    (hcb : ∀ j : Nat, -12 ≤ c[j]?.getD 0 ∧ c[j]?.getD 0 ≤ 12) (hyb : ∀ j : Nat, -12 ≤ y[j]?.getD 0 ∧ y[j]?.getD 0 ≤ 12) (num den : Int) (hn : -16 ≤ num ∧ num ≤ 16) (hd : 1 ≤ den ∧ den ≤ 16) :
    Calls Tryz.prog 6 #[.agg #[.slice ca cl cc, .slice ra rl rc], .slice ba bl bc, .int .i64 num, .int .i64 den] w fun e w' => ∃ g q, e = .returned (.agg #[.slice (some ⟨g, 0, none⟩) cl q, .slice ra rl rc]) ∧ Ints w' (some ⟨g, 0, none⟩) cl (Num.atL c y num den) ∧ Below w.heap.size w w' := by
  have HCL : Hid (cl = c.length) := hc.1
  have HBL : Hid (bl = cl) := hbl
  rcases hc.2 with h0 | ⟨cb, co, hca, hcs, hcc⟩
  · omega
  rcases hy.2 with h0 | ⟨yb, yo, hya, hys, hyc⟩
  · omega
  have HCC : Hid (∀ j, j < cl → w.cell? ⟨cb, co + j, none⟩ = some (.int .i64 (c[j]?.getD 0))) := hcc
  have HYC : Hid (∀ j, j < cl → w.cell? ⟨yb, yo + j, none⟩ = some (.int .i64 (y[j]?.getD 0))) := by intro j hj; exact hyc j (by omega)
  have HCB : Hid (∀ j : Nat, -12 ≤ c[j]?.getD 0 ∧ c[j]?.getD 0 ≤ 12) := hcb
  have HYB : Hid (∀ j : Nat, -12 ≤ y[j]?.getD 0 ∧ y[j]?.getD 0 ≤ 12) := hyb
  subst hca hya
  clear hc hy hcc hyc hcb hyb hbl
  obtain ⟨G, hG⟩ : ∃ G : Nat → Int, G = fun j => den * c[j]?.getD 0 + num * y[j]?.getD 0 := ⟨_, rfl⟩
  have HG : Hid (G = fun j => den * c[j]?.getD 0 + num * y[j]?.getD 0) := hG
  clear hG
  obtain ⟨i0, hif, hz0, hz1, hz2⟩ := info_parts Tryz.info64
  go_enter Tryz.func6, Tryz.ntmps6
  go_wp2_with fail
  have HVV : Hid (Below w.heap.size w (((w.alloc (.cells #[.slice (some ⟨cb, co, none⟩) cl cc, .slice ra rl rc] 25)).alloc (.cells #[.slice none 0 0, .slice none 0 0] 25)).alloc (.cells #[.slice none 0 0, .slice ra rl rc] 25)) ∧ Bx w.heap.size [.slice (some ⟨cb, co, none⟩) cl cc, .slice ra rl rc] (((w.alloc (.cells #[.slice (some ⟨cb, co, none⟩) cl cc, .slice ra rl rc] 25)).alloc (.cells #[.slice none 0 0, .slice none 0 0] 25)).alloc (.cells #[.slice none 0 0, .slice ra rl rc] 25)) ∧ Bx (w.heap.size + 1) [.slice none 0 0, .slice none 0 0] (((w.alloc (.cells #[.slice (some ⟨cb, co, none⟩) cl cc, .slice ra rl rc] 25)).alloc (.cells #[.slice none 0 0, .slice none 0 0] 25)).alloc (.cells #[.slice none 0 0, .slice ra rl rc] 25)) ∧ Bx (w.heap.size + 1 + 1) [.slice none 0 0, .slice ra rl rc] (((w.alloc (.cells #[.slice (some ⟨cb, co, none⟩) cl cc, .slice ra rl rc] 25)).alloc (.cells #[.slice none 0 0, .slice none 0 0] 25)).alloc (.cells #[.slice none 0 0, .slice ra rl rc] 25)) ∧ (((w.alloc (.cells #[.slice (some ⟨cb, co, none⟩) cl cc, .slice ra rl rc] 25)).alloc (.cells #[.slice none 0 0, .slice none 0 0] 25)).alloc (.cells #[.slice none 0 0, .slice ra rl rc] 25)).heap.size = w.heap.size + 1 + 1 + 1) :=
    ⟨bstep (bstep (balloc _ _) (balloc _ _)) (balloc _ _), ((Bx.new rfl _ _).step (balloc _ _)).step (balloc _ _), (Bx.new (by simp) _ _).step (balloc _ _), Bx.new (by simp) _ _, by simp⟩
  generalize ((w.alloc (.cells #[.slice (some ⟨cb, co, none⟩) cl cc, .slice ra rl rc] 25)).alloc (.cells #[.slice none 0 0, .slice none 0 0] 25)).alloc (.cells #[.slice none 0 0, .slice ra rl rc] 25) = V at *
  have HBV : Hid (∀ w', Below (w.heap.size + 1 + 1) V w' → Below w.heap.size w w' ∧ Bx w.heap.size [.slice (some ⟨cb, co, none⟩) cl cc, .slice ra rl rc] w' ∧ Bx (w.heap.size + 1) [.slice none 0 0, .slice none 0 0] w') := by
    intro w' h
    obtain ⟨v1, v2, v3, v4, v5⟩ := HVV.out
    exact ⟨v1.trans (h.mono (by omega)), v2.stepL h (by omega), v3.stepL h (by omega)⟩
  go_loopw [10] (fun i wr => ∃ k : Nat, k ≤ cl ∧ i = .int .i64 k ∧ Below (w.heap.size + 1 + 1) V wr ∧ ∃ v, (wr.cell? ⟨w.heap.size + 1 + 1, 0, none⟩ = some v ∧ wr.cell? ⟨w.heap.size + 1 + 1, 1, none⟩ = some (.slice ra rl rc)) ∧ (wr.frozen? ⟨w.heap.size + 1 + 1, 0, none⟩ = false ∧ wr.frozen? ⟨w.heap.size + 1 + 1, 1, none⟩ = false) ∧ GrowL wr (w.heap.size + 1 + 1 + 1) v k G) (fun i _ => cl - (intOf i).toNat)
  case atStart =>
    obtain ⟨k2, k3, k4, k5⟩ := HVV.out.2.2.2.1.all2
    exact ⟨0, Nat.zero_le _, rfl, Below.refl _ _, _, ⟨k2, k3⟩, ⟨k4, k5⟩, [], World.ownsRow_nil _ _ _ _, fun _ hj => absurd hj (Nat.not_lt_zero _)⟩
  case round =>
    obtain ⟨k, hk, rfl, hbl, v, ⟨c0, c1⟩, ⟨f0, f1⟩, hRA⟩ := hrel
    obtain ⟨hB, hxP, hxR⟩ := HBV.out wr hbl
    obtain ⟨b0, b1, _, _⟩ := hxP.all2
    have z0 : w.heap.size < wr.heap.size := hxP.lt
    have z9 : w.heap.size + 1 + 1 < wr.heap.size := by have := hbl.size; have := HVV.out.2.2.2.2; omega
    have HRA : Hid (GrowL wr (w.heap.size + 1 + 1 + 1) v k G) := hRA
    obtain ⟨va, vc, hv⟩ := hRA.shape
    subst hv
    clear hRA
    by_cases hlt : k < cl
    · clear hxP hxR
      have e0 := HCC.out k hlt
      have y0 := HYC.out k hlt
      have hx := HCB.out k
      have hx2 := HYB.out k
      rw [← (bcell hB).1 cb _ hcs] at e0
      rw [← (bcell hB).1 yb _ hys] at y0
      have HGk : Hid (G k = den * c[k]?.getD 0 + num * y[k]?.getD 0) := by show _ = _; rw [HG.out]
      generalize c[k]?.getD 0 = x at e0 hx HGk
      generalize y[k]?.getD 0 = x2 at y0 hx2 HGk
      have hm1 := Num.mul_bd den x 16 (by omega) (by omega) (by omega)
      have hm2 := Num.mul_bd num x2 16 (by omega) (by omega) (by omega)
      generalize hq1 : den * x = q1 at *
      generalize hq2 : num * x2 = q2 at *
      have wq1 : IntKind.i64.wrap q1 = q1 := by rw [IntWalk.i64_left]; exact IntWalk.wrap64_in _ (by omega)
      have wq2 : IntKind.i64.wrap q2 = q2 := by rw [IntWalk.i64_left]; exact IntWalk.wrap64_in _ (by omega)
      have wq3 : IntKind.i64.wrap (q1 + q2) = q1 + q2 := by rw [IntWalk.i64_left]; exact IntWalk.wrap64_in _ (by omega)
      have hwb : cb < wr.heap.size := by have := hB.size; omega
      have hwy : yb < wr.heap.size := by have := hB.size; omega
      have hkb : (k : Int) < (bl : Int) := by have := HBL.out; omega
      generalize hqs : q1 + q2 = qs at *
      have HQS : Hid (qs = G k) := HGk.out.symm
      obtain ⟨vs, hov, hvin⟩ := GrowL.kept HRA.out (balloc wr (.cells #[.int .i64 qs] 2))
      have HOV : Hid _ := hov
      have HVIN : Hid _ := hvin
      have hone : ∀ u ∈ [Value.int .i64 qs], u.oneCell' = true := by
        intro u hu
        simp only [List.mem_cons, List.not_mem_nil, or_false] at hu
        subst hu; rfl
      have HONE : Hid _ := hone
      have HBL1 : Hid _ := hbl
      have HST : Hid (∀ W w2, Below wr.heap.size wr W → W.grownBy w2 (Value.slice va k vc).ownBlock → Below (w.heap.size + 1 + 1) V w2 ∧ (w2.cell? ⟨w.heap.size + 1 + 1, 0, none⟩ = some (.slice va k vc) ∧ w2.cell? ⟨w.heap.size + 1 + 1, 1, none⟩ = some (.slice ra rl rc)) ∧ (w2.frozen? ⟨w.heap.size + 1 + 1, 0, none⟩ = false ∧ w2.frozen? ⟨w.heap.size + 1 + 1, 1, none⟩ = false)) := by
        intro W w2 hW hg
        have hWs := hW.size
        have hne : some (w.heap.size + 1 + 1) ≠ (Value.slice va k vc).ownBlock := by
          intro e
          have := (World.ownsRow.lt HOV.out _ e.symm).1
          omega
        refine ⟨(HBL1.out.trans (hW.mono (by omega))).grown hg (by omega) (fun j hj => by have := (World.ownsRow.lt HOV.out j hj).1; omega), ⟨?_, ?_⟩, ?_, ?_⟩
        · rw [hg.cell_far ⟨w.heap.size + 1 + 1, 0, none⟩ (by show w.heap.size + 1 + 1 < _; omega) hne]; exact carry hW c0
        · rw [hg.cell_far ⟨w.heap.size + 1 + 1, 1, none⟩ (by show w.heap.size + 1 + 1 < _; omega) hne]; exact carry hW c1
        · rw [hg.frozen_far ⟨w.heap.size + 1 + 1, 0, none⟩ (by show w.heap.size + 1 + 1 < _; omega) hne]; exact carryF hW c0 f0
        · rw [hg.frozen_far ⟨w.heap.size + 1 + 1, 1, none⟩ (by show w.heap.size + 1 + 1 < _; omega) hne]; exact carryF hW c1 f1
      clear hov hvin hone HRA hbl HGk
      go_wp2_with fail
      go_region_law (refine step_append_lies _ (by rfl) (.tmp 22) (.tmp 37) 22 (by rfl) (w.heap.size + 1 + 1 + 1) 2 i0 (.int .i64 0) 1 8 Tryz.underlying22 hif hz0 hz1 hz2 (by rfl) (by decide) (.slice va k vc) k vs (by rfl) HOV.out ⟨wr.heap.size, 0, none⟩ 1 1 [.int .i64 qs] (by rfl) (by rfl) news_lone HONE.out (by decide) (by unfold maxLen; omega) (by omega) (by simp; omega) (wr.heap.size + 1) (by simp) ?_; intro g cap w2 ho2 hg2 hat2 hlt2; obtain ⟨hbl2, ⟨m0, m1⟩, m2, m3⟩ := HST.out _ w2 (balloc _ _).drew hg2; have HO2 : Hid (w2.ownsRow (w.heap.size + 1 + 1 + 1) 2 1 (.slice (some ⟨g, 0, none⟩) (k + 1) cap) (k + 1) (vs ++ [.int .i64 qs])) := ho2; clear ho2 hg2 hat2)
      all_goals (clear c0 c1 f0 f1 b0 b1 e0 y0)
      all_goals go_wp2_with fail
      all_goals go_roundw
      all_goals first
        | (simp [intOf]; omega)
        | exact ⟨k + 1, hlt, by go_num, bset hbl2 (Nat.le_refl _) _, _, ⟨cell_set_eq m0, by rw [cell_set_ne (by decide)]; exact m1⟩, ⟨by simpa using m2, by simpa using m3⟩, GrowL.setLow (GrowL.push HOV.out HVIN.out HQS.out HO2.out) (by omega) _⟩
    · have hke : cl = k := by omega
      subst hke
      obtain ⟨g, q, hgv, hgb, hints⟩ := HRA.out.ints h1
      have HI : Hid (Ints wr (some ⟨g, 0, none⟩) cl ((List.range cl).map G)) := hints
      have HGB : Hid (w.heap.size + 1 + 1 + 1 ≤ g) := hgb
      simp only [Value.slice.injEq, true_and] at hgv
      obtain ⟨rfl, rfl⟩ := hgv
      obtain ⟨r0, r1, rf0, rf1⟩ := hxR.all2
      have z1 : w.heap.size + 1 < wr.heap.size := hxR.lt
      have HXR : Hid _ := hxR
      have HBw : Hid _ := hB
      clear hints HRA hbl hgb hxP hxR hB
      go_wp2_with fail
      generalize hX : (wr.setCell ⟨w.heap.size + 1, 0, none⟩ (.slice (some ⟨g, 0, none⟩) cl vc)).setCell ⟨w.heap.size + 1, 1, none⟩ (.slice ra rl rc) = X
      have hXR : Bx (w.heap.size + 1) [.slice (some ⟨g, 0, none⟩) cl vc, .slice ra rl rc] X := by rw [← hX]; exact HXR.out.set2 _ _
      have hXB : Below w.heap.size w X := by rw [← hX]; exact bset (bset HBw.out (by omega) _) (by omega) _
      have hXI : Ints X (some ⟨g, 0, none⟩) cl ((List.range cl).map G) := by
        rw [← hX]
        have hf : cl = 0 ∨ ∃ g', (some ⟨g, 0, none⟩ : Option Addr) = some ⟨g', 0, none⟩ ∧ w.heap.size + 1 + 1 ≤ g' := Or.inr ⟨g, rfl, by have := HGB.out; omega⟩
        exact Ints.setFarL (Ints.setFarL HI.out hf (by omega) _) hf (by omega) _
      obtain ⟨x0, x1, _, _⟩ := hXR.all2
      refine bodyPost_ret (v := .agg #[.slice (some ⟨g, 0, none⟩) cl vc, .slice ra rl rc]) (by simp [results, Tryz.results6, go_sem, x0, x1]) rfl ⟨g, vc, rfl, ?_, hXB⟩
      have e : Num.atL c y num den = (List.range cl).map G := by unfold Num.atL; rw [HG.out, ← HCL.out]
      rw [e]
      exact hXI

end Go.Proofs.YtipcbhodlgoflabGreat
