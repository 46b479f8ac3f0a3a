/- The walk of WalkRises: for every program and columns it answers true. -/
import Derived.Test.YtipcbhodlgoflaaWlkC
import Derived.Test.YtipcbhodlgoflaaPlnA
import Derived.Test.YtipcbhodlgoflaaCornerComesW
import Derived.Test.YtipcbhodlgoflaaRef5A
import Derived.Test.YtipcbhodlgoflaaWlkAB
import Derived.Deep.CutRange
namespace Go.Proofs.Ytipcbhodlgoflaa
open Go.RowKit

theorem knownW_any (w : World) (k : Nat) (hk : k = w.heap.size) : Calls Try.prog 36 #[.agg #[.slice (some ⟨k, 0, none⟩) 1 1, .slice (some ⟨k + 1 + 1, 0, none⟩) 1 1], .slice (some ⟨k + 1 + 1 + 1 + 1, 0, none⟩) 1 1]
    (((((w.alloc (.cells #[.int .i64 5] 2)).alloc (.cells #[.int .i64 2] 2)).alloc (.cells #[.slice (some ⟨k + 1, 0, none⟩) 1 1, .int .i64 3] 55)).alloc (.cells #[.slice (some ⟨k, 0, none⟩) 1 1, .slice (some ⟨k + 1 + 1, 0, none⟩) 1 1] 40)).alloc (.cells #[.int .i64 1] 3))
    fun e w' => ∃ la lc q er, e = .returned (.tuple #[.slice la 2 lc, .int .i64 q, .int .i64 er]) ∧ Below w.heap.size w w' := by
  subst hk
  generalize hW : ((((w.alloc (.cells #[.int .i64 5] 2)).alloc (.cells #[.int .i64 2] 2)).alloc (.cells #[.slice (some ⟨w.heap.size + 1, 0, none⟩) 1 1, .int .i64 3] 55)).alloc (.cells #[.slice (some ⟨w.heap.size, 0, none⟩) 1 1, .slice (some ⟨w.heap.size + 1 + 1, 0, none⟩) 1 1] 40)).alloc (.cells #[.int .i64 1] 3) = W
  have hB : Below w.heap.size w W := by
    rw [← hW]
    exact bstep (bstep (bstep (bstep (balloc _ _) (balloc _ _)) (balloc _ _)) (balloc _ _)) (balloc _ _)
  have k0 : W.cell? ⟨w.heap.size, 0, none⟩ = some (.int .i64 5) := by rw [← hW]; clear hW; go_simp
  have k1 : W.cell? ⟨w.heap.size + 1, 0, none⟩ = some (.int .i64 2) := by rw [← hW]; clear hW; go_simp
  have k2 : W.cell? ⟨w.heap.size + 1 + 1, 0, none⟩ = some (.slice (some ⟨w.heap.size + 1, 0, none⟩) 1 1) := by rw [← hW]; clear hW; go_simp
  have k3 : W.cell? ⟨w.heap.size + 1 + 1, 1, none⟩ = some (.int .i64 3) := by rw [← hW]; clear hW; go_simp
  have k4 : W.cell? ⟨w.heap.size + 1 + 1 + 1 + 1, 0, none⟩ = some (.int .i64 1) := by rw [← hW]; clear hW; go_simp
  have hrows : RowsAt W (some ⟨w.heap.size + 1 + 1, 0, none⟩) 1 [([2], 3)] := by
    refine ⟨rfl, Or.inr ⟨w.heap.size + 1 + 1, 0, rfl, World.block_lt_of_cell? W _ k2, fun j hj => ?_⟩⟩
    obtain rfl : j = 0 := by omega
    exact ⟨_, _, _, k2, k3, ints_one_of k1, by omega⟩
  refine (walk_any (some ⟨w.heap.size, 0, none⟩) 1 1 (some ⟨w.heap.size + 1 + 1, 0, none⟩) 1 1 ⟨[5], [([2], 3)]⟩ W (ints_one_of k0) (by omega) hrows (by omega) (some ⟨w.heap.size + 1 + 1 + 1 + 1, 0, none⟩) 1 1 [1] (ints_one_of k4) (by omega)).mono ?_
  rintro e w' ⟨la, ll, lc, q, er, rfl, l, hl, _, hw, hb⟩
  have hll : ll = 2 := by
    rcases hw with ⟨_, _, _, h4⟩ | ⟨_, _, h3⟩
    · rw [show Num.nextN ⟨[5], [([2], 3)]⟩ [1] = ([0], 0, 0) by decide +kernel] at h4
      simp at h4
    · have := (Num.walk_unique h3 Num.known_walk).1
      have := hl.1
      simp_all
  subst hll
  exact ⟨la, lc, q, er, rfl, bstep hB hb⟩

/-- The last fraction so far is that of the corner ahead. -/
def LastF (p : Num.Lp) (l : List (List Int)) (i : Nat) (ln ld : Int) : Prop :=
  ∀ q, i = q + 1 → Num.dotN p.costs (Num.look p (l[q]?.getD [])).x p.costs.length * ld = ln * (Num.look p (l[q]?.getD [])).xd ∧ (1 ≤ ld ∧ ld ≤ 497664) ∧ (-796262400 ≤ ln ∧ ln ≤ 796262400)

set_option maxRecDepth 8000 in
set_option maxHeartbeats 6400000 in
theorem walkRises.walk (ca : Option Addr) (cl cc : Nat) (ra : Option Addr) (rl rc : Nat) (p : Num.Lp) (w : World) (hc : Ints w ca cl p.costs) (hcl : cl ≤ 9223372036854775807) (hr : RowsAt w ra rl p.rows) (hrl : rl ≤ 9223372036854775807)
    (aa : Option Addr) (al ac : Nat) (at' : List Int) (ha : Ints w aa al at') (hal : al ≤ 9223372036854775807) :
    Calls Try.prog 12 #[.agg #[.slice ca cl cc, .slice ra rl rc], .slice aa al ac] w fun e w' => e = .returned (.bool true) ∧ Below w.heap.size w w' := by
  have HC : Hid (Ints w ca cl p.costs) := hc
  have HR : Hid (RowsAt w ra rl p.rows) := hr
  have HA : Hid (Ints w aa al at') := ha
  have HCL : Hid (cl = p.costs.length) := hc.1
  have HRL : Hid (rl = p.rows.length) := hr.1
  clear hc hr ha
  have HBV : Hid (∀ w', Below (w.alloc (.cells #[.slice ca cl cc, .slice ra rl rc] 40)).heap.size (w.alloc (.cells #[.slice ca cl cc, .slice ra rl rc] 40)) w' → (w'.cell? ⟨w.heap.size, 0, none⟩ = some (.slice ca cl cc) ∧ w'.cell? ⟨w.heap.size, 1, none⟩ = some (.slice ra rl rc)) ∧ Below w.heap.size w w' ∧ w.heap.size < w'.heap.size) := fun w' h => ⟨(kept2 h).1, binto h, by have := h.size; simp at this; omega⟩
  go_enter Try.func12, Try.ntmps12
  go_wp2_with fail
  have hbV := balloc w (.cells #[.slice ca cl cc, .slice ra rl rc] 40)
  generalize hV : w.alloc (.cells #[.slice ca cl cc, .slice ra rl rc] 40) = V at *
  clear hV
  refine (walk_any ca cl cc ra rl rc p V (Ints.below HC.out hbV (Nat.le_refl _)) hcl (RowsAt.below HR.out hbV (Nat.le_refl _)) hrl aa al ac at' (Ints.below HA.out hbV (Nat.le_refl _)) hal).mono ?_
  rintro e w1 ⟨la, ll, lc, k, er, rfl, l, hl1, hll, hw1, hb1⟩
  have HL1 : Hid (LinesN w1 la ll l) := hl1
  have HW1 : Hid (Num.Walked p at' l k er) := hw1
  clear hl1 hw1
  go_wp2_with fail
  refine (knownW_any w1 w1.heap.size rfl).mono ?_
  rintro e w2 ⟨ka, kc, q, er2, rfl, hb2⟩
  have hbl2 := bstep hb1 hb2
  have HL2 : Hid (LinesN w2 la ll l) := LinesN.below HL1.out hb2
  clear HL1
  rcases HW1.out with ⟨he, hk, hl, _⟩ | ⟨he, hmay, hwalk⟩
  · have hll0 : ll = 0 := by have := HL2.out.1; rw [hl] at this; simpa using this
    subst hk hll0
    have hen : (er != 0) = true := by simpa using he
    obtain ⟨_, hB2, _⟩ := HBV.out w2 hbl2
    clear he hl
    go_wp2_with fail
    go_ret
    exact ⟨rfl, hB2⟩
  · subst he
    obtain ⟨hgood, hkind, hl1⟩ := Num.isWalk_good hmay hwalk
    have HNEW : Hid (∀ a b : Nat, a < b → b < l.length → l[a]?.getD [] ≠ l[b]?.getD []) := fun a b h1 h2 => Num.isWalk_new hmay hwalk a b h1 h2
    have HWO : Hid (∀ q : Nat, q + 1 < l.length → _) := fun q h => Num.isWalk_worth hmay hwalk q h
    have HGOOD : Hid (∀ i : Nat, i < l.length → Num.Good p (l[i]?.getD []) rl cl) := by
      intro i hi
      rw [HRL.out, HCL.out]; exact hgood i hi
    have HM : Hid (p.may = true) := hmay
    have HLL : Hid (ll = l.length) := HL2.out.1
    have hll1 : 1 ≤ ll := by have := HLL.out; omega
    have hc4 : cl ≤ 4 ∧ 1 ≤ cl := by have := HCL.out; have := (p.may_of hmay).1; omega
    have hr4 : rl ≤ 4 ∧ 1 ≤ rl := by have := HRL.out; have := (p.may_of hmay).2.2.1; omega
    have HCB : Hid (∀ j : Nat, -400 ≤ p.costs[j]?.getD 0 ∧ p.costs[j]?.getD 0 ≤ 400) := Num.withinB_iff _ _ (p.may_of hmay).2.1 (by omega)
    rcases HL2.out.2 with h | ⟨lb, lo, hla, hls, hlcell⟩
    · omega
    subst hla
    have HBX : Hid (∀ w', Below w2.heap.size w2 w' → (w'.cell? ⟨w.heap.size, 0, none⟩ = some (.slice ca cl cc) ∧ w'.cell? ⟨w.heap.size, 1, none⟩ = some (.slice ra rl rc)) ∧ Below w.heap.size w w' ∧ w.heap.size < w'.heap.size ∧ w2.heap.size ≤ w'.heap.size ∧ ∀ j, j < ll → ∃ ta tl tc, w'.cell? ⟨lb, lo + j, none⟩ = some (.slice ta tl tc) ∧ Ints w' ta tl (l[j]?.getD [])) := by
      intro w' h
      obtain ⟨h1, h2, h3⟩ := HBV.out w' (bstep hbl2 h)
      refine ⟨h1, h2, h3, h.size, fun j hj => ?_⟩
      obtain ⟨ta, tl, tc, d1, d2⟩ := hlcell j hj
      exact ⟨ta, tl, tc, by rw [(bcell h).1 lb _ hls]; exact d1, Ints.below d2 h (Nat.le_refl _)⟩
    clear hmay hwalk hgood hl1 hlcell hb1 hb2 hbl2 HBV HW1
    go_wp2_with fail
    have hV2 := balloc w2 (.cells #[.int .i64 0, .int .i64 0] 24)
    have hcn := cell_new2 (w := w2) rfl (.int .i64 0) (.int .i64 0) 24
    have hfz : (w2.alloc (.cells #[.int .i64 0, .int .i64 0] 24)).frozen? ⟨w2.heap.size, 0, none⟩ = false ∧ (w2.alloc (.cells #[.int .i64 0, .int .i64 0] 24)).frozen? ⟨w2.heap.size, 1, none⟩ = false := ⟨by go_simp, by go_simp⟩
    go_loopw [13] (fun q wr => ∃ i : Nat, i ≤ ll ∧ q = .int .i64 i ∧ Below w2.heap.size w2 wr ∧ ∃ ln ld, (wr.cell? ⟨w2.heap.size, 0, none⟩ = some (.int .i64 ln) ∧ wr.cell? ⟨w2.heap.size, 1, none⟩ = some (.int .i64 ld)) ∧ (wr.frozen? ⟨w2.heap.size, 0, none⟩ = false ∧ wr.frozen? ⟨w2.heap.size, 1, none⟩ = false) ∧ LastF p l i ln ld) (fun q _ => ll - (intOf q).toNat)
    case atStart => exact ⟨0, Nat.zero_le _, rfl, hV2, 0, 0, hcn, hfz, fun q hq => by omega⟩
    case round =>
      obtain ⟨i, hi, rfl, hbl, ln, ld, ⟨t0, t1⟩, ⟨t2, t3⟩, hlast⟩ := hrel
      clear hV2 hcn hfz
      have HLAST : Hid (LastF p l i ln ld) := hlast
      obtain ⟨⟨b0, b1⟩, hB, hz, hz2, hln⟩ := HBX.out wr hbl
      clear hlast
      by_cases hlt : i < ll
      · obtain ⟨ta, tl, tc, d1, d2⟩ := hln i hlt
        have hgi := HGOOD.out i (by have := HLL.out; omega)
        have HTL : Hid (tl = rl) := by show tl = rl; have := d2.1; have := (Num.right_all _ rl _ hgi.right).1; omega
        obtain ⟨le0, lxl, _, lxd, lxb, _⟩ := Num.look_parts p (l[i]?.getD []) rl cl HM.out HRL.out HCL.out hgi.right hgi.den
        have hneg := ((Num.good_of p (l[i]?.getD []) rl cl HM.out HRL.out HCL.out).2 hgi).2
        have KL : Hid (∀ w', Below wr.heap.size wr w' → Calls Try.prog 30 #[.agg #[.slice ca cl cc, .slice ra rl rc], .slice ta tl tc] w' fun e w'' => ∃ xa xc ya yl yc dy ga gl gc dg, e = .returned (.tuple #[.agg #[.slice xa (cl + rl) xc, .int .i64 (Num.look p (l[i]?.getD [])).xd, .slice ya yl yc, .int .i64 dy, .slice ga gl gc, .int .i64 dg], .int .i64 0]) ∧ Below wr.heap.size wr w'' ∧ (Ints w'' xa (cl + rl) (Num.look p (l[i]?.getD [])).x ∧ cl + rl ≤ xc) ∧ Below w'.heap.size w' w'') := by
          intro w' h
          have hB' := bstep hB h
          refine (look_cap ca cl cc ra rl rc p w' (Ints.below HC.out hB' (Nat.le_refl _)) hcl (RowsAt.below HR.out hB' (Nat.le_refl _)) hrl ta tl tc (l[i]?.getD []) (Ints.below d2 h (Nat.le_refl _)) (by have := HTL.out; omega)).mono ?_
          rintro e w'' ⟨xa, xl, xc, ya, yl, yc, ga, gl, gc, rfl, hx, _, _, _, _, _, hb, hcx, _, _⟩
          have hxl : xl = cl + rl := by have := hx.1; omega
          subst hxl
          rw [le0]
          exact ⟨xa, xc, ya, yl, yc, _, ga, gl, gc, _, rfl, bstep h hb, ⟨hx, hcx⟩, hb⟩
        have HWP : Hid (∀ q, i = q + 1 → Num.dotN p.costs (Num.look p (l[q]?.getD [])).x p.costs.length * (Num.look p (l[i]?.getD [])).xd ≤ Num.dotN p.costs (Num.look p (l[i]?.getD [])).x p.costs.length * (Num.look p (l[q]?.getD [])).xd ∧ 1 ≤ (Num.look p (l[q]?.getD [])).xd) := by
          intro q hq
          subst hq
          have hgq := HGOOD.out q (by have := HLL.out; omega)
          exact ⟨HWO.out q (by have := HLL.out; omega), (Num.look_parts p (l[q]?.getD []) rl cl HM.out HRL.out HCL.out hgq.right hgq.den).2.2.2.1.1⟩
        have hD := Num.dotN_bd p.costs (Num.look p (l[i]?.getD [])).x 400 497664 HCB.out lxb cl
        obtain ⟨wn, wd, hmk, hmul, hwd, hwd2, hwn⟩ := Num.mk_is (Num.dotN p.costs (Num.look p (l[i]?.getD [])).x cl) (Num.look p (l[i]?.getD [])).xd (by omega) (by omega)
        have HNF : Hid (LastF p l (i + 1) wn wd) := by
          intro q hq
          have : q = i := by omega
          subst this
          rw [← HCL.out]
          exact ⟨hmul, by omega, by omega⟩
        have HCMP : Hid (0 < i → ¬ wn * ld - ln * wd < 0) := by
          intro h0
          obtain ⟨q, hq⟩ : ∃ q, i = q + 1 := ⟨i - 1, by omega⟩
          obtain ⟨e1, e2, e3⟩ := HLAST.out q hq
          obtain ⟨f1, f2⟩ := HWP.out q hq
          have hmul' := hmul
          rw [HCL.out] at hmul'
          exact Num.frac_le _ _ _ _ ln ld wn wd f1 f2 lxd.1 e2.1 hwd e1 hmul'
        have HLB : Hid (0 < i → (1 ≤ ld ∧ ld ≤ 497664) ∧ (-796262400 ≤ ln ∧ ln ≤ 796262400)) := by
          intro h0
          obtain ⟨q, hq⟩ : ∃ q, i = q + 1 := ⟨i - 1, by omega⟩
          exact (HLAST.out q hq).2
        have hwb : (1 ≤ wd ∧ wd ≤ 497664) ∧ (-796262400 ≤ wn ∧ wn ≤ 796262400) := by omega
        have HMK : Hid _ := hmk
        have HNEG : Hid _ := hneg
        have HXB : Hid (∀ j : Nat, -497664 ≤ (Num.look p (l[i]?.getD [])).x[j]?.getD 0 ∧ (Num.look p (l[i]?.getD [])).x[j]?.getD 0 ≤ 497664) := lxb
        have HGI : Hid _ := hgi
        have q0 : ∀ w', Below wr.heap.size wr w' → w'.cell? ⟨w.heap.size, 0, none⟩ = some (.slice ca cl cc) := fun w' h => carry h b0
        have q1 : ∀ w', Below wr.heap.size wr w' → w'.cell? ⟨w.heap.size, 1, none⟩ = some (.slice ra rl rc) := fun w' h => carry h b1
        have q2 : ∀ w', Below wr.heap.size wr w' → w'.cell? ⟨lb, lo + i, none⟩ = some (.slice ta tl tc) := fun w' h => carry h d1
        clear hmk hmul hneg hgi lxb hD le0 lxl hwd hwd2 hwn HWP hln d2
        have u1 : (i : Int) < (ll : Int) := by omega
        generalize hlkx : (Num.look p (l[i]?.getD [])).x = lx at *
        generalize hlkd : (Num.look p (l[i]?.getD [])).xd = dx at *
        clear hlkx hlkd
        go_wp2_with fail
        go_cut [14, 15] from 50 to 119 (fun s14 s15 wx => ∃ bb : Nat, s14 = .pointer (some ⟨bb, 0, none⟩) ∧ s15 = .int .i64 0 ∧ (∃ xa xc ya yl yc dy ga gl gc dg, Hid ((wx.cell? ⟨bb, 0, none⟩ = some (.slice xa (cl + rl) xc) ∧ wx.cell? ⟨bb, 1, none⟩ = some (.int .i64 dx) ∧ wx.cell? ⟨bb, 2, none⟩ = some (.slice ya yl yc) ∧ wx.cell? ⟨bb, 3, none⟩ = some (.int .i64 dy) ∧ wx.cell? ⟨bb, 4, none⟩ = some (.slice ga gl gc) ∧ wx.cell? ⟨bb, 5, none⟩ = some (.int .i64 dg)) ∧ (Ints wx xa (cl + rl) lx ∧ cl + rl ≤ xc))) ∧ wr.heap.size ≤ bb ∧ Below wr.heap.size wr wx)
        case first =>
          go_region_held3 (fun w' => Below wr.heap.size wr w') (first | (with_reducible assumption) | (with_reducible exact (Below.refl _ _).drew) | (with_reducible exact ((Below.refl _ _).alloc (Nat.le_refl _) _).drew) | (with_reducible refine Below.alloc ?_ ?_ _ <;> first | (with_reducible assumption) | (apply Below.size; with_reducible assumption)) | (with_reducible refine set6 ?_ ?_ _ _ _ _ _ _ <;> first | (with_reducible assumption) | (with_reducible exact Nat.le_refl _) | (apply Below.size; with_reducible assumption)))
            (first | (go_at_call 30; refine Calls.mono (KL.out _ ?_) ?_; (with_reducible assumption); rintro e v3 ⟨xa', xc', ya', yl', yc', uy, ga', gl', gc', ug, rfl, hb3, hI3, hk3⟩; (first | (with_reducible have hz9 := zeroC hk3) | (with_reducible have hz9 := zeroCd hk3) | skip)))
          · rename_i hfin
            clear q0 q1 q2 KL
            have HIW : Hid (((v3.alloc (.cells #[.slice xa' (cl + rl) xc', .int .i64 dx, .slice ya' yl' yc', .int .i64 uy, .slice ga' gl' gc', .int .i64 ug] 47)).cell? ⟨v3.heap.size, 0, none⟩ = some (.slice xa' (cl + rl) xc') ∧ (v3.alloc (.cells #[.slice xa' (cl + rl) xc', .int .i64 dx, .slice ya' yl' yc', .int .i64 uy, .slice ga' gl' gc', .int .i64 ug] 47)).cell? ⟨v3.heap.size, 1, none⟩ = some (.int .i64 dx) ∧ (v3.alloc (.cells #[.slice xa' (cl + rl) xc', .int .i64 dx, .slice ya' yl' yc', .int .i64 uy, .slice ga' gl' gc', .int .i64 ug] 47)).cell? ⟨v3.heap.size, 2, none⟩ = some (.slice ya' yl' yc') ∧ (v3.alloc (.cells #[.slice xa' (cl + rl) xc', .int .i64 dx, .slice ya' yl' yc', .int .i64 uy, .slice ga' gl' gc', .int .i64 ug] 47)).cell? ⟨v3.heap.size, 3, none⟩ = some (.int .i64 uy) ∧ (v3.alloc (.cells #[.slice xa' (cl + rl) xc', .int .i64 dx, .slice ya' yl' yc', .int .i64 uy, .slice ga' gl' gc', .int .i64 ug] 47)).cell? ⟨v3.heap.size, 4, none⟩ = some (.slice ga' gl' gc') ∧ (v3.alloc (.cells #[.slice xa' (cl + rl) xc', .int .i64 dx, .slice ya' yl' yc', .int .i64 uy, .slice ga' gl' gc', .int .i64 ug] 47)).cell? ⟨v3.heap.size, 5, none⟩ = some (.int .i64 ug)) ∧ (Ints (v3.alloc (.cells #[.slice xa' (cl + rl) xc', .int .i64 dx, .slice ya' yl' yc', .int .i64 uy, .slice ga' gl' gc', .int .i64 ug] 47)) xa' (cl + rl) lx ∧ cl + rl ≤ xc')) := by
              have hs := Six.new v3 (.slice xa' (cl + rl) xc') (.int .i64 dx) (.slice ya' yl' yc') (.int .i64 uy) (.slice ga' gl' gc') (.int .i64 ug) 47
              exact ⟨⟨hs.c0, hs.c1, hs.c2, hs.c3, hs.c4, hs.c5⟩, Ints.below hI3.1 (balloc _ _) (Nat.le_refl _), hI3.2⟩
            have HFIN : Hid _ := hfin
            have hle : wr.heap.size ≤ v3.heap.size := hb3.size
            clear hI3 hfin
            go_wp2_with fail
            go_meet
            exact ⟨v3.heap.size, rfl, rfl, ⟨xa', xc', ya', yl', yc', uy, ga', gl', gc', ug, HIW.out⟩, hle, HFIN.out⟩
          · rename_i hfin
            clear q0 q1 q2 KL
            have HFIN : Hid _ := hfin
            generalize hX : (((((v3.setCell ⟨wr.heap.size, 0, none⟩ (.slice xa' (cl + rl) xc')).setCell ⟨wr.heap.size, 1, none⟩ (.int .i64 dx)).setCell ⟨wr.heap.size, 2, none⟩ (.slice ya' yl' yc')).setCell ⟨wr.heap.size, 3, none⟩ (.int .i64 uy)).setCell ⟨wr.heap.size, 4, none⟩ (.slice ga' gl' gc')).setCell ⟨wr.heap.size, 5, none⟩ (.int .i64 ug) = X at *
            have HIW : Hid ((X.cell? ⟨wr.heap.size, 0, none⟩ = some (.slice xa' (cl + rl) xc') ∧ X.cell? ⟨wr.heap.size, 1, none⟩ = some (.int .i64 dx) ∧ X.cell? ⟨wr.heap.size, 2, none⟩ = some (.slice ya' yl' yc') ∧ X.cell? ⟨wr.heap.size, 3, none⟩ = some (.int .i64 uy) ∧ X.cell? ⟨wr.heap.size, 4, none⟩ = some (.slice ga' gl' gc') ∧ X.cell? ⟨wr.heap.size, 5, none⟩ = some (.int .i64 ug)) ∧ (Ints X xa' (cl + rl) lx ∧ cl + rl ≤ xc')) := by
              obtain ⟨_, ⟨y0, y1, y2, y3, y4, y5⟩, _⟩ := id hz9
              refine ⟨six_set' y0 y1 y2 y3 y4 y5 _ _ _ _ _ _ X hX.symm, ?_, hI3.2⟩
              rw [← hX]
              exact ZC.kept hz9 hI3.1 (by omega) _ _ _ _ _ _
            clear hI3 hfin hX hz9
            go_wp2_with fail
            go_meet
            exact ⟨wr.heap.size, rfl, rfl, ⟨xa', xc', ya', yl', yc', uy, ga', gl', gc', ug, HIW.out⟩, Nat.le_refl _, HFIN.out⟩
        case rest =>
          obtain ⟨bb, rfl, rfl, ⟨xa, xc, ya, yl, yc, dy, ga, gl, gc, dg, hcr⟩, hbb, hbw⟩ := hcut
          obtain ⟨⟨y0, y1, y2, y3, y4, y5⟩, hix, hxc⟩ := hcr.out
          have HIX : Hid (Ints wc xa (cl + rl) lx) := hix
          have r0 := carry hbw t0
          have r1 := carry hbw t1
          have r2 := carryF hbw t0 t2
          have r3 := carryF hbw t1 t3
          have b0' := carry hbw b0
          have b1' := carry hbw b1
          have hblc : Below w2.heap.size w2 wc := hbl.trans (hbw.mono (by have := hbl.size; omega))
          have hBc := bstep hB hbw
          have hbbl : bb < wc.heap.size := World.block_lt_of_cell? wc _ y0
          have hwz : wr.heap.size ≤ wc.heap.size := hbw.size
          have hLB : w2.heap.size < wr.heap.size := World.block_lt_of_cell? wr _ t0
          clear hcr hix t0 t1 t2 t3 b0 b1 q0 q1 q2 KL hbl hB d1
          have v1 : decide (((cl + rl : Nat) : Int) < (cl : Int)) = false := decide_eq_false (by omega)
          have v2 : decide ((cl + rl : Nat) < cl) = false := decide_eq_false (by omega)
          go_wp2_with fail
          refine (above_any xa (cl + rl) xc lx dx wc HIX.out (by omega)).mono ?_
          rintro e w3 ⟨rfl, hb3⟩
          rw [HNEG.out]
          have y0' := carry hb3 y0
          have y1' := carry hb3 y1
          have b0'' := carry hb3 b0'
          have hb3s := hb3.size
          clear y0 y1 y2 y3 y4 y5
          rcases HIX.out.2 with h | ⟨xb, xo, hxa, hxs, _⟩
          · omega
          subst hxa
          have hB3 := bstep hBc hb3
          have HD1 : Hid (-796262400 ≤ Num.dotN p.costs lx cl ∧ Num.dotN p.costs lx cl ≤ 796262400) := by
            have hD := Num.dotN_bd p.costs lx 400 497664 HCB.out HXB.out cl
            show -796262400 ≤ Num.dotN p.costs lx cl ∧ Num.dotN p.costs lx cl ≤ 796262400
            omega
          have hXT : Hid (∀ j : Nat, -497664 ≤ (lx.take cl)[j]?.getD 0 ∧ (lx.take cl)[j]?.getD 0 ≤ 497664) := Num.take_bd lx cl 497664 (by omega) HXB.out
          have KD : Hid (∀ w', Below w3.heap.size w3 w' → Calls Try.prog 29 #[.slice ca cl cc, .slice (some ⟨xb, xo, none⟩) cl xc] w' fun e w'' => e = .returned (.int .i64 (Num.dotN p.costs lx cl)) ∧ Below w3.heap.size w3 w'' ∧ Below w'.heap.size w' w'') := by
            intro w' h
            rw [← Num.dotN_take]
            exact (below_of_drew (dot_any _ _ _ _ _ _ p.costs (lx.take cl) w' 400 497664 (Ints.below HC.out (bstep hB3 h) (Nat.le_refl _)) (Ints.take (Ints.below HIX.out (bstep hb3 h) (Nat.le_refl _)) cl (by omega)) (Nat.le_refl _) (by omega) HCB.out hXT.out (by omega))).mono fun _ _ k => ⟨k.1, bstep h k.2, k.2⟩
          have KO : Hid (∀ w', Below w3.heap.size w3 w' → Calls Try.prog 41 #[.int .i64 (Num.dotN p.costs lx cl), .int .i64 dx] w' fun e w'' => e = .returned (.agg #[.int .i64 wn, .int .i64 wd]) ∧ Below w3.heap.size w3 w'' ∧ Below w'.heap.size w' w'') := by
            intro w' h
            exact (of_any _ _ w' _ _ _ HMK.out).mono fun _ _ k => ⟨k.1, bstep h k.2, k.2⟩
          have q0 : ∀ w', Below w3.heap.size w3 w' → w'.cell? ⟨w.heap.size, 0, none⟩ = some (.slice ca cl cc) := fun w' h => carry h b0''
          have q1 : ∀ w', Below w3.heap.size w3 w' → w'.cell? ⟨bb, 0, none⟩ = some (.slice (some ⟨xb, xo, none⟩) (cl + rl) xc) := fun w' h => carry h y0'
          have q2 : ∀ w', Below w3.heap.size w3 w' → w'.cell? ⟨bb, 1, none⟩ = some (.int .i64 dx) := fun w' h => carry h y1'
          have r0' := carry hb3 r0
          have r1' := carry hb3 r1
          have r2' := carryF hb3 r0 r2
          have r3' := carryF hb3 r1 r3
          have hbl3 : Below w2.heap.size w2 w3 := hblc.trans (hb3.mono (by omega))
          have hcx1 : cl ≤ xc := by omega
          clear r0 r1 r2 r3 b0' b1' hblc hBc hb3 HIX
          go_wp2_with fail
          generalize hdd : Num.dotN p.costs lx cl = DD at *
          clear hdd
          go_cut [16] from 50 to 119 (fun s16 wx => ∃ b1 : Nat, s16 = .pointer (some ⟨b1, 0, none⟩) ∧ Hid (wx.cell? ⟨b1, 0, none⟩ = some (.int .i64 wn) ∧ wx.cell? ⟨b1, 1, none⟩ = some (.int .i64 wd)) ∧ w3.heap.size ≤ b1 ∧ Below w3.heap.size w3 wx)
          case first =>
            go_region_held3 (fun w' => Below w3.heap.size w3 w') (first | (with_reducible assumption) | (with_reducible exact (Below.refl _ _).drew) | (with_reducible exact ((Below.refl _ _).alloc (Nat.le_refl _) _).drew) | (with_reducible refine Below.alloc ?_ ?_ _ <;> first | (with_reducible assumption) | (apply Below.size; with_reducible assumption)) | (with_reducible refine Below.setCell (Below.setCell ?_ ?_ _) ?_ _ <;> first | (with_reducible assumption) | (with_reducible exact Nat.le_refl _) | (apply Below.size; with_reducible assumption)))
              (first | (go_at_call 29; refine Calls.mono (KD.out _ ?_) ?_; (with_reducible assumption); rintro e v1 ⟨rfl, hb1', hk1'⟩; (first | (with_reducible have hz7 := kept2 hk1') | (with_reducible have hz7 := kept2d hk1') | skip))
                     | (go_at_call 41; refine Calls.mono (KO.out _ ?_) ?_; (with_reducible assumption); rintro e v2 ⟨rfl, hb2', hk2'⟩; (first | (with_reducible have hz7 := carry2 hk2' hz7) | (with_reducible have hz7 := kept2 hk2') | (with_reducible have hz7 := kept2d hk2') | skip)))
            · rename_i hfin
              have HFIN : Hid _ := hfin
              have HZ0 : Hid _ := cell_new2 (w := v2) rfl (.int .i64 wn) (.int .i64 wd) 24
              have hle : w3.heap.size ≤ v2.heap.size := hb2'.size
              clear q0 q1 q2 KD KO
              go_wp2_with fail
              go_meet
              exact ⟨v2.heap.size, rfl, HZ0.out, hle, HFIN.out⟩
            · rename_i hfin
              have HFIN : Hid _ := hfin
              have HZ0 : Hid (((v2.setCell ⟨v1.heap.size, 0, none⟩ (.int .i64 wn)).setCell ⟨v1.heap.size, 1, none⟩ (.int .i64 wd)).cell? ⟨v1.heap.size, 0, none⟩ = some (.int .i64 wn) ∧ ((v2.setCell ⟨v1.heap.size, 0, none⟩ (.int .i64 wn)).setCell ⟨v1.heap.size, 1, none⟩ (.int .i64 wd)).cell? ⟨v1.heap.size, 1, none⟩ = some (.int .i64 wd)) := ⟨by rw [cell_set_ne (by decide)]; exact cell_set_eq hz7.1.1, cell_set_eq (by rw [cell_set_ne (by decide)]; exact hz7.1.2)⟩
              have hle : w3.heap.size ≤ v1.heap.size := by first | exact Nat.le_refl _ | exact hb1'.size
              clear q0 q1 q2 KD KO hz7
              go_wp2_with fail
              go_meet
              exact ⟨v1.heap.size, rfl, HZ0.out, hle, HFIN.out⟩
            · rename_i hfin
              have HFIN : Hid _ := hfin
              have HZ0 : Hid (((v2.setCell ⟨w3.heap.size, 0, none⟩ (.int .i64 wn)).setCell ⟨w3.heap.size, 1, none⟩ (.int .i64 wd)).cell? ⟨w3.heap.size, 0, none⟩ = some (.int .i64 wn) ∧ ((v2.setCell ⟨w3.heap.size, 0, none⟩ (.int .i64 wn)).setCell ⟨w3.heap.size, 1, none⟩ (.int .i64 wd)).cell? ⟨w3.heap.size, 1, none⟩ = some (.int .i64 wd)) := ⟨by rw [cell_set_ne (by decide)]; exact cell_set_eq hz7.1.1, cell_set_eq (by rw [cell_set_ne (by decide)]; exact hz7.1.2)⟩
              have hle : w3.heap.size ≤ w3.heap.size := by first | exact Nat.le_refl _ | exact hb1'.size
              clear q0 q1 q2 KD KO hz7
              go_wp2_with fail
              go_meet
              exact ⟨w3.heap.size, rfl, HZ0.out, hle, HFIN.out⟩
          case rest =>
            obtain ⟨bw, rfl, hcw, hbw1, hbw2⟩ := hcut
            obtain ⟨g0, g1⟩ := hcw.out
            have i0 := carry hbw2 r0'
            have i1 := carry hbw2 r1'
            have i2 := carryF hbw2 r0' r2'
            have i3 := carryF hbw2 r1' r3'
            have hblx : Below w2.heap.size w2 wc := hbl3.trans (hbw2.mono (by omega))
            have hbwl : bw < wc.heap.size := World.block_lt_of_cell? wc _ g0
            have hLBx : w2.heap.size < wc.heap.size := World.block_lt_of_cell? wc _ i0
            have hne : w2.heap.size ≠ bw := by omega
            clear q0 q1 q2 KD KO r0' r1' r2' r3' hcw y0' y1' b0'' hbl3 hB3
            go_upto_region 16 with fail
            go_cut [104] from 50 to 119 (fun s104 wx => s104 = .bool false ∧ Below wc.heap.size wc wx)
            case first =>
              by_cases hi0 : i = 0
              · subst hi0
                have v3 : decide ((0 : Int) < ((0 : Nat) : Int)) = false := by decide
                go_wp2_with fail
                go_meet
                exact ⟨rfl, Below.refl _ _⟩
              · have hip : 0 < i := by omega
                have v3 : decide ((0 : Int) < (i : Int)) = true := decide_eq_true (by omega)
                have v4 : decide (0 < i) = true := decide_eq_true hip
                obtain ⟨hld, hln2⟩ := HLB.out hip
                go_wp2_with fail
                refine (cmp_any wn wd ln ld _ (by omega) (by omega) (by omega) (by omega)).mono ?_
                rintro e w5 ⟨rfl, hb5⟩
                have v5 : decide (wn * ld - ln * wd < 0) = false := decide_eq_false (by have := HCMP.out hip; omega)
                generalize wn * ld - ln * wd = df at v5
                go_wp2_with fail
                go_meet
                exact ⟨rfl, hb5⟩
            case rest =>
              obtain ⟨rfl, hcut⟩ := hcut
              have j0 := carry hcut i0
              have j1 := carry hcut i1
              have j2 := carryF hcut i0 i2
              have j3 := carryF hcut i1 i3
              have g0' := carry hcut g0
              have g1' := carry hcut g1
              have hbl5 : Below w2.heap.size w2 wc := hblx.trans (hcut.mono (by omega))
              have hz5 := hcut.size
              have hbw5 : bw < wc.heap.size := by omega
              have hLB5 : w2.heap.size < wc.heap.size := by omega
              clear i0 i1 i2 i3 g0 g1 hblx hcut
              go_wp2_with fail
              have HX0 : Hid (((wc.setCell ⟨w2.heap.size, 0, none⟩ (.int .i64 wn)).setCell ⟨w2.heap.size, 1, none⟩ (.int .i64 wd)).cell? ⟨w2.heap.size, 0, none⟩ = some (.int .i64 wn) ∧ ((wc.setCell ⟨w2.heap.size, 0, none⟩ (.int .i64 wn)).setCell ⟨w2.heap.size, 1, none⟩ (.int .i64 wd)).cell? ⟨w2.heap.size, 1, none⟩ = some (.int .i64 wd)) := ⟨by rw [cell_set_ne (by decide)]; exact cell_set_eq j0, cell_set_eq (by rw [cell_set_ne (by decide)]; exact j1)⟩
              have HXF : Hid (((wc.setCell ⟨w2.heap.size, 0, none⟩ (.int .i64 wn)).setCell ⟨w2.heap.size, 1, none⟩ (.int .i64 wd)).frozen? ⟨w2.heap.size, 0, none⟩ = false ∧ ((wc.setCell ⟨w2.heap.size, 0, none⟩ (.int .i64 wn)).setCell ⟨w2.heap.size, 1, none⟩ (.int .i64 wd)).frozen? ⟨w2.heap.size, 1, none⟩ = false) := ⟨by simpa using j2, by simpa using j3⟩
              have hblX : Below w2.heap.size w2 ((wc.setCell ⟨w2.heap.size, 0, none⟩ (.int .i64 wn)).setCell ⟨w2.heap.size, 1, none⟩ (.int .i64 wd)) := bset (bset hbl5 (Nat.le_refl _) _) (Nat.le_refl _) _
              generalize (wc.setCell ⟨w2.heap.size, 0, none⟩ (.int .i64 wn)).setCell ⟨w2.heap.size, 1, none⟩ (.int .i64 wd) = X at *
              have hXs : w2.heap.size ≤ X.heap.size := hblX.size
              clear j0 j1 j2 j3 g0' g1' hbl5 hz5 hbw5 hLB5
              go_loopw [17] (fun q wr => ∃ kk : Nat, kk ≤ i ∧ q = .int .i64 kk ∧ Below X.heap.size X wr) (fun q _ => i - (intOf q).toNat)
              case atStart => exact ⟨0, Nat.zero_le _, rfl, Below.refl _ _⟩
              case round =>
                obtain ⟨kk, hkk, rfl, hbr⟩ := hrel
                have hblr : Below w2.heap.size w2 wr := hblX.trans (hbr.mono hXs)
                by_cases hklt : kk < i
                · obtain ⟨_, _, _, _, hlines⟩ := HBX.out wr hblr
                  obtain ⟨ta1, tl1, tc1, f1, f2⟩ := hlines kk (by omega)
                  obtain ⟨ta2, tl2, tc2, f3, f4⟩ := hlines i hlt
                  have KI : Hid (∀ w'', Below wr.heap.size wr w'' → Calls Try.prog 39 #[.slice ta1 tl1 tc1, .slice ta2 tl2 tc2] w'' fun e w4 => e = .returned (.bool false) ∧ ∃ n, w4 = w''.drewN n) := by
                    intro w'' h
                    have e1 := f2.1
                    have e2 := f4.1
                    have g1 := (Num.right_all _ rl _ (HGOOD.out kk (by have := HLL.out; omega)).right).1
                    have g2 := (Num.right_all _ rl _ (HGOOD.out i (by have := HLL.out; omega)).right).1
                    have hne := HNEW.out kk i hklt (by have := HLL.out; omega)
                    refine (ints5_any ta1 ta2 tl1 tc1 tl2 tc2 _ _ w'' (Ints.below f2 h (Nat.le_refl _)) (Ints.below f4 h (Nat.le_refl _)) (by omega) (by omega)).mono ?_
                    rintro e w4 ⟨rfl, n, rfl⟩
                    exact ⟨by rw [beq_eq_false_iff_ne.2 hne], n, rfl⟩
                  have z1 : (kk : Int) < (ll : Int) := by omega
                  clear hlines f2 f4
                  go_wp2_with fail
                  go_quiet ((go_at_call 39; exact Calls.quiet_of (KI.out _ (bdrewN (Below.refl _ _) _))))
                  go_wp2_with fail
                  go_roundw
                  case rel => exact ⟨kk + 1, hklt, by go_num, bdrewN hbr _⟩
                  case measure => simp [intOf]; omega
                · have hke : kk = i := by omega
                  subst hke
                  have k0 := carry hbr HX0.out.1
                  have k1 := carry hbr HX0.out.2
                  have k2 := carryF hbr HX0.out.1 HXF.out.1
                  have k3 := carryF hbr HX0.out.2 HXF.out.2
                  go_wp2_with fail
                  go_roundw
                  case rel => exact ⟨kk + 1, hlt, by go_num, hblr, wn, wd, ⟨k0, k1⟩, ⟨k2, k3⟩, HNF.out⟩
                  case measure => simp [intOf]; omega
      · have hie : i = ll := by omega
        subst hie
        have hg0 : (0 : Int) < (i : Int) := by omega
        rcases hkind with rfl | rfl
        · go_wp2_with fail
          go_ret
          exact ⟨rfl, hB⟩
        · go_wp2_with fail
          go_ret
          exact ⟨rfl, hB⟩

end Go.Proofs.Ytipcbhodlgoflaa
