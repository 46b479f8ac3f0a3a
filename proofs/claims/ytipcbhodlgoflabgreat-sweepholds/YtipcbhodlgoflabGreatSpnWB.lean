/- What span.negated and span.notBelow do. -/
import Derived.Test.YtipcbhodlgoflabGreatSpnWA
import Derived.Test.YtipcbhodlgoflabGreatSixA
import Derived.Test.YtipcbhodlgoflabGreatPlnB
namespace Go.Proofs.YtipcbhodlgoflabGreat
open Go.RowKit

set_option maxHeartbeats 800000 in
theorem negated_any (a : Option Addr) (n c : Nat) (l : List Int) (d : Int) (w : World) (hi : Ints w a n l) (h8 : n ≤ 8) (hl : ∀ j : Nat, -1073741824 ≤ l[j]?.getD 0 ∧ l[j]?.getD 0 ≤ 1073741824) :
    Calls Tryz.prog 39 #[.agg #[.slice a n c, .int .i64 d]] w fun e w' => ∃ g, e = .returned (.agg #[.slice (some ⟨g, 0, none⟩) n n, .int .i64 d]) ∧ Ints w' (some ⟨g, 0, none⟩) n ((List.range n).map fun k => -(l[k]?.getD 0)) ∧ Below w.heap.size w w' := by
  have HI : Hid (Ints w a n l) := hi
  have HL : Hid (∀ j : Nat, -1073741824 ≤ l[j]?.getD 0 ∧ l[j]?.getD 0 ≤ 1073741824) := hl
  clear hi hl
  generalize hf : (fun k : Nat => -(l[k]?.getD 0)) = f
  have HF : Hid ((fun k : Nat => -(l[k]?.getD 0)) = f) := hf
  clear hf
  obtain ⟨i0, hif, hz0, hz1, hz2⟩ := info_parts Tryz.info64
  have hs0 : ((w.alloc (.cells #[.slice a n c, .int .i64 d] 34)).alloc (.cells #[.slice none 0 0, .int .i64 0] 34)).heap.size = w.heap.size + 1 + 1 := by simp
  go_enter Tryz.func39, Tryz.ntmps39
  go_wp2_with (at_make; refine wpList_make_full _ rfl (.tmp 8) (.tmp 8) 22 rfl (w.heap.size + 1 + 1) 2 i0 (.int .i64 0) 1 Tryz.underlying22 hif hz0 hz1 .i64 .i64 _ _ n rfl rfl rfl rfl (by rw [hz2]; omega) (by unfold maxLen; omega) (by simp) ?_; intro w3 hown hgrow; have hb3 := made_below hgrow; obtain ⟨⟨k0, k1⟩, ⟨k2, k3⟩, ⟨k4, k5⟩, hz3, hB3⟩ := boxes hb3; have HO : Hid _ := hown; clear hown hgrow)
  have HO3 : Hid (Own w3 (w.heap.size + 1 + 1) (w.heap.size + 1 + 1) n (Num.fill f n 0)) := Own.made _ (by rw [hs0] at HO; exact HO.out)
  clear HO
  go_loopw [13] (fun i wr => ∃ k : Nat, k ≤ n ∧ i = .int .i64 k ∧ Own wr (w.heap.size + 1 + 1) (w.heap.size + 1 + 1) n (Num.fill f n k) ∧ Below ((w.alloc (.cells #[.slice a n c, .int .i64 d] 34)).alloc (.cells #[.slice none 0 0, .int .i64 0] 34)).heap.size ((w.alloc (.cells #[.slice a n c, .int .i64 d] 34)).alloc (.cells #[.slice none 0 0, .int .i64 0] 34)) wr) (fun i _ => n - (intOf i).toNat)
  case atStart => exact ⟨0, Nat.zero_le _, rfl, HO3.out, hb3⟩
  case round =>
    obtain ⟨k, hk, rfl, hO, hbl⟩ := hrel
    have HO : Hid (Own wr (w.heap.size + 1 + 1) (w.heap.size + 1 + 1) n (Num.fill f n k)) := hO
    clear HO3 hb3 k0 k1 k2 k3 k4 k5 hz3 hB3
    obtain ⟨⟨k0, k1⟩, ⟨k2, k3⟩, ⟨k4, k5⟩, hz3, hB3⟩ := boxes hbl
    by_cases hlt : k < n
    · rcases (Ints.below HI.out hB3 (Nat.le_refl _)).2 with h | ⟨b, off, ha, hbs, hc⟩
      · omega
      have c0 := hc k hlt
      clear hc
      have hlk := HL.out k
      obtain ⟨⟨u, u0⟩, u1⟩ := hO.cell' k hlt
      have hg := hO.lt.2
      clear hO
      have HE : Hid (-(l[k]?.getD 0) = f k) := by show _ = _; rw [← HF.out]
      generalize l[k]?.getD 0 = x at *
      have HBL : Hid _ := hbl
      clear hbl
      subst ha
      go_wp2_with fail
      go_roundw
      case rel => exact ⟨k + 1, hlt, by go_num, by rw [← Num.fill_set _ _ _ (-x) hlt HE.out]; exact Own.store HO.out k (-x), bset HBL.out (by simp) _⟩
      case measure => simp [intOf]; omega
    · have hke : k = n := by omega
      subst hke
      clear hO
      go_wp2_with fail
      have hB4 : Below w.heap.size w ((wr.setCell ⟨w.heap.size + 1, 0, none⟩ (.slice (some ⟨w.heap.size + 1 + 1, 0, none⟩) k k)).setCell ⟨w.heap.size + 1, 1, none⟩ (.int .i64 d)) := bset (bset hB3 (by omega) _) (by omega) _
      refine bodyPost_ret (v := .agg #[.slice (some ⟨w.heap.size + 1 + 1, 0, none⟩) k k, .int .i64 d]) (by simp [results, Tryz.results39, go_sem, k2, k3]) rfl ?_
      refine ⟨w.heap.size + 1 + 1, rfl, ?_, hB4⟩
      rw [← Num.fill_all]
      exact Own.ints (ownsRow_setCell_below (ownsRow_setCell_below HO.out (by show w.heap.size + 1 < _; omega) _) (by show w.heap.size + 1 < _; omega) _)

/-- The ends of a span, as the program tells them. -/
def endsV (s : Num.Spn) : Value := if Num.emptyS s = true then .tuple #[.agg #[.bool false, .int .i64 0, .int .i64 0], .agg #[.bool false, .int .i64 0, .int .i64 0], .int .i64 4] else .tuple #[.agg #[.bool s.o, .int .i64 s.n, .int .i64 s.d], .agg #[.bool s.o2, .int .i64 s.n2, .int .i64 s.d2], .int .i64 0]

/-- The boxes of span.notBelow. -/
structure NB (w : World) (na sa : Option Addr) (N nc sc : Nat) (nd sd : Int) (s : Num.Spn) (wr : World) : Prop where
  p : Bx (w.heap.size) [.slice na N nc, .int .i64 nd] wr
  q : Bx (w.heap.size + 1) [.slice sa N sc, .int .i64 sd] wr
  r : Bx (w.heap.size + 1 + 1) [.bool false, .int .i64 0, .int .i64 0] wr
  t : Bx (w.heap.size + 1 + 1 + 1) [.bool false, .int .i64 0, .int .i64 0] wr
  f : Bx (w.heap.size + 1 + 1 + 1 + 1) [.bool s.o, .int .i64 s.n, .int .i64 s.d] wr
  g : Bx (w.heap.size + 1 + 1 + 1 + 1 + 1) [.bool s.o2, .int .i64 s.n2, .int .i64 s.d2] wr
  bel : Below w.heap.size w wr

theorem NB.step {w : World} {na sa : Option Addr} {N nc sc : Nat} {nd sd : Int} {s : Num.Spn} {wr w' : World} (h : NB w na sa N nc sc nd sd s wr) (hb : Below wr.heap.size wr w') : NB w na sa N nc sc nd sd s w' :=
  ⟨h.p.step hb, h.q.step hb, h.r.step hb, h.t.step hb, h.f.step hb, h.g.step hb, bstep h.bel hb⟩

theorem NB.setF {w : World} {na sa : Option Addr} {N nc sc : Nat} {nd sd : Int} {s : Num.Spn} {wr : World} (h : NB w na sa N nc sc nd sd s wr) (o : Bool) (x y : Int) (s' : Num.Spn) (hs : s' = { s with o := o, n := x, d := y }) :
    NB w na sa N nc sc nd sd s' (((wr.setCell ⟨w.heap.size + 1 + 1 + 1 + 1, 0, none⟩ (.bool o)).setCell ⟨w.heap.size + 1 + 1 + 1 + 1, 1, none⟩ (.int .i64 x)).setCell ⟨w.heap.size + 1 + 1 + 1 + 1, 2, none⟩ (.int .i64 y)) := by
  subst hs
  exact ⟨h.p.other3 (by omega) _ _ _, h.q.other3 (by omega) _ _ _, h.r.other3 (by omega) _ _ _, h.t.other3 (by omega) _ _ _, h.f.set3 _ _ _, h.g.other3 (by omega) _ _ _, bset3 h.bel (by omega) _ _ _⟩

theorem NB.setG {w : World} {na sa : Option Addr} {N nc sc : Nat} {nd sd : Int} {s : Num.Spn} {wr : World} (h : NB w na sa N nc sc nd sd s wr) (o : Bool) (x y : Int) (s' : Num.Spn) (hs : s' = { s with o2 := o, n2 := x, d2 := y }) :
    NB w na sa N nc sc nd sd s' (((wr.setCell ⟨w.heap.size + 1 + 1 + 1 + 1 + 1, 0, none⟩ (.bool o)).setCell ⟨w.heap.size + 1 + 1 + 1 + 1 + 1, 1, none⟩ (.int .i64 x)).setCell ⟨w.heap.size + 1 + 1 + 1 + 1 + 1, 2, none⟩ (.int .i64 y)) := by
  subst hs
  exact ⟨h.p.other3 (by omega) _ _ _, h.q.other3 (by omega) _ _ _, h.r.other3 (by omega) _ _ _, h.t.other3 (by omega) _ _ _, h.f.other3 (by omega) _ _ _, h.g.set3 _ _ _, bset3 h.bel (by omega) _ _ _⟩

theorem less_dec (an ad bn bd : Int) (w : World) (ha : Num.mayB ad [an] = true) (hb : Num.mayB bd [bn] = true) :
    Calls Tryz.prog 25 #[.agg #[.int .i64 an, .int .i64 ad], .agg #[.int .i64 bn, .int .i64 bd]] w fun e w' => e = .returned (.bool (decide (an * bd < bn * ad))) ∧ Below w.heap.size w w' := by
  refine (less_any an ad bn bd w).mono ?_
  rintro e w' ⟨rfl, hb'⟩
  rw [ha, hb]
  exact ⟨by simp, hb'⟩

theorem less_is (an ad bn bd : Int) (ha : Num.mayB ad [an] = true) (hb : Num.mayB bd [bn] = true) (r : Bool) (hr : decide (an * bd < bn * ad) = r) (w : World) :
    Calls Tryz.prog 25 #[.agg #[.int .i64 an, .int .i64 ad], .agg #[.int .i64 bn, .int .i64 bd]] w fun e w' => e = .returned (.bool r) ∧ Below w.heap.size w w' := by
  rw [← hr]
  exact less_dec an ad bn bd w ha hb

theorem Num.spanS_no (a b : Nat → Int) (k : Nat) (h : (Num.spanS a b k).no = true) : ∀ m, k ≤ m → (Num.spanS a b m).no = true := by
  intro m hm
  induction m with
  | zero => have : k = 0 := by omega
            subst this; exact h
  | succ m ih =>
    by_cases e : k = m + 1
    · subst e; exact h
    · have := ih (by omega)
      show (Num.aboveS (Num.spanS a b m) (a m) (b m)).no = true
      unfold Num.aboveS
      split
      · simp [this]
      · split
        · split <;> exact this
        · split <;> exact this

theorem Num.sg_pos (a d : Int) (hd : 0 < d) : 0 < a * d ↔ 0 < a := ⟨fun h => Int.pos_of_mul_pos_left h hd, fun h => Int.mul_pos h hd⟩
theorem Num.sg_neg (a d : Int) (hd : 0 < d) : a * d < 0 ↔ a < 0 := by
  have := Num.sg_pos (-a) d hd
  rw [Int.neg_mul] at this
  omega
theorem Num.sg_zero (a d : Int) (hd : 0 < d) : a * d = 0 ↔ a = 0 := by
  have h1 := Num.sg_pos a d hd
  have h2 := Num.sg_neg a d hd
  omega

/-- What is known of the numbers. -/
structure NBn (N : Nat) (ln ls : List Int) (nd sd : Int) : Prop where
  n8 : N ≤ 8
  hln : ∀ j : Nat, -1073741824 ≤ ln[j]?.getD 0 ∧ ln[j]?.getD 0 ≤ 1073741824
  hls : ∀ j : Nat, -1073741824 ≤ ls[j]?.getD 0 ∧ ls[j]?.getD 0 ≤ 1073741824
  hnd : 1 ≤ nd ∧ nd ≤ 1073741824
  hsd : 1 ≤ sd ∧ sd ≤ 1073741824
  sm : ∀ j, j < N → Num.SmallP (ln[j]?.getD 0 * sd) (ls[j]?.getD 0 * nd)

set_option maxRecDepth 4000 in
set_option maxHeartbeats 3200000 in
theorem notBelow_any (na sa : Option Addr) (N nc sc : Nat) (ln ls : List Int) (nd sd : Int) (w : World) (hn : Ints w na N ln) (hs : Ints w sa N ls) (hk : NBn N ln ls nd sd) :
    Calls Tryz.prog 38 #[.agg #[.slice na N nc, .int .i64 nd], .agg #[.slice sa N sc, .int .i64 sd]] w fun e w' => e = .returned (endsV (Num.spanS (fun j => ln[j]?.getD 0 * sd) (fun j => ls[j]?.getD 0 * nd) N)) ∧ Below w.heap.size w w' := by
  have HI : Hid (Ints w na N ln) := hn
  have HJ : Hid (Ints w sa N ls) := hs
  have HK : Hid (NBn N ln ls nd sd) := hk
  have hN8 := hk.n8
  have hnd := hk.hnd
  have hsd := hk.hsd
  clear hn hs hk
  generalize hA : (fun j : Nat => ln[j]?.getD 0 * sd) = A
  generalize hB : (fun j : Nat => ls[j]?.getD 0 * nd) = B
  have HA : Hid (∀ j : Nat, A j = ln[j]?.getD 0 * sd) := by intro j; rw [← hA]
  have HB : Hid (∀ j : Nat, B j = ls[j]?.getD 0 * nd) := by intro j; rw [← hB]
  have HS : Hid (∀ k, k ≤ N → Num.SpanIs A B k (Num.spanS A B k)) := by
    intro k hk
    refine Num.span_is A B k fun j hj => ?_
    rw [← hA, ← hB]
    exact HK.out.sm j (by omega)
  have HSM : Hid (∀ j, j < N → Num.SmallP (A j) (B j)) := by
    intro j hj
    rw [← hA, ← hB]
    exact HK.out.sm j hj
  clear hA hB
  generalize hres : endsV (Num.spanS A B N) = res
  have HRES : Hid (endsV (Num.spanS A B N) = res) := hres
  clear hres
  go_enter Tryz.func38, Tryz.ntmps38
  go_wp2_with fail
  go_loopw [19] (fun i wr => ∃ k : Nat, k ≤ N ∧ i = .int .i64 k ∧ (Num.spanS A B k).no = false ∧ NB w na sa N nc sc nd sd (Num.spanS A B k) wr) (fun i _ => N - (intOf i).toNat)
  case atStart =>
    refine ⟨0, Nat.zero_le _, rfl, rfl, ?_⟩
    exact ⟨(((((Bx.new rfl _ _).step (balloc _ _)).step (balloc _ _)).step (balloc _ _)).step (balloc _ _)).step (balloc _ _), ((((Bx.new (by simp) _ _).step (balloc _ _)).step (balloc _ _)).step (balloc _ _)).step (balloc _ _), (((Bx.new (by simp) _ _).step (balloc _ _)).step (balloc _ _)).step (balloc _ _), ((Bx.new (by simp) _ _).step (balloc _ _)).step (balloc _ _), (Bx.new (by simp) _ _).step (balloc _ _), Bx.new (by simp) _ _, bstep (bstep (bstep (bstep (bstep (balloc _ _) (balloc _ _)) (balloc _ _)) (balloc _ _)) (balloc _ _)) (balloc _ _)⟩
  case round =>
    obtain ⟨k, hk, rfl, hno, hN⟩ := hrel
    have HNO : Hid ((Num.spanS A B k).no = false) := hno
    clear hno
    by_cases hlt : k < N
    · have hS := HS.out k (by omega)
      have hM := HSM.out k hlt
      have HE : Hid (Num.spanS A B (k + 1) = Num.aboveS (Num.spanS A B k) (A k) (B k)) := rfl
      rcases (Ints.below HI.out hN.bel (Nat.le_refl _)).2 with h | ⟨bn, on, hna, hbn, hcn⟩
      · omega
      rcases (Ints.below HJ.out hN.bel (Nat.le_refl _)).2 with h | ⟨bs, os, hsa, hbs, hcs⟩
      · omega
      have cn := hcn k hlt
      have cs := hcs k hlt
      clear hcn hcs
      have hx := HK.out.hln k
      have hst := HK.out.hls k
      have HAk := HA.out k
      have HBk := HB.out k
      generalize ln[k]?.getD 0 = x at cn hx HAk
      generalize ls[k]?.getD 0 = st at cs hst HBk
      have hp1 := Num.mul_bd x sd 1073741824 hx (by omega) (by omega)
      have hp2 := Num.mul_bd st nd 1073741824 hst (by omega) (by omega)
      simp only [show (1073741824 : Int) * 1073741824 = 1152921504606846976 from rfl] at hp1 hp2
      have hsg : (0 < B k ↔ 0 < st) ∧ (B k < 0 ↔ st < 0) ∧ (B k = 0 ↔ st = 0) ∧ (A k < 0 ↔ x < 0) := by
        rw [HAk, HBk]
        exact ⟨Num.sg_pos st nd (by omega), Num.sg_neg st nd (by omega), Num.sg_zero st nd (by omega), Num.sg_neg x sd (by omega)⟩
      generalize hq1 : x * sd = q1 at *
      generalize hq2 : st * nd = q2 at *
      generalize A k = ak at *
      generalize B k = bk at *
      subst HAk HBk
      have hq1' : -x * sd = -ak := by rw [Int.neg_mul, hq1]
      have HSG : Hid _ := hsg

      subst hna hsa
      by_cases h0 : st = 0
      · have e0 : (st == 0) = true := by simpa using h0
        by_cases hx0 : x < 0
        · have ex : decide (x < 0) = true := by simpa using hx0
          have hz : (Num.spanS A B N).no = true := Num.spanS_no A B (k + 1) (by rw [HE.out]; unfold Num.aboveS; rw [if_pos (HSG.out.2.2.1.2 h0)]; simp [HSG.out.2.2.2.2 hx0]) N (by omega)
          have HV : Hid (endsV (Num.spanS A B N) = .tuple #[.agg #[.bool false, .int .i64 0, .int .i64 0], .agg #[.bool false, .int .i64 0, .int .i64 0], .int .i64 4]) := by show _ = _; unfold endsV; rw [if_pos (by unfold Num.emptyS; rw [hz]; rfl)]
          clear hz
          generalize Num.spanS A B k = s at *
          obtain ⟨p0, p1, _, _⟩ := hN.p.all2
          obtain ⟨q0, q1, _, _⟩ := hN.q.all2
          obtain ⟨r0, r1, r2, rf0, rf1, rf2⟩ := hN.r.all3
          obtain ⟨t0, t1, t2, tf0, tf1, tf2⟩ := hN.t.all3
          obtain ⟨f0, f1, f2, ff0, ff1, ff2⟩ := hN.f.all3
          obtain ⟨g0, g1, g2, gf0, gf1, gf2⟩ := hN.g.all3
          have z5 : w.heap.size + 1 + 1 + 1 + 1 + 1 < wr.heap.size := hN.g.lt
          have z4 : w.heap.size + 1 + 1 + 1 + 1 < wr.heap.size := hN.f.lt
          have z3 : w.heap.size + 1 + 1 + 1 < wr.heap.size := hN.t.lt
          have z2 : w.heap.size + 1 + 1 < wr.heap.size := hN.r.lt
          have z1 : w.heap.size + 1 < wr.heap.size := hN.q.lt
          have z0 : w.heap.size < wr.heap.size := hN.p.lt
          have HN : Hid _ := hN
          clear hN
          go_wp2_with fail
          generalize hX : ((((((wr).setCell ⟨w.heap.size + 1 + 1, 0, none⟩ (.bool false)).setCell ⟨w.heap.size + 1 + 1, 1, none⟩ (.int .i64 0)).setCell ⟨w.heap.size + 1 + 1, 2, none⟩ (.int .i64 0)).setCell ⟨w.heap.size + 1 + 1 + 1, 0, none⟩ (.bool false)).setCell ⟨w.heap.size + 1 + 1 + 1, 1, none⟩ (.int .i64 0)).setCell ⟨w.heap.size + 1 + 1 + 1, 2, none⟩ (.int .i64 0) = X
          have hX2 : Bx (w.heap.size + 1 + 1) [.bool false, .int .i64 0, .int .i64 0] X := by rw [← hX]; exact (HN.out.r.set3 _ _ _).other3 (by omega) _ _ _
          have hX3 : Bx (w.heap.size + 1 + 1 + 1) [.bool false, .int .i64 0, .int .i64 0] X := by rw [← hX]; exact (HN.out.t.other3 (by omega) _ _ _).set3 _ _ _
          have hXB : Below w.heap.size w X := by rw [← hX]; exact bset3 (bset3 HN.out.bel (by omega) _ _ _) (by omega) _ _ _
          obtain ⟨x0, x1, x2, _⟩ := hX2.all3
          obtain ⟨y0, y1, y2, _⟩ := hX3.all3
          exact bodyPost_ret (v := .tuple #[.agg #[.bool false, .int .i64 0, .int .i64 0], .agg #[.bool false, .int .i64 0, .int .i64 0], .int .i64 4]) (by simp [results, Tryz.results38, go_sem, x0, x1, x2, y0, y1, y2]) rfl ⟨congrArg Ending.returned (HV.out.symm.trans HRES.out), hXB⟩
        · have ex : decide (x < 0) = false := by simpa using hx0
          have HS1 : Hid (Num.spanS A B (k + 1) = Num.spanS A B k) := by
            show _ = _
            rw [HE.out]; unfold Num.aboveS; rw [if_pos (HSG.out.2.2.1.2 h0)]
            have : decide (ak < 0) = false := by simpa using fun h => hx0 (HSG.out.2.2.2.1 h)
            rw [this, Bool.or_false]
          obtain ⟨p0, p1, _, _⟩ := hN.p.all2
          obtain ⟨q0, q1, _, _⟩ := hN.q.all2
          obtain ⟨r0, r1, r2, rf0, rf1, rf2⟩ := hN.r.all3
          obtain ⟨t0, t1, t2, tf0, tf1, tf2⟩ := hN.t.all3
          obtain ⟨f0, f1, f2, ff0, ff1, ff2⟩ := hN.f.all3
          obtain ⟨g0, g1, g2, gf0, gf1, gf2⟩ := hN.g.all3
          have z5 : w.heap.size + 1 + 1 + 1 + 1 + 1 < wr.heap.size := hN.g.lt
          have z4 : w.heap.size + 1 + 1 + 1 + 1 < wr.heap.size := hN.f.lt
          have z3 : w.heap.size + 1 + 1 + 1 < wr.heap.size := hN.t.lt
          have z2 : w.heap.size + 1 + 1 < wr.heap.size := hN.r.lt
          have z1 : w.heap.size + 1 < wr.heap.size := hN.q.lt
          have z0 : w.heap.size < wr.heap.size := hN.p.lt
          have HN : Hid _ := hN
          clear hN
          go_wp2_with fail
          go_roundw
          case rel => exact ⟨k + 1, hlt, by go_num, by rw [HS1.out]; exact HNO.out, by rw [HS1.out]; exact HN.out⟩
          case measure => simp [intOf]; omega
      obtain ⟨zx, zy, hmk, _, hzm⟩ := Num.small_at0 ak bk hM (fun h => h0 (HSG.out.2.2.1.1 h))
      have HMK : Hid (Num.mk (-ak) bk = (zx, zy, 0)) := by show _ = _; rw [← Int.zero_sub]; exact hmk
      have e0 : (st == 0) = false := by simpa using h0
      generalize hs1 : Num.spanS A B (k + 1) = s1 at HE
      have HS1 : Hid (Num.spanS A B (k + 1) = s1) := hs1
      clear hs1
      generalize hs0 : Num.spanS A B k = s at HE HNO hN hS
      clear hs0 hM HA HB HSM HS HK HI HJ
      obtain ⟨so, sn, sdd, so2, sn2, sdd2, sno⟩ := s
      by_cases hp : 0 < st
      · have e1 : decide (0 < st) = true := by simp; omega
        have e2 : decide (st < 0) = false := by simp; omega
        have hqp : 0 < bk := HSG.out.1.2 hp
        cases so
        · by_cases hc : sn * zy < zx * sdd
          · have HR : Hid (s1 = ⟨false, zx, zy, so2, sn2, sdd2, sno⟩) := by show _ = _; rw [HE.out]; unfold Num.aboveS; rw [if_neg (by omega), if_pos hqp, hmk]; simp only; rw [if_pos (Or.inr hc)]
            have KL : Hid (∀ w', Calls Tryz.prog 25 #[.agg #[.int .i64 sn, .int .i64 sdd], .agg #[.int .i64 zx, .int .i64 zy]] w' fun e w'' => e = .returned (.bool true) ∧ Below w'.heap.size w' w'') := less_is sn sdd zx zy (Num.lo_den A B k _ _ _ hS.lo rfl).2 hzm true (by simpa using hc)
            clear hc
            clear HE hS hmk hzm HSG
            obtain ⟨p0, p1, _, _⟩ := hN.p.all2
            obtain ⟨q0, q1, _, _⟩ := hN.q.all2
            obtain ⟨r0, r1, r2, rf0, rf1, rf2⟩ := hN.r.all3
            obtain ⟨t0, t1, t2, tf0, tf1, tf2⟩ := hN.t.all3
            obtain ⟨f0, f1, f2, ff0, ff1, ff2⟩ := hN.f.all3
            obtain ⟨g0, g1, g2, gf0, gf1, gf2⟩ := hN.g.all3
            have z5 : w.heap.size + 1 + 1 + 1 + 1 + 1 < wr.heap.size := hN.g.lt
            have z4 : w.heap.size + 1 + 1 + 1 + 1 < wr.heap.size := hN.f.lt
            have z3 : w.heap.size + 1 + 1 + 1 < wr.heap.size := hN.t.lt
            have z2 : w.heap.size + 1 + 1 < wr.heap.size := hN.r.lt
            have z1 : w.heap.size + 1 < wr.heap.size := hN.q.lt
            have z0 : w.heap.size < wr.heap.size := hN.p.lt
            have HN : Hid _ := hN
            clear hN
            go_wp2_with fail
            refine (make_any _ _ _ zx zy 0 HMK.out).mono ?_
            rintro e w1 ⟨rfl, hb1⟩
            have hN := HN.out.step hb1
            clear HN hb1 p0 p1 q0 q1 r0 r1 r2 rf0 rf1 rf2 t0 t1 t2 tf0 tf1 tf2 f0 f1 f2 ff0 ff1 ff2 g0 g1 g2 gf0 gf1 gf2 z0 z1 z2 z3 z4 z5 cn cs
            obtain ⟨p0, p1, _, _⟩ := hN.p.all2
            obtain ⟨q0, q1, _, _⟩ := hN.q.all2
            obtain ⟨r0, r1, r2, rf0, rf1, rf2⟩ := hN.r.all3
            obtain ⟨t0, t1, t2, tf0, tf1, tf2⟩ := hN.t.all3
            obtain ⟨f0, f1, f2, ff0, ff1, ff2⟩ := hN.f.all3
            obtain ⟨g0, g1, g2, gf0, gf1, gf2⟩ := hN.g.all3
            have z5 : w.heap.size + 1 + 1 + 1 + 1 + 1 < w1.heap.size := hN.g.lt
            have z4 : w.heap.size + 1 + 1 + 1 + 1 < w1.heap.size := hN.f.lt
            have z3 : w.heap.size + 1 + 1 + 1 < w1.heap.size := hN.t.lt
            have z2 : w.heap.size + 1 + 1 < w1.heap.size := hN.r.lt
            have z1 : w.heap.size + 1 < w1.heap.size := hN.q.lt
            have z0 : w.heap.size < w1.heap.size := hN.p.lt
            have HN : Hid _ := hN
            clear hN
            go_wp2_with fail
            refine (KL.out _).mono ?_
            rintro e w2 ⟨rfl, hb2⟩
            have hN := (HN.out.step (balloc _ _)).step hb2
            have hT : Bx w1.heap.size [.int .i64 zx, .int .i64 zy] w2 := (Bx.new rfl _ _).step hb2
            obtain ⟨v0, v1, _, _⟩ := hT.all2
            clear HN hb2 hT p0 p1 q0 q1 r0 r1 r2 rf0 rf1 rf2 t0 t1 t2 tf0 tf1 tf2 f0 f1 f2 ff0 ff1 ff2 g0 g1 g2 gf0 gf1 gf2 z0 z1 z2 z3 z4 z5
            obtain ⟨p0, p1, _, _⟩ := hN.p.all2
            obtain ⟨q0, q1, _, _⟩ := hN.q.all2
            obtain ⟨r0, r1, r2, rf0, rf1, rf2⟩ := hN.r.all3
            obtain ⟨t0, t1, t2, tf0, tf1, tf2⟩ := hN.t.all3
            obtain ⟨f0, f1, f2, ff0, ff1, ff2⟩ := hN.f.all3
            obtain ⟨g0, g1, g2, gf0, gf1, gf2⟩ := hN.g.all3
            have z5 : w.heap.size + 1 + 1 + 1 + 1 + 1 < w2.heap.size := hN.g.lt
            have z4 : w.heap.size + 1 + 1 + 1 + 1 < w2.heap.size := hN.f.lt
            have z3 : w.heap.size + 1 + 1 + 1 < w2.heap.size := hN.t.lt
            have z2 : w.heap.size + 1 + 1 < w2.heap.size := hN.r.lt
            have z1 : w.heap.size + 1 < w2.heap.size := hN.q.lt
            have z0 : w.heap.size < w2.heap.size := hN.p.lt
            have HN : Hid _ := hN
            clear hN
            go_wp2_with fail
            go_roundw
            case rel => exact ⟨k + 1, hlt, by go_num, by rw [HS1.out, HR.out]; exact HNO.out, by rw [HS1.out]; exact NB.setF HN.out false zx zy s1 HR.out⟩
            case measure => simp [intOf]; omega
          · have HR : Hid (s1 = ⟨false, sn, sdd, so2, sn2, sdd2, sno⟩) := by show _ = _; rw [HE.out]; unfold Num.aboveS; rw [if_neg (by omega), if_pos hqp, hmk]; simp only; rw [if_neg (by rintro (h | h); cases h; exact hc h)]
            have KL : Hid (∀ w', Calls Tryz.prog 25 #[.agg #[.int .i64 sn, .int .i64 sdd], .agg #[.int .i64 zx, .int .i64 zy]] w' fun e w'' => e = .returned (.bool false) ∧ Below w'.heap.size w' w'') := less_is sn sdd zx zy (Num.lo_den A B k _ _ _ hS.lo rfl).2 hzm false (by simpa using hc)
            clear hc
            clear HE hS hmk hzm HSG
            obtain ⟨p0, p1, _, _⟩ := hN.p.all2
            obtain ⟨q0, q1, _, _⟩ := hN.q.all2
            obtain ⟨r0, r1, r2, rf0, rf1, rf2⟩ := hN.r.all3
            obtain ⟨t0, t1, t2, tf0, tf1, tf2⟩ := hN.t.all3
            obtain ⟨f0, f1, f2, ff0, ff1, ff2⟩ := hN.f.all3
            obtain ⟨g0, g1, g2, gf0, gf1, gf2⟩ := hN.g.all3
            have z5 : w.heap.size + 1 + 1 + 1 + 1 + 1 < wr.heap.size := hN.g.lt
            have z4 : w.heap.size + 1 + 1 + 1 + 1 < wr.heap.size := hN.f.lt
            have z3 : w.heap.size + 1 + 1 + 1 < wr.heap.size := hN.t.lt
            have z2 : w.heap.size + 1 + 1 < wr.heap.size := hN.r.lt
            have z1 : w.heap.size + 1 < wr.heap.size := hN.q.lt
            have z0 : w.heap.size < wr.heap.size := hN.p.lt
            have HN : Hid _ := hN
            clear hN
            go_wp2_with fail
            refine (make_any _ _ _ zx zy 0 HMK.out).mono ?_
            rintro e w1 ⟨rfl, hb1⟩
            have hN := HN.out.step hb1
            clear HN hb1 p0 p1 q0 q1 r0 r1 r2 rf0 rf1 rf2 t0 t1 t2 tf0 tf1 tf2 f0 f1 f2 ff0 ff1 ff2 g0 g1 g2 gf0 gf1 gf2 z0 z1 z2 z3 z4 z5 cn cs
            obtain ⟨p0, p1, _, _⟩ := hN.p.all2
            obtain ⟨q0, q1, _, _⟩ := hN.q.all2
            obtain ⟨r0, r1, r2, rf0, rf1, rf2⟩ := hN.r.all3
            obtain ⟨t0, t1, t2, tf0, tf1, tf2⟩ := hN.t.all3
            obtain ⟨f0, f1, f2, ff0, ff1, ff2⟩ := hN.f.all3
            obtain ⟨g0, g1, g2, gf0, gf1, gf2⟩ := hN.g.all3
            have z5 : w.heap.size + 1 + 1 + 1 + 1 + 1 < w1.heap.size := hN.g.lt
            have z4 : w.heap.size + 1 + 1 + 1 + 1 < w1.heap.size := hN.f.lt
            have z3 : w.heap.size + 1 + 1 + 1 < w1.heap.size := hN.t.lt
            have z2 : w.heap.size + 1 + 1 < w1.heap.size := hN.r.lt
            have z1 : w.heap.size + 1 < w1.heap.size := hN.q.lt
            have z0 : w.heap.size < w1.heap.size := hN.p.lt
            have HN : Hid _ := hN
            clear hN
            go_wp2_with fail
            refine (KL.out _).mono ?_
            rintro e w2 ⟨rfl, hb2⟩
            have hN := (HN.out.step (balloc _ _)).step hb2
            have hT : Bx w1.heap.size [.int .i64 zx, .int .i64 zy] w2 := (Bx.new rfl _ _).step hb2
            obtain ⟨v0, v1, _, _⟩ := hT.all2
            clear HN hb2 hT p0 p1 q0 q1 r0 r1 r2 rf0 rf1 rf2 t0 t1 t2 tf0 tf1 tf2 f0 f1 f2 ff0 ff1 ff2 g0 g1 g2 gf0 gf1 gf2 z0 z1 z2 z3 z4 z5
            obtain ⟨p0, p1, _, _⟩ := hN.p.all2
            obtain ⟨q0, q1, _, _⟩ := hN.q.all2
            obtain ⟨r0, r1, r2, rf0, rf1, rf2⟩ := hN.r.all3
            obtain ⟨t0, t1, t2, tf0, tf1, tf2⟩ := hN.t.all3
            obtain ⟨f0, f1, f2, ff0, ff1, ff2⟩ := hN.f.all3
            obtain ⟨g0, g1, g2, gf0, gf1, gf2⟩ := hN.g.all3
            have z5 : w.heap.size + 1 + 1 + 1 + 1 + 1 < w2.heap.size := hN.g.lt
            have z4 : w.heap.size + 1 + 1 + 1 + 1 < w2.heap.size := hN.f.lt
            have z3 : w.heap.size + 1 + 1 + 1 < w2.heap.size := hN.t.lt
            have z2 : w.heap.size + 1 + 1 < w2.heap.size := hN.r.lt
            have z1 : w.heap.size + 1 < w2.heap.size := hN.q.lt
            have z0 : w.heap.size < w2.heap.size := hN.p.lt
            have HN : Hid _ := hN
            clear hN
            go_wp2_with fail
            go_roundw
            case rel => exact ⟨k + 1, hlt, by go_num, by rw [HS1.out, HR.out]; exact HNO.out, by rw [HS1.out, HR.out]; exact HN.out⟩
            case measure => simp [intOf]; omega
        · have HR : Hid (s1 = ⟨false, zx, zy, so2, sn2, sdd2, sno⟩) := by show _ = _; rw [HE.out]; unfold Num.aboveS; rw [if_neg (by omega), if_pos hqp, hmk]; simp
          clear HE hS hmk hzm HSG
          obtain ⟨p0, p1, _, _⟩ := hN.p.all2
          obtain ⟨q0, q1, _, _⟩ := hN.q.all2
          obtain ⟨r0, r1, r2, rf0, rf1, rf2⟩ := hN.r.all3
          obtain ⟨t0, t1, t2, tf0, tf1, tf2⟩ := hN.t.all3
          obtain ⟨f0, f1, f2, ff0, ff1, ff2⟩ := hN.f.all3
          obtain ⟨g0, g1, g2, gf0, gf1, gf2⟩ := hN.g.all3
          have z5 : w.heap.size + 1 + 1 + 1 + 1 + 1 < wr.heap.size := hN.g.lt
          have z4 : w.heap.size + 1 + 1 + 1 + 1 < wr.heap.size := hN.f.lt
          have z3 : w.heap.size + 1 + 1 + 1 < wr.heap.size := hN.t.lt
          have z2 : w.heap.size + 1 + 1 < wr.heap.size := hN.r.lt
          have z1 : w.heap.size + 1 < wr.heap.size := hN.q.lt
          have z0 : w.heap.size < wr.heap.size := hN.p.lt
          have HN : Hid _ := hN
          clear hN
          go_wp2_with fail
          refine (make_any _ _ _ zx zy 0 HMK.out).mono ?_
          rintro e w1 ⟨rfl, hb1⟩
          have hN := HN.out.step hb1
          clear HN hb1 p0 p1 q0 q1 r0 r1 r2 rf0 rf1 rf2 t0 t1 t2 tf0 tf1 tf2 f0 f1 f2 ff0 ff1 ff2 g0 g1 g2 gf0 gf1 gf2 z0 z1 z2 z3 z4 z5 cn cs
          obtain ⟨p0, p1, _, _⟩ := hN.p.all2
          obtain ⟨q0, q1, _, _⟩ := hN.q.all2
          obtain ⟨r0, r1, r2, rf0, rf1, rf2⟩ := hN.r.all3
          obtain ⟨t0, t1, t2, tf0, tf1, tf2⟩ := hN.t.all3
          obtain ⟨f0, f1, f2, ff0, ff1, ff2⟩ := hN.f.all3
          obtain ⟨g0, g1, g2, gf0, gf1, gf2⟩ := hN.g.all3
          have z5 : w.heap.size + 1 + 1 + 1 + 1 + 1 < w1.heap.size := hN.g.lt
          have z4 : w.heap.size + 1 + 1 + 1 + 1 < w1.heap.size := hN.f.lt
          have z3 : w.heap.size + 1 + 1 + 1 < w1.heap.size := hN.t.lt
          have z2 : w.heap.size + 1 + 1 < w1.heap.size := hN.r.lt
          have z1 : w.heap.size + 1 < w1.heap.size := hN.q.lt
          have z0 : w.heap.size < w1.heap.size := hN.p.lt
          have HN : Hid _ := hN
          clear hN
          go_wp2_with fail
          go_roundw
          case rel => exact ⟨k + 1, hlt, by go_num, by rw [HS1.out, HR.out]; exact HNO.out, by rw [HS1.out]; exact (NB.setF HN.out false zx zy s1 HR.out).step (balloc _ _)⟩
          case measure => simp [intOf]; omega
      · have e1 : decide (0 < st) = false := by simp; omega
        have e2 : decide (st < 0) = true := by simp; omega
        have hqp : bk < 0 := HSG.out.2.1.2 (by omega)
        cases so2
        · by_cases hc : zx * sdd2 < sn2 * zy
          · have HR : Hid (s1 = ⟨so, sn, sdd, false, zx, zy, sno⟩) := by show _ = _; rw [HE.out]; unfold Num.aboveS; rw [if_neg (by omega), if_neg (by omega), hmk]; simp only; rw [if_pos (Or.inr hc)]
            have KL : Hid (∀ w', Calls Tryz.prog 25 #[.agg #[.int .i64 zx, .int .i64 zy], .agg #[.int .i64 sn2, .int .i64 sdd2]] w' fun e w'' => e = .returned (.bool true) ∧ Below w'.heap.size w' w'') := less_is zx zy sn2 sdd2 hzm (Num.hi_den A B k _ _ _ hS.hi rfl).2 true (by simpa using hc)
            clear hc
            clear HE hS hmk hzm HSG
            obtain ⟨p0, p1, _, _⟩ := hN.p.all2
            obtain ⟨q0, q1, _, _⟩ := hN.q.all2
            obtain ⟨r0, r1, r2, rf0, rf1, rf2⟩ := hN.r.all3
            obtain ⟨t0, t1, t2, tf0, tf1, tf2⟩ := hN.t.all3
            obtain ⟨f0, f1, f2, ff0, ff1, ff2⟩ := hN.f.all3
            obtain ⟨g0, g1, g2, gf0, gf1, gf2⟩ := hN.g.all3
            have z5 : w.heap.size + 1 + 1 + 1 + 1 + 1 < wr.heap.size := hN.g.lt
            have z4 : w.heap.size + 1 + 1 + 1 + 1 < wr.heap.size := hN.f.lt
            have z3 : w.heap.size + 1 + 1 + 1 < wr.heap.size := hN.t.lt
            have z2 : w.heap.size + 1 + 1 < wr.heap.size := hN.r.lt
            have z1 : w.heap.size + 1 < wr.heap.size := hN.q.lt
            have z0 : w.heap.size < wr.heap.size := hN.p.lt
            have HN : Hid _ := hN
            clear hN
            go_wp2_with fail
            refine (make_any _ _ _ zx zy 0 HMK.out).mono ?_
            rintro e w1 ⟨rfl, hb1⟩
            have hN := HN.out.step hb1
            clear HN hb1 p0 p1 q0 q1 r0 r1 r2 rf0 rf1 rf2 t0 t1 t2 tf0 tf1 tf2 f0 f1 f2 ff0 ff1 ff2 g0 g1 g2 gf0 gf1 gf2 z0 z1 z2 z3 z4 z5 cn cs
            obtain ⟨p0, p1, _, _⟩ := hN.p.all2
            obtain ⟨q0, q1, _, _⟩ := hN.q.all2
            obtain ⟨r0, r1, r2, rf0, rf1, rf2⟩ := hN.r.all3
            obtain ⟨t0, t1, t2, tf0, tf1, tf2⟩ := hN.t.all3
            obtain ⟨f0, f1, f2, ff0, ff1, ff2⟩ := hN.f.all3
            obtain ⟨g0, g1, g2, gf0, gf1, gf2⟩ := hN.g.all3
            have z5 : w.heap.size + 1 + 1 + 1 + 1 + 1 < w1.heap.size := hN.g.lt
            have z4 : w.heap.size + 1 + 1 + 1 + 1 < w1.heap.size := hN.f.lt
            have z3 : w.heap.size + 1 + 1 + 1 < w1.heap.size := hN.t.lt
            have z2 : w.heap.size + 1 + 1 < w1.heap.size := hN.r.lt
            have z1 : w.heap.size + 1 < w1.heap.size := hN.q.lt
            have z0 : w.heap.size < w1.heap.size := hN.p.lt
            have HN : Hid _ := hN
            clear hN
            go_wp2_with fail
            refine (KL.out _).mono ?_
            rintro e w2 ⟨rfl, hb2⟩
            have hN := (HN.out.step (balloc _ _)).step hb2
            have hT : Bx w1.heap.size [.int .i64 zx, .int .i64 zy] w2 := (Bx.new rfl _ _).step hb2
            obtain ⟨v0, v1, _, _⟩ := hT.all2
            clear HN hb2 hT p0 p1 q0 q1 r0 r1 r2 rf0 rf1 rf2 t0 t1 t2 tf0 tf1 tf2 f0 f1 f2 ff0 ff1 ff2 g0 g1 g2 gf0 gf1 gf2 z0 z1 z2 z3 z4 z5
            obtain ⟨p0, p1, _, _⟩ := hN.p.all2
            obtain ⟨q0, q1, _, _⟩ := hN.q.all2
            obtain ⟨r0, r1, r2, rf0, rf1, rf2⟩ := hN.r.all3
            obtain ⟨t0, t1, t2, tf0, tf1, tf2⟩ := hN.t.all3
            obtain ⟨f0, f1, f2, ff0, ff1, ff2⟩ := hN.f.all3
            obtain ⟨g0, g1, g2, gf0, gf1, gf2⟩ := hN.g.all3
            have z5 : w.heap.size + 1 + 1 + 1 + 1 + 1 < w2.heap.size := hN.g.lt
            have z4 : w.heap.size + 1 + 1 + 1 + 1 < w2.heap.size := hN.f.lt
            have z3 : w.heap.size + 1 + 1 + 1 < w2.heap.size := hN.t.lt
            have z2 : w.heap.size + 1 + 1 < w2.heap.size := hN.r.lt
            have z1 : w.heap.size + 1 < w2.heap.size := hN.q.lt
            have z0 : w.heap.size < w2.heap.size := hN.p.lt
            have HN : Hid _ := hN
            clear hN
            go_wp2_with fail
            go_roundw
            case rel => exact ⟨k + 1, hlt, by go_num, by rw [HS1.out, HR.out]; exact HNO.out, by rw [HS1.out]; exact NB.setG HN.out false zx zy s1 HR.out⟩
            case measure => simp [intOf]; omega
          · have HR : Hid (s1 = ⟨so, sn, sdd, false, sn2, sdd2, sno⟩) := by show _ = _; rw [HE.out]; unfold Num.aboveS; rw [if_neg (by omega), if_neg (by omega), hmk]; simp only; rw [if_neg (by rintro (h | h); cases h; exact hc h)]
            have KL : Hid (∀ w', Calls Tryz.prog 25 #[.agg #[.int .i64 zx, .int .i64 zy], .agg #[.int .i64 sn2, .int .i64 sdd2]] w' fun e w'' => e = .returned (.bool false) ∧ Below w'.heap.size w' w'') := less_is zx zy sn2 sdd2 hzm (Num.hi_den A B k _ _ _ hS.hi rfl).2 false (by simpa using hc)
            clear hc
            clear HE hS hmk hzm HSG
            obtain ⟨p0, p1, _, _⟩ := hN.p.all2
            obtain ⟨q0, q1, _, _⟩ := hN.q.all2
            obtain ⟨r0, r1, r2, rf0, rf1, rf2⟩ := hN.r.all3
            obtain ⟨t0, t1, t2, tf0, tf1, tf2⟩ := hN.t.all3
            obtain ⟨f0, f1, f2, ff0, ff1, ff2⟩ := hN.f.all3
            obtain ⟨g0, g1, g2, gf0, gf1, gf2⟩ := hN.g.all3
            have z5 : w.heap.size + 1 + 1 + 1 + 1 + 1 < wr.heap.size := hN.g.lt
            have z4 : w.heap.size + 1 + 1 + 1 + 1 < wr.heap.size := hN.f.lt
            have z3 : w.heap.size + 1 + 1 + 1 < wr.heap.size := hN.t.lt
            have z2 : w.heap.size + 1 + 1 < wr.heap.size := hN.r.lt
            have z1 : w.heap.size + 1 < wr.heap.size := hN.q.lt
            have z0 : w.heap.size < wr.heap.size := hN.p.lt
            have HN : Hid _ := hN
            clear hN
            go_wp2_with fail
            refine (make_any _ _ _ zx zy 0 HMK.out).mono ?_
            rintro e w1 ⟨rfl, hb1⟩
            have hN := HN.out.step hb1
            clear HN hb1 p0 p1 q0 q1 r0 r1 r2 rf0 rf1 rf2 t0 t1 t2 tf0 tf1 tf2 f0 f1 f2 ff0 ff1 ff2 g0 g1 g2 gf0 gf1 gf2 z0 z1 z2 z3 z4 z5 cn cs
            obtain ⟨p0, p1, _, _⟩ := hN.p.all2
            obtain ⟨q0, q1, _, _⟩ := hN.q.all2
            obtain ⟨r0, r1, r2, rf0, rf1, rf2⟩ := hN.r.all3
            obtain ⟨t0, t1, t2, tf0, tf1, tf2⟩ := hN.t.all3
            obtain ⟨f0, f1, f2, ff0, ff1, ff2⟩ := hN.f.all3
            obtain ⟨g0, g1, g2, gf0, gf1, gf2⟩ := hN.g.all3
            have z5 : w.heap.size + 1 + 1 + 1 + 1 + 1 < w1.heap.size := hN.g.lt
            have z4 : w.heap.size + 1 + 1 + 1 + 1 < w1.heap.size := hN.f.lt
            have z3 : w.heap.size + 1 + 1 + 1 < w1.heap.size := hN.t.lt
            have z2 : w.heap.size + 1 + 1 < w1.heap.size := hN.r.lt
            have z1 : w.heap.size + 1 < w1.heap.size := hN.q.lt
            have z0 : w.heap.size < w1.heap.size := hN.p.lt
            have HN : Hid _ := hN
            clear hN
            go_wp2_with fail
            refine (KL.out _).mono ?_
            rintro e w2 ⟨rfl, hb2⟩
            have hN := (HN.out.step (balloc _ _)).step hb2
            have hT : Bx w1.heap.size [.int .i64 zx, .int .i64 zy] w2 := (Bx.new rfl _ _).step hb2
            obtain ⟨v0, v1, _, _⟩ := hT.all2
            clear HN hb2 hT p0 p1 q0 q1 r0 r1 r2 rf0 rf1 rf2 t0 t1 t2 tf0 tf1 tf2 f0 f1 f2 ff0 ff1 ff2 g0 g1 g2 gf0 gf1 gf2 z0 z1 z2 z3 z4 z5
            obtain ⟨p0, p1, _, _⟩ := hN.p.all2
            obtain ⟨q0, q1, _, _⟩ := hN.q.all2
            obtain ⟨r0, r1, r2, rf0, rf1, rf2⟩ := hN.r.all3
            obtain ⟨t0, t1, t2, tf0, tf1, tf2⟩ := hN.t.all3
            obtain ⟨f0, f1, f2, ff0, ff1, ff2⟩ := hN.f.all3
            obtain ⟨g0, g1, g2, gf0, gf1, gf2⟩ := hN.g.all3
            have z5 : w.heap.size + 1 + 1 + 1 + 1 + 1 < w2.heap.size := hN.g.lt
            have z4 : w.heap.size + 1 + 1 + 1 + 1 < w2.heap.size := hN.f.lt
            have z3 : w.heap.size + 1 + 1 + 1 < w2.heap.size := hN.t.lt
            have z2 : w.heap.size + 1 + 1 < w2.heap.size := hN.r.lt
            have z1 : w.heap.size + 1 < w2.heap.size := hN.q.lt
            have z0 : w.heap.size < w2.heap.size := hN.p.lt
            have HN : Hid _ := hN
            clear hN
            go_wp2_with fail
            go_roundw
            case rel => exact ⟨k + 1, hlt, by go_num, by rw [HS1.out, HR.out]; exact HNO.out, by rw [HS1.out, HR.out]; exact HN.out⟩
            case measure => simp [intOf]; omega
        · have HR : Hid (s1 = ⟨so, sn, sdd, false, zx, zy, sno⟩) := by show _ = _; rw [HE.out]; unfold Num.aboveS; rw [if_neg (by omega), if_neg (by omega), hmk]; simp
          clear HE hS hmk hzm HSG
          obtain ⟨p0, p1, _, _⟩ := hN.p.all2
          obtain ⟨q0, q1, _, _⟩ := hN.q.all2
          obtain ⟨r0, r1, r2, rf0, rf1, rf2⟩ := hN.r.all3
          obtain ⟨t0, t1, t2, tf0, tf1, tf2⟩ := hN.t.all3
          obtain ⟨f0, f1, f2, ff0, ff1, ff2⟩ := hN.f.all3
          obtain ⟨g0, g1, g2, gf0, gf1, gf2⟩ := hN.g.all3
          have z5 : w.heap.size + 1 + 1 + 1 + 1 + 1 < wr.heap.size := hN.g.lt
          have z4 : w.heap.size + 1 + 1 + 1 + 1 < wr.heap.size := hN.f.lt
          have z3 : w.heap.size + 1 + 1 + 1 < wr.heap.size := hN.t.lt
          have z2 : w.heap.size + 1 + 1 < wr.heap.size := hN.r.lt
          have z1 : w.heap.size + 1 < wr.heap.size := hN.q.lt
          have z0 : w.heap.size < wr.heap.size := hN.p.lt
          have HN : Hid _ := hN
          clear hN
          go_wp2_with fail
          refine (make_any _ _ _ zx zy 0 HMK.out).mono ?_
          rintro e w1 ⟨rfl, hb1⟩
          have hN := HN.out.step hb1
          clear HN hb1 p0 p1 q0 q1 r0 r1 r2 rf0 rf1 rf2 t0 t1 t2 tf0 tf1 tf2 f0 f1 f2 ff0 ff1 ff2 g0 g1 g2 gf0 gf1 gf2 z0 z1 z2 z3 z4 z5 cn cs
          obtain ⟨p0, p1, _, _⟩ := hN.p.all2
          obtain ⟨q0, q1, _, _⟩ := hN.q.all2
          obtain ⟨r0, r1, r2, rf0, rf1, rf2⟩ := hN.r.all3
          obtain ⟨t0, t1, t2, tf0, tf1, tf2⟩ := hN.t.all3
          obtain ⟨f0, f1, f2, ff0, ff1, ff2⟩ := hN.f.all3
          obtain ⟨g0, g1, g2, gf0, gf1, gf2⟩ := hN.g.all3
          have z5 : w.heap.size + 1 + 1 + 1 + 1 + 1 < w1.heap.size := hN.g.lt
          have z4 : w.heap.size + 1 + 1 + 1 + 1 < w1.heap.size := hN.f.lt
          have z3 : w.heap.size + 1 + 1 + 1 < w1.heap.size := hN.t.lt
          have z2 : w.heap.size + 1 + 1 < w1.heap.size := hN.r.lt
          have z1 : w.heap.size + 1 < w1.heap.size := hN.q.lt
          have z0 : w.heap.size < w1.heap.size := hN.p.lt
          have HN : Hid _ := hN
          clear hN
          go_wp2_with fail
          go_roundw
          case rel => exact ⟨k + 1, hlt, by go_num, by rw [HS1.out, HR.out]; exact HNO.out, by rw [HS1.out]; exact (NB.setG HN.out false zx zy s1 HR.out).step (balloc _ _)⟩
          case measure => simp [intOf]; omega
    · have hke : k = N := by omega
      subst hke
      have hS := HS.out k (Nat.le_refl _)
      generalize hs0 : Num.spanS A B k = s at HRES HNO hN hS
      clear hs0 HA HB HSM HS HK HI HJ
      obtain ⟨so, sn, sdd, so2, sn2, sdd2, sno⟩ := s
      have hsno : sno = false := HNO.out
      subst hsno
      clear HNO
      cases so
      · cases so2
        · by_cases hc : sn2 * sdd < sn * sdd2
          · have HV : Hid (endsV ⟨false, sn, sdd, false, sn2, sdd2, false⟩ = .tuple #[.agg #[.bool false, .int .i64 0, .int .i64 0], .agg #[.bool false, .int .i64 0, .int .i64 0], .int .i64 4]) := by show _ = _; unfold endsV; rw [if_pos (by unfold Num.emptyS; simp; omega)]
            have KL : Hid (∀ w', Calls Tryz.prog 25 #[.agg #[.int .i64 sn2, .int .i64 sdd2], .agg #[.int .i64 sn, .int .i64 sdd]] w' fun e w'' => e = .returned (.bool true) ∧ Below w'.heap.size w' w'') := less_is sn2 sdd2 sn sdd (Num.hi_den A B k _ _ _ hS.hi rfl).2 (Num.lo_den A B k _ _ _ hS.lo rfl).2 true (by simpa using hc)
            clear hc hS
            obtain ⟨p0, p1, _, _⟩ := hN.p.all2
            obtain ⟨q0, q1, _, _⟩ := hN.q.all2
            obtain ⟨r0, r1, r2, rf0, rf1, rf2⟩ := hN.r.all3
            obtain ⟨t0, t1, t2, tf0, tf1, tf2⟩ := hN.t.all3
            obtain ⟨f0, f1, f2, ff0, ff1, ff2⟩ := hN.f.all3
            obtain ⟨g0, g1, g2, gf0, gf1, gf2⟩ := hN.g.all3
            have z5 : w.heap.size + 1 + 1 + 1 + 1 + 1 < wr.heap.size := hN.g.lt
            have z4 : w.heap.size + 1 + 1 + 1 + 1 < wr.heap.size := hN.f.lt
            have z3 : w.heap.size + 1 + 1 + 1 < wr.heap.size := hN.t.lt
            have z2 : w.heap.size + 1 + 1 < wr.heap.size := hN.r.lt
            have z1 : w.heap.size + 1 < wr.heap.size := hN.q.lt
            have z0 : w.heap.size < wr.heap.size := hN.p.lt
            have HN : Hid _ := hN
            clear hN
            go_wp2_with fail
            refine (KL.out _).mono ?_
            rintro e w2 ⟨rfl, hb2⟩
            have hN := HN.out.step hb2
            clear HN hb2 p0 p1 q0 q1 r0 r1 r2 rf0 rf1 rf2 t0 t1 t2 tf0 tf1 tf2 f0 f1 f2 ff0 ff1 ff2 g0 g1 g2 gf0 gf1 gf2 z0 z1 z2 z3 z4 z5
            obtain ⟨p0, p1, _, _⟩ := hN.p.all2
            obtain ⟨q0, q1, _, _⟩ := hN.q.all2
            obtain ⟨r0, r1, r2, rf0, rf1, rf2⟩ := hN.r.all3
            obtain ⟨t0, t1, t2, tf0, tf1, tf2⟩ := hN.t.all3
            obtain ⟨f0, f1, f2, ff0, ff1, ff2⟩ := hN.f.all3
            obtain ⟨g0, g1, g2, gf0, gf1, gf2⟩ := hN.g.all3
            have z5 : w.heap.size + 1 + 1 + 1 + 1 + 1 < w2.heap.size := hN.g.lt
            have z4 : w.heap.size + 1 + 1 + 1 + 1 < w2.heap.size := hN.f.lt
            have z3 : w.heap.size + 1 + 1 + 1 < w2.heap.size := hN.t.lt
            have z2 : w.heap.size + 1 + 1 < w2.heap.size := hN.r.lt
            have z1 : w.heap.size + 1 < w2.heap.size := hN.q.lt
            have z0 : w.heap.size < w2.heap.size := hN.p.lt
            have HN : Hid _ := hN
            clear hN
            go_wp2_with fail
            generalize hX : ((((((w2).setCell ⟨w.heap.size + 1 + 1, 0, none⟩ (.bool false)).setCell ⟨w.heap.size + 1 + 1, 1, none⟩ (.int .i64 0)).setCell ⟨w.heap.size + 1 + 1, 2, none⟩ (.int .i64 0)).setCell ⟨w.heap.size + 1 + 1 + 1, 0, none⟩ (.bool false)).setCell ⟨w.heap.size + 1 + 1 + 1, 1, none⟩ (.int .i64 0)).setCell ⟨w.heap.size + 1 + 1 + 1, 2, none⟩ (.int .i64 0) = X
            have hX2 : Bx (w.heap.size + 1 + 1) [.bool false, .int .i64 0, .int .i64 0] X := by rw [← hX]; exact (HN.out.r.set3 _ _ _).other3 (by omega) _ _ _
            have hX3 : Bx (w.heap.size + 1 + 1 + 1) [.bool false, .int .i64 0, .int .i64 0] X := by rw [← hX]; exact (HN.out.t.other3 (by omega) _ _ _).set3 _ _ _
            have hXB : Below w.heap.size w X := by rw [← hX]; exact bset3 (bset3 HN.out.bel (by omega) _ _ _) (by omega) _ _ _
            obtain ⟨x0, x1, x2, _⟩ := hX2.all3
            obtain ⟨y0, y1, y2, _⟩ := hX3.all3
            exact bodyPost_ret (v := .tuple #[.agg #[.bool false, .int .i64 0, .int .i64 0], .agg #[.bool false, .int .i64 0, .int .i64 0], .int .i64 4]) (by simp [results, Tryz.results38, go_sem, x0, x1, x2, y0, y1, y2]) rfl ⟨congrArg Ending.returned (HV.out.symm.trans HRES.out), hXB⟩
          · have HV : Hid (endsV ⟨false, sn, sdd, false, sn2, sdd2, false⟩ = .tuple #[.agg #[.bool false, .int .i64 sn, .int .i64 sdd], .agg #[.bool false, .int .i64 sn2, .int .i64 sdd2], .int .i64 0]) := by show _ = _; unfold endsV; rw [if_neg (by unfold Num.emptyS; simp; omega)]
            have KL : Hid (∀ w', Calls Tryz.prog 25 #[.agg #[.int .i64 sn2, .int .i64 sdd2], .agg #[.int .i64 sn, .int .i64 sdd]] w' fun e w'' => e = .returned (.bool false) ∧ Below w'.heap.size w' w'') := less_is sn2 sdd2 sn sdd (Num.hi_den A B k _ _ _ hS.hi rfl).2 (Num.lo_den A B k _ _ _ hS.lo rfl).2 false (by simpa using hc)
            clear hc hS
            obtain ⟨p0, p1, _, _⟩ := hN.p.all2
            obtain ⟨q0, q1, _, _⟩ := hN.q.all2
            obtain ⟨r0, r1, r2, rf0, rf1, rf2⟩ := hN.r.all3
            obtain ⟨t0, t1, t2, tf0, tf1, tf2⟩ := hN.t.all3
            obtain ⟨f0, f1, f2, ff0, ff1, ff2⟩ := hN.f.all3
            obtain ⟨g0, g1, g2, gf0, gf1, gf2⟩ := hN.g.all3
            have z5 : w.heap.size + 1 + 1 + 1 + 1 + 1 < wr.heap.size := hN.g.lt
            have z4 : w.heap.size + 1 + 1 + 1 + 1 < wr.heap.size := hN.f.lt
            have z3 : w.heap.size + 1 + 1 + 1 < wr.heap.size := hN.t.lt
            have z2 : w.heap.size + 1 + 1 < wr.heap.size := hN.r.lt
            have z1 : w.heap.size + 1 < wr.heap.size := hN.q.lt
            have z0 : w.heap.size < wr.heap.size := hN.p.lt
            have HN : Hid _ := hN
            clear hN
            go_wp2_with fail
            refine (KL.out _).mono ?_
            rintro e w2 ⟨rfl, hb2⟩
            have hN := HN.out.step hb2
            clear HN hb2 p0 p1 q0 q1 r0 r1 r2 rf0 rf1 rf2 t0 t1 t2 tf0 tf1 tf2 f0 f1 f2 ff0 ff1 ff2 g0 g1 g2 gf0 gf1 gf2 z0 z1 z2 z3 z4 z5
            obtain ⟨p0, p1, _, _⟩ := hN.p.all2
            obtain ⟨q0, q1, _, _⟩ := hN.q.all2
            obtain ⟨r0, r1, r2, rf0, rf1, rf2⟩ := hN.r.all3
            obtain ⟨t0, t1, t2, tf0, tf1, tf2⟩ := hN.t.all3
            obtain ⟨f0, f1, f2, ff0, ff1, ff2⟩ := hN.f.all3
            obtain ⟨g0, g1, g2, gf0, gf1, gf2⟩ := hN.g.all3
            have z5 : w.heap.size + 1 + 1 + 1 + 1 + 1 < w2.heap.size := hN.g.lt
            have z4 : w.heap.size + 1 + 1 + 1 + 1 < w2.heap.size := hN.f.lt
            have z3 : w.heap.size + 1 + 1 + 1 < w2.heap.size := hN.t.lt
            have z2 : w.heap.size + 1 + 1 < w2.heap.size := hN.r.lt
            have z1 : w.heap.size + 1 < w2.heap.size := hN.q.lt
            have z0 : w.heap.size < w2.heap.size := hN.p.lt
            have HN : Hid _ := hN
            clear hN
            go_wp2_with fail
            go_region
            go_wp2_with fail
            generalize hX : ((((((w2.setCell ⟨w.heap.size + 1 + 1, 0, none⟩ (.bool false)).setCell ⟨w.heap.size + 1 + 1, 1, none⟩ (.int .i64 sn)).setCell ⟨w.heap.size + 1 + 1, 2, none⟩ (.int .i64 sdd)).setCell ⟨w.heap.size + 1 + 1 + 1, 0, none⟩ (.bool false)).setCell ⟨w.heap.size + 1 + 1 + 1, 1, none⟩ (.int .i64 sn2)).setCell ⟨w.heap.size + 1 + 1 + 1, 2, none⟩ (.int .i64 sdd2)).drew = X
            have hX2 : Bx (w.heap.size + 1 + 1) [.bool false, .int .i64 sn, .int .i64 sdd] X := by rw [← hX]; exact ((HN.out.r.set3 _ _ _).other3 (by omega) _ _ _).step (Below.refl _ _).drew
            have hX3 : Bx (w.heap.size + 1 + 1 + 1) [.bool false, .int .i64 sn2, .int .i64 sdd2] X := by rw [← hX]; exact ((HN.out.t.other3 (by omega) _ _ _).set3 _ _ _).step (Below.refl _ _).drew
            have hXB : Below w.heap.size w X := by rw [← hX]; exact (bset3 (bset3 HN.out.bel (by omega) _ _ _) (by omega) _ _ _).drew
            obtain ⟨x0, x1, x2, _⟩ := hX2.all3
            obtain ⟨y0, y1, y2, _⟩ := hX3.all3
            exact bodyPost_ret (v := .tuple #[.agg #[.bool false, .int .i64 sn, .int .i64 sdd], .agg #[.bool false, .int .i64 sn2, .int .i64 sdd2], .int .i64 0]) (by simp [results, Tryz.results38, go_sem, x0, x1, x2, y0, y1, y2]) rfl ⟨congrArg Ending.returned (HV.out.symm.trans HRES.out), hXB⟩
        · have HV : Hid (endsV ⟨false, sn, sdd, true, sn2, sdd2, false⟩ = .tuple #[.agg #[.bool false, .int .i64 sn, .int .i64 sdd], .agg #[.bool true, .int .i64 sn2, .int .i64 sdd2], .int .i64 0]) := by show _ = _; unfold endsV; rw [if_neg (by unfold Num.emptyS; simp)]
          obtain ⟨p0, p1, _, _⟩ := hN.p.all2
          obtain ⟨q0, q1, _, _⟩ := hN.q.all2
          obtain ⟨r0, r1, r2, rf0, rf1, rf2⟩ := hN.r.all3
          obtain ⟨t0, t1, t2, tf0, tf1, tf2⟩ := hN.t.all3
          obtain ⟨f0, f1, f2, ff0, ff1, ff2⟩ := hN.f.all3
          obtain ⟨g0, g1, g2, gf0, gf1, gf2⟩ := hN.g.all3
          have z5 : w.heap.size + 1 + 1 + 1 + 1 + 1 < wr.heap.size := hN.g.lt
          have z4 : w.heap.size + 1 + 1 + 1 + 1 < wr.heap.size := hN.f.lt
          have z3 : w.heap.size + 1 + 1 + 1 < wr.heap.size := hN.t.lt
          have z2 : w.heap.size + 1 + 1 < wr.heap.size := hN.r.lt
          have z1 : w.heap.size + 1 < wr.heap.size := hN.q.lt
          have z0 : w.heap.size < wr.heap.size := hN.p.lt
          have HN : Hid _ := hN
          clear hN
          go_wp2_with fail
          go_region
          go_wp2_with fail
          generalize hX : ((((((wr.setCell ⟨w.heap.size + 1 + 1, 0, none⟩ (.bool false)).setCell ⟨w.heap.size + 1 + 1, 1, none⟩ (.int .i64 sn)).setCell ⟨w.heap.size + 1 + 1, 2, none⟩ (.int .i64 sdd)).setCell ⟨w.heap.size + 1 + 1 + 1, 0, none⟩ (.bool true)).setCell ⟨w.heap.size + 1 + 1 + 1, 1, none⟩ (.int .i64 sn2)).setCell ⟨w.heap.size + 1 + 1 + 1, 2, none⟩ (.int .i64 sdd2)).drew = X
          have hX2 : Bx (w.heap.size + 1 + 1) [.bool false, .int .i64 sn, .int .i64 sdd] X := by rw [← hX]; exact ((HN.out.r.set3 _ _ _).other3 (by omega) _ _ _).step (Below.refl _ _).drew
          have hX3 : Bx (w.heap.size + 1 + 1 + 1) [.bool true, .int .i64 sn2, .int .i64 sdd2] X := by rw [← hX]; exact ((HN.out.t.other3 (by omega) _ _ _).set3 _ _ _).step (Below.refl _ _).drew
          have hXB : Below w.heap.size w X := by rw [← hX]; exact (bset3 (bset3 HN.out.bel (by omega) _ _ _) (by omega) _ _ _).drew
          obtain ⟨x0, x1, x2, _⟩ := hX2.all3
          obtain ⟨y0, y1, y2, _⟩ := hX3.all3
          exact bodyPost_ret (v := .tuple #[.agg #[.bool false, .int .i64 sn, .int .i64 sdd], .agg #[.bool true, .int .i64 sn2, .int .i64 sdd2], .int .i64 0]) (by simp [results, Tryz.results38, go_sem, x0, x1, x2, y0, y1, y2]) rfl ⟨congrArg Ending.returned (HV.out.symm.trans HRES.out), hXB⟩
      · have HV : Hid (endsV ⟨true, sn, sdd, so2, sn2, sdd2, false⟩ = .tuple #[.agg #[.bool true, .int .i64 sn, .int .i64 sdd], .agg #[.bool so2, .int .i64 sn2, .int .i64 sdd2], .int .i64 0]) := by show _ = _; unfold endsV; rw [if_neg (by unfold Num.emptyS; simp)]
        obtain ⟨p0, p1, _, _⟩ := hN.p.all2
        obtain ⟨q0, q1, _, _⟩ := hN.q.all2
        obtain ⟨r0, r1, r2, rf0, rf1, rf2⟩ := hN.r.all3
        obtain ⟨t0, t1, t2, tf0, tf1, tf2⟩ := hN.t.all3
        obtain ⟨f0, f1, f2, ff0, ff1, ff2⟩ := hN.f.all3
        obtain ⟨g0, g1, g2, gf0, gf1, gf2⟩ := hN.g.all3
        have z5 : w.heap.size + 1 + 1 + 1 + 1 + 1 < wr.heap.size := hN.g.lt
        have z4 : w.heap.size + 1 + 1 + 1 + 1 < wr.heap.size := hN.f.lt
        have z3 : w.heap.size + 1 + 1 + 1 < wr.heap.size := hN.t.lt
        have z2 : w.heap.size + 1 + 1 < wr.heap.size := hN.r.lt
        have z1 : w.heap.size + 1 < wr.heap.size := hN.q.lt
        have z0 : w.heap.size < wr.heap.size := hN.p.lt
        have HN : Hid _ := hN
        clear hN
        go_wp2_with fail
        go_region
        go_wp2_with fail
        generalize hX : ((((((wr.setCell ⟨w.heap.size + 1 + 1, 0, none⟩ (.bool true)).setCell ⟨w.heap.size + 1 + 1, 1, none⟩ (.int .i64 sn)).setCell ⟨w.heap.size + 1 + 1, 2, none⟩ (.int .i64 sdd)).setCell ⟨w.heap.size + 1 + 1 + 1, 0, none⟩ (.bool so2)).setCell ⟨w.heap.size + 1 + 1 + 1, 1, none⟩ (.int .i64 sn2)).setCell ⟨w.heap.size + 1 + 1 + 1, 2, none⟩ (.int .i64 sdd2)).drew = X
        have hX2 : Bx (w.heap.size + 1 + 1) [.bool true, .int .i64 sn, .int .i64 sdd] X := by rw [← hX]; exact ((HN.out.r.set3 _ _ _).other3 (by omega) _ _ _).step (Below.refl _ _).drew
        have hX3 : Bx (w.heap.size + 1 + 1 + 1) [.bool so2, .int .i64 sn2, .int .i64 sdd2] X := by rw [← hX]; exact ((HN.out.t.other3 (by omega) _ _ _).set3 _ _ _).step (Below.refl _ _).drew
        have hXB : Below w.heap.size w X := by rw [← hX]; exact (bset3 (bset3 HN.out.bel (by omega) _ _ _) (by omega) _ _ _).drew
        obtain ⟨x0, x1, x2, _⟩ := hX2.all3
        obtain ⟨y0, y1, y2, _⟩ := hX3.all3
        exact bodyPost_ret (v := .tuple #[.agg #[.bool true, .int .i64 sn, .int .i64 sdd], .agg #[.bool so2, .int .i64 sn2, .int .i64 sdd2], .int .i64 0]) (by simp [results, Tryz.results38, go_sem, x0, x1, x2, y0, y1, y2]) rfl ⟨congrArg Ending.returned (HV.out.symm.trans HRES.out), hXB⟩
end Go.Proofs.YtipcbhodlgoflabGreat

/- Spans of costs and of mosts: what is known of the numbers, and what the walk keeps. -/
namespace Go.Proofs.YtipcbhodlgoflabGreat
open Go.RowKit

theorem Num.spanS_congr (a b a' b' : Nat → Int) (N : Nat) (h : ∀ j, j < N → a j = a' j ∧ b j = b' j) : Num.spanS a b N = Num.spanS a' b' N := by
  induction N with
  | zero => rfl
  | succ N ih =>
    show Num.aboveS (Num.spanS a b N) (a N) (b N) = Num.aboveS (Num.spanS a' b' N) (a' N) (b' N)
    rw [ih (fun j hj => h j (by omega)), (h N (by omega)).1, (h N (by omega)).2]

theorem endsV_form (s : Num.Spn) : ∃ (o : Bool) (n d : Int) (o2 : Bool) (n2 d2 er : Int), endsV s = .tuple #[.agg #[.bool o, .int .i64 n, .int .i64 d], .agg #[.bool o2, .int .i64 n2, .int .i64 d2], .int .i64 er] := by
  unfold endsV
  split
  · exact ⟨_, _, _, _, _, _, _, rfl⟩
  · exact ⟨_, _, _, _, _, _, _, rfl⟩

/-- What is told where something is wrong. -/
def wrongV (er : Int) : Value := .tuple #[.agg #[.bool false, .int .i64 0, .int .i64 0], .agg #[.bool false, .int .i64 0, .int .i64 0], .int .i64 er]

/-- The span of costs. -/
def Num.costsN (p : Num.Lp) (at' y : List Int) : Num.Spn := Num.spanS (fun j => 0 - (Num.look p at').g[j]?.getD 0 * (Num.look (Num.withC p y) at').gd) (fun j => 0 - (Num.look (Num.withC p y) at').g[j]?.getD 0 * (Num.look p at').gd) (p.costs.length + p.rows.length)

def costsV (p : Num.Lp) (at' y : List Int) : Value := if (Num.look p at').err ≠ 0 then wrongV (Num.look p at').err else if y.length = p.costs.length ∧ Num.withinB 400 y = true then endsV (Num.costsN p at' y) else wrongV 1

/-- Where a look tells a corner, all is right. -/
theorem Num.look_ok_of (p : Num.Lp) (at' : List Int) (h : (Num.look p at').err = 0) : p.may = true ∧ Num.rightB at' p.rows.length (p.costs.length + p.rows.length) = true ∧ Num.denL p at' p.rows.length ≠ 0 := by
  cases hm : p.may with
  | false => rw [Num.look_form p at' hm] at h; exact absurd h (by decide)
  | true =>
    cases hr : Num.rightB at' p.rows.length (p.costs.length + p.rows.length) with
    | false => rw [Num.look_range p at' hm hr] at h; exact absurd h (by decide)
    | true =>
      by_cases hd : Num.denL p at' p.rows.length = 0
      · rw [Num.look_none p at' hm hr hd] at h; exact absurd h (by decide)
      · exact ⟨rfl, rfl, hd⟩

theorem Bx.other6 {b g : Nat} {vs : List Value} {w : World} (h : Bx b vs w) (hne : b ≠ g) (u0 u1 u2 u3 u4 u5 : Value) : Bx b vs ((((((w.setCell ⟨g, 0, none⟩ u0).setCell ⟨g, 1, none⟩ u1).setCell ⟨g, 2, none⟩ u2).setCell ⟨g, 3, none⟩ u3).setCell ⟨g, 4, none⟩ u4).setCell ⟨g, 5, none⟩ u5) :=
  (((((h.other hne 0 u0).other hne 1 u1).other hne 2 u2).other hne 3 u3).other hne 4 u4).other hne 5 u5

theorem Ints.setFar {w : World} {a : Option Addr} {n b j B : Nat} {l : List Int} (h : Ints w a n l) (hf : n = 0 ∨ ∃ g, a = some ⟨g, 0, none⟩ ∧ B ≤ g) (hb : b < B) (u : Value) : Ints (w.setCell ⟨b, j, none⟩ u) a n l := by
  refine ⟨h.1, ?_⟩
  rcases h.2 with h0 | ⟨b', off, e, hlt, hc⟩
  · exact Or.inl h0
  · rcases hf with h0 | ⟨g, e2, hg⟩
    · exact Or.inl h0
    · rw [e] at e2
      simp only [Option.some.injEq, Addr.mk.injEq] at e2
      refine Or.inr ⟨b', off, e, by simpa using hlt, fun k hk => ?_⟩
      rw [World.cell?_setCell_other _ _ _ _ (fun e => by injection e with e1; omega)]
      exact hc k hk

/-- What the last steps of span.Costs keep. -/
structure CS (w : World) (b9 b11 : Nat) (ga ga2 : Option Addr) (N gc gc2 : Nat) (dg dg2 : Int) (lg lg2 : List Int) (v : World) : Prop where
  bel : Below w.heap.size w v
  a4 : v.cell? ⟨b9, 4, none⟩ = some (.slice ga N gc)
  a5 : v.cell? ⟨b9, 5, none⟩ = some (.int .i64 dg)
  d4 : v.cell? ⟨b11, 4, none⟩ = some (.slice ga2 N gc2)
  d5 : v.cell? ⟨b11, 5, none⟩ = some (.int .i64 dg2)
  i9 : Ints v ga N lg
  i11 : Ints v ga2 N lg2
  r : ∃ x0 x1 x2, Bx (w.heap.size + 1) [x0, x1, x2] v
  t : ∃ x0 x1 x2, Bx (w.heap.size + 1 + 1) [x0, x1, x2] v
  h9 : w.heap.size + 1 + 1 + 1 ≤ b9
  h11 : w.heap.size + 1 + 1 + 1 ≤ b11
  hg : N = 0 ∨ ∃ g, ga = some ⟨g, 0, none⟩ ∧ w.heap.size + 1 + 1 + 1 ≤ g
  hg2 : N = 0 ∨ ∃ g, ga2 = some ⟨g, 0, none⟩ ∧ w.heap.size + 1 + 1 + 1 ≤ g

theorem CS.step {w : World} {b9 b11 : Nat} {ga ga2 : Option Addr} {N gc gc2 : Nat} {dg dg2 : Int} {lg lg2 : List Int} {v v' : World} (h : CS w b9 b11 ga ga2 N gc gc2 dg dg2 lg lg2 v) (hb : Below v.heap.size v v') : CS w b9 b11 ga ga2 N gc gc2 dg dg2 lg lg2 v' := by
  obtain ⟨x0, x1, x2, hr⟩ := h.r
  obtain ⟨y0, y1, y2, ht⟩ := h.t
  exact ⟨bstep h.bel hb, carry hb h.a4, carry hb h.a5, carry hb h.d4, carry hb h.d5, h.i9.below hb (Nat.le_refl _), h.i11.below hb (Nat.le_refl _), ⟨x0, x1, x2, hr.step hb⟩, ⟨y0, y1, y2, ht.step hb⟩, h.h9, h.h11, h.hg, h.hg2⟩

theorem cell_far {v : World} {b g i j : Nat} {u : Value} (h : b ≠ g) : (v.setCell ⟨g, j, none⟩ u).cell? ⟨b, i, none⟩ = v.cell? ⟨b, i, none⟩ := World.cell?_setCell_other _ _ _ _ (fun e => h (by injection e with e1; first | exact e1 | exact e1.symm))

theorem CS.set {w : World} {b9 b11 : Nat} {ga ga2 : Option Addr} {N gc gc2 : Nat} {dg dg2 : Int} {lg lg2 : List Int} {v : World} (h : CS w b9 b11 ga ga2 N gc gc2 dg dg2 lg lg2 v) (q i : Nat) (hq : q = w.heap.size + 1 ∨ q = w.heap.size + 1 + 1) (hi : i < 3) (u : Value) : CS w b9 b11 ga ga2 N gc gc2 dg dg2 lg lg2 (v.setCell ⟨q, i, none⟩ u) := by
  obtain ⟨x0, x1, x2, hr⟩ := h.r
  obtain ⟨y0, y1, y2, ht⟩ := h.t
  have h9 := h.h9
  have h11 := h.h11
  refine ⟨bset h.bel (by omega) _, by rw [cell_far (by omega)]; exact h.a4, by rw [cell_far (by omega)]; exact h.a5, by rw [cell_far (by omega)]; exact h.d4, by rw [cell_far (by omega)]; exact h.d5, h.i9.setFar h.hg (by omega) _, h.i11.setFar h.hg2 (by omega) _, ?_, ?_, h9, h11, h.hg, h.hg2⟩
  · rcases hq with rfl | rfl
    · match i, hi with
      | 0, _ => exact ⟨u, x1, x2, hr.set 0 u⟩
      | 1, _ => exact ⟨x0, u, x2, hr.set 1 u⟩
      | 2, _ => exact ⟨x0, x1, u, hr.set 2 u⟩
    · exact ⟨x0, x1, x2, hr.other (by omega) _ _⟩
  · rcases hq with rfl | rfl
    · exact ⟨y0, y1, y2, ht.other (by omega) _ _⟩
    · match i, hi with
      | 0, _ => exact ⟨u, y1, y2, ht.set 0 u⟩
      | 1, _ => exact ⟨y0, u, y2, ht.set 1 u⟩
      | 2, _ => exact ⟨y0, y1, u, ht.set 2 u⟩

theorem CS.set3r {w : World} {b9 b11 : Nat} {ga ga2 : Option Addr} {N gc gc2 : Nat} {dg dg2 : Int} {lg lg2 : List Int} {v : World} (h : CS w b9 b11 ga ga2 N gc gc2 dg dg2 lg lg2 v) (u0 u1 u2 : Value) : CS w b9 b11 ga ga2 N gc gc2 dg dg2 lg lg2 (((v.setCell ⟨w.heap.size + 1, 0, none⟩ u0).setCell ⟨w.heap.size + 1, 1, none⟩ u1).setCell ⟨w.heap.size + 1, 2, none⟩ u2) :=
  ((h.set _ 0 (Or.inl rfl) (by decide) u0).set _ 1 (Or.inl rfl) (by decide) u1).set _ 2 (Or.inl rfl) (by decide) u2

theorem CS.set3t {w : World} {b9 b11 : Nat} {ga ga2 : Option Addr} {N gc gc2 : Nat} {dg dg2 : Int} {lg lg2 : List Int} {v : World} (h : CS w b9 b11 ga ga2 N gc gc2 dg dg2 lg lg2 v) (u0 u1 u2 : Value) : CS w b9 b11 ga ga2 N gc gc2 dg dg2 lg lg2 (((v.setCell ⟨w.heap.size + 1 + 1, 0, none⟩ u0).setCell ⟨w.heap.size + 1 + 1, 1, none⟩ u1).setCell ⟨w.heap.size + 1 + 1, 2, none⟩ u2) :=
  ((h.set _ 0 (Or.inr rfl) (by decide) u0).set _ 1 (Or.inr rfl) (by decide) u1).set _ 2 (Or.inr rfl) (by decide) u2

theorem CS.cells {w : World} {b9 b11 : Nat} {ga ga2 : Option Addr} {N gc gc2 : Nat} {dg dg2 : Int} {lg lg2 : List Int} : ∃ F0 F1 F2 G0 G1 G2 : World → Value,
    ((∀ v, CS w b9 b11 ga ga2 N gc gc2 dg dg2 lg lg2 v → v.cell? ⟨w.heap.size + 1, 0, none⟩ = some (F0 v)) ∧ (∀ v, CS w b9 b11 ga ga2 N gc gc2 dg dg2 lg lg2 v → v.cell? ⟨w.heap.size + 1, 1, none⟩ = some (F1 v)) ∧ (∀ v, CS w b9 b11 ga ga2 N gc gc2 dg dg2 lg lg2 v → v.cell? ⟨w.heap.size + 1, 2, none⟩ = some (F2 v))) ∧
    ((∀ v, CS w b9 b11 ga ga2 N gc gc2 dg dg2 lg lg2 v → v.cell? ⟨w.heap.size + 1 + 1, 0, none⟩ = some (G0 v)) ∧ (∀ v, CS w b9 b11 ga ga2 N gc gc2 dg dg2 lg lg2 v → v.cell? ⟨w.heap.size + 1 + 1, 1, none⟩ = some (G1 v)) ∧ (∀ v, CS w b9 b11 ga ga2 N gc gc2 dg dg2 lg lg2 v → v.cell? ⟨w.heap.size + 1 + 1, 2, none⟩ = some (G2 v))) := by
  refine ⟨fun v => (v.cell? ⟨w.heap.size + 1, 0, none⟩).getD undef, fun v => (v.cell? ⟨w.heap.size + 1, 1, none⟩).getD undef, fun v => (v.cell? ⟨w.heap.size + 1, 2, none⟩).getD undef, fun v => (v.cell? ⟨w.heap.size + 1 + 1, 0, none⟩).getD undef, fun v => (v.cell? ⟨w.heap.size + 1 + 1, 1, none⟩).getD undef, fun v => (v.cell? ⟨w.heap.size + 1 + 1, 2, none⟩).getD undef, ⟨?_, ?_, ?_⟩, ?_, ?_, ?_⟩
  · intro v h; obtain ⟨x0, x1, x2, hr⟩ := h.r; simp only [hr.c 0 _ rfl, Option.getD_some]
  · intro v h; obtain ⟨x0, x1, x2, hr⟩ := h.r; simp only [hr.c 1 _ rfl, Option.getD_some]
  · intro v h; obtain ⟨x0, x1, x2, hr⟩ := h.r; simp only [hr.c 2 _ rfl, Option.getD_some]
  · intro v h; obtain ⟨x0, x1, x2, hr⟩ := h.t; simp only [hr.c 0 _ rfl, Option.getD_some]
  · intro v h; obtain ⟨x0, x1, x2, hr⟩ := h.t; simp only [hr.c 1 _ rfl, Option.getD_some]
  · intro v h; obtain ⟨x0, x1, x2, hr⟩ := h.t; simp only [hr.c 2 _ rfl, Option.getD_some]

theorem Num.costs_parts (p : Num.Lp) (at' y : List Int) (h : p.may = true ∧ Num.rightB at' p.rows.length (p.costs.length + p.rows.length) = true ∧ Num.denL p at' p.rows.length ≠ 0) (hly : y.length = p.costs.length) (hw : Num.withinB 400 y = true) (N : Nat) (hN : N = p.costs.length + p.rows.length) :
    (Num.look p at').g.length = N ∧ (Num.look (Num.withC p y) at').g.length = N ∧ (∀ j : Nat, -1073741824 ≤ (Num.look p at').g[j]?.getD 0 ∧ (Num.look p at').g[j]?.getD 0 ≤ 1073741824) ∧ (∀ j : Nat, -1073741824 ≤ (Num.look (Num.withC p y) at').g[j]?.getD 0 ∧ (Num.look (Num.withC p y) at').g[j]?.getD 0 ≤ 1073741824) ∧
    NBn N ((List.range N).map fun k => -((Num.look p at').g[k]?.getD 0)) ((List.range N).map fun k => -((Num.look (Num.withC p y) at').g[k]?.getD 0)) (Num.look p at').gd (Num.look (Num.withC p y) at').gd ∧
    Num.spanS (fun j => ((List.range N).map fun k => -((Num.look p at').g[k]?.getD 0))[j]?.getD 0 * (Num.look (Num.withC p y) at').gd) (fun j => ((List.range N).map fun k => -((Num.look (Num.withC p y) at').g[k]?.getD 0))[j]?.getD 0 * (Num.look p at').gd) N = Num.costsN p at' y := by
  obtain ⟨hm, hr, hd⟩ := h
  have hm2 := Num.withC_may p y hly hm hw
  have hd2 : Num.denL (Num.withC p y) at' p.rows.length ≠ 0 := by rw [Num.withC_den p y hly]; exact hd
  obtain ⟨_, l1, d1, b1, _⟩ := Num.look_gain p at' p.rows.length p.costs.length hm rfl rfl hr hd
  obtain ⟨_, l2, d2, b2, _⟩ := Num.look_gain (Num.withC p y) at' p.rows.length p.costs.length hm2 rfl hly.symm hr hd2
  have sp := (Num.costs_span p p.costs y at' p.rows.length p.costs.length rfl rfl rfl hly hm hm2 hr hd).1
  rw [Num.withC_self] at sp
  have key : ∀ (l : List Int) (e : Int) (j : Nat), j < N → ((List.range N).map fun k => -(l[k]?.getD 0))[j]?.getD 0 * e = 0 - l[j]?.getD 0 * e := by
    intro l e j hj
    rw [Num.range_getD, if_pos hj, Int.neg_mul, Int.zero_sub]
  have neg : ∀ (l : List Int), (∀ j : Nat, -1073741824 ≤ l[j]?.getD 0 ∧ l[j]?.getD 0 ≤ 1073741824) → ∀ j : Nat, -1073741824 ≤ ((List.range N).map fun k => -(l[k]?.getD 0))[j]?.getD 0 ∧ ((List.range N).map fun k => -(l[k]?.getD 0))[j]?.getD 0 ≤ 1073741824 := by
    intro l hl j
    rw [Num.range_getD]
    have := hl j
    split <;> omega
  have h1 := (p.may_of hm).1.2
  have h2 := (p.may_of hm).2.2.1.2
  refine ⟨by rw [l1, hN], by rw [l2, hN], b1, b2, ⟨by omega, neg _ b1, neg _ b2, by omega, by omega, fun j hj => ?_⟩, ?_⟩
  · rw [key _ _ j hj, key _ _ j hj]
    exact sp j
  · unfold Num.costsN
    rw [← hN]
    exact Num.spanS_congr _ _ _ _ N fun j hj => ⟨key _ _ j hj, key _ _ j hj⟩

end Go.Proofs.YtipcbhodlgoflabGreat

/- What span.Costs does. -/
namespace Go.Proofs.YtipcbhodlgoflabGreat
open Go.RowKit

set_option maxHeartbeats 1600000 in
theorem spanCosts_any (ca : Option Addr) (cl cc : Nat) (ra : Option Addr) (rl rc : Nat) (p : Num.Lp) (w : World) (hc : Ints w ca cl p.costs) (hcl : cl ≤ 9223372036854775807) (hr : RowsAt w ra rl p.rows) (hrl : rl ≤ 9223372036854775807)
    (aa : Option Addr) (al ac : Nat) (at' : List Int) (ha : Ints w aa al at') (hal : al ≤ 9223372036854775807) (ba : Option Addr) (bl bc : Nat) (y : List Int) (hy : Ints w ba bl y) (hbl : bl ≤ 9223372036854775807) :
    Calls Tryz.prog 20 #[.agg #[.slice ca cl cc, .slice ra rl rc], .slice aa al ac, .slice ba bl bc] w fun e w' => e = .returned (costsV p at' y) ∧ Below w.heap.size w w' := by
  have HC : Hid (Ints w ca cl p.costs) := hc
  have HRo : Hid (RowsAt w ra rl p.rows) := hr
  have HA : Hid (Ints w aa al at') := ha
  have HY : Hid (Ints w ba bl y) := hy
  have HLB : Hid (bl = y.length) := hy.1
  have HLC : Hid (cl = p.costs.length) := hc.1
  have HLR : Hid (rl = p.rows.length) := hr.1
  clear hc hr ha hy
  generalize hv : costsV p at' y = res
  have HV0 : Hid (costsV p at' y = res) := hv
  clear hv
  have HB0 : Hid (Below w.heap.size w (((w.alloc (.cells #[.slice ca cl cc, .slice ra rl rc] 25)).alloc (.cells #[.bool false, .int .i64 0, .int .i64 0] 45)).alloc (.cells #[.bool false, .int .i64 0, .int .i64 0] 45))) := bstep (bstep (balloc _ _) (balloc _ _)) (balloc _ _)
  go_enter Tryz.func20, Tryz.ntmps20
  go_wp2_with fail
  refine (look_new _ _ _ _ _ _ p _ (Ints.below HC.out HB0.out (Nat.le_refl _)) hcl (RowsAt.below HRo.out HB0.out (Nat.le_refl _)) hrl _ _ _ at' (Ints.below HA.out HB0.out (Nat.le_refl _)) hal).mono ?_
  rintro e w1 ⟨xa, xl, xc, ya, yl, yc, ga, gl, gc, rfl, hx, _, hg, hxl, _, hgl, hb1, _, hnew⟩
  have HP : Hid (Bx (w.heap.size) [.slice ca cl cc, .slice ra rl rc] w1) := (((Bx.new rfl _ _).step (balloc _ _)).step (balloc _ _)).step hb1
  have HR : Hid (Bx (w.heap.size + 1) [.bool false, .int .i64 0, .int .i64 0] w1) := ((Bx.new (by simp) _ _).step (balloc _ _)).step hb1
  have HT : Hid (Bx (w.heap.size + 1 + 1) [.bool false, .int .i64 0, .int .i64 0] w1) := (Bx.new (by simp) _ _).step hb1
  have HB : Hid (Below w.heap.size w w1) := bstep HB0.out hb1
  have HG : Hid (Ints w1 ga gl (Num.look p at').g) := hg
  have HNEW : Hid (gl = 0 ∨ ∃ g, ga = some ⟨g, 0, none⟩ ∧ w.heap.size + 1 + 1 + 1 ≤ g) := by show _ ∨ _; have h := hnew.g; simpa using h
  clear hb1 hx hg hnew HB0
  obtain ⟨p0, p1, _, _⟩ := HP.out.all2
  obtain ⟨r0, r1, r2, rf0, rf1, rf2⟩ := HR.out.all3
  obtain ⟨t0, t1, t2, tf0, tf1, tf2⟩ := HT.out.all3
  have z0 : w.heap.size < w1.heap.size := HP.out.lt
  have z1 : w.heap.size + 1 < w1.heap.size := HR.out.lt
  have z2 : w.heap.size + 1 + 1 < w1.heap.size := HT.out.lt
  have HOK : Hid ((Num.look p at').err = 0 → p.may = true ∧ Num.rightB at' p.rows.length (p.costs.length + p.rows.length) = true ∧ Num.denL p at' p.rows.length ≠ 0) := Num.look_ok_of p at'
  have HER : Hid ((Num.look p at').err ≠ 0 → wrongV (Num.look p at').err = res) := by
    intro h; rw [← HV0.out]; unfold costsV; rw [if_pos h]
  generalize hdx : (Num.look p at').xd = dx
  generalize hdy : (Num.look p at').yd = dy
  generalize hdg : (Num.look p at').gd = dg
  have HDG : Hid ((Num.look p at').gd = dg) := hdg
  clear hdx hdy hdg
  generalize her0 : (Num.look p at').err = er at HOK HER
  have HE0 : Hid ((Num.look p at').err = er) := her0
  clear her0
  by_cases her : er = 0
  · subst her
    have HOK2 : Hid (p.may = true ∧ Num.rightB at' p.rows.length (p.costs.length + p.rows.length) = true ∧ Num.denL p at' p.rows.length ≠ 0) := HOK.out rfl
    clear HOK HER
    by_cases hlen : bl = cl
    · have hl1 : ((bl : Int) == (cl : Int)) = true := by simp; omega
      have hl2 : ((bl : Int) != (cl : Int)) = false := by simp; omega
      have HLEN : Hid (bl = cl) := hlen
      clear hlen
      go_wp2_with fail
      refine (within_any 400 _ _ _ y _ (Ints.below HY.out (bstep HB.out (balloc _ _)) (Nat.le_refl _)) hbl (by omega) (by omega)).mono ?_
      rintro e w1' ⟨rfl, rfl⟩
      cases hw : Num.withinB 400 y
      · have HV : Hid (wrongV 1 = res) := by
          show _ = _
          rw [← HV0.out]; unfold costsV; rw [if_neg (by rw [HE0.out]; simp), if_neg (by rintro ⟨_, h1⟩; rw [hw] at h1; cases h1)]
        go_wp2_with fail
        generalize hX : (((((((w1).setCell ⟨w.heap.size + 1, 0, none⟩ (.bool false)).setCell ⟨w.heap.size + 1, 1, none⟩ (.int .i64 0)).setCell ⟨w.heap.size + 1, 2, none⟩ (.int .i64 0)).setCell ⟨w.heap.size + 1 + 1, 0, none⟩ (.bool false)).setCell ⟨w.heap.size + 1 + 1, 1, none⟩ (.int .i64 0)).setCell ⟨w.heap.size + 1 + 1, 2, none⟩ (.int .i64 0)).alloc (.cells #[.slice xa xl xc, .int .i64 dx, .slice ya yl yc, .int .i64 dy, .slice ga gl gc, .int .i64 dg] 60) = X
        have hX2 : Bx (w.heap.size + 1) [.bool false, .int .i64 0, .int .i64 0] X := by rw [← hX]; exact ((HR.out.set3 _ _ _).other3 (by omega) _ _ _).step (balloc _ _)
        have hX3 : Bx (w.heap.size + 1 + 1) [.bool false, .int .i64 0, .int .i64 0] X := by rw [← hX]; exact ((HT.out.other3 (by omega) _ _ _).set3 _ _ _).step (balloc _ _)
        have hXB : Below w.heap.size w X := by rw [← hX]; exact bstep (bset3 (bset3 HB.out (by omega) _ _ _) (by omega) _ _ _) (balloc _ _)
        obtain ⟨x0, x1, x2, _⟩ := hX2.all3
        obtain ⟨y0, y1, y2, _⟩ := hX3.all3
        exact bodyPost_ret (v := .tuple #[.agg #[.bool false, .int .i64 0, .int .i64 0], .agg #[.bool false, .int .i64 0, .int .i64 0], .int .i64 1]) (by simp [results, Tryz.results20, go_sem, x0, x1, x2, y0, y1, y2]) rfl ⟨congrArg Ending.returned HV.out, hXB⟩
      · obtain ⟨hm, hri, hde⟩ := HOK2.out
        have HLY : Hid (y.length = p.costs.length) := by show _ = _; have h1 := HLEN.out; have h2 := HLB.out; have h3 := HLC.out; omega
        have h44 : cl + rl ≤ 8 := by have h2 := HLC.out; have h3 := HLR.out; have := (p.may_of hm).1.2; have := (p.may_of hm).2.2.1.2; omega
        obtain ⟨N, hN⟩ : ∃ N, N = p.costs.length + p.rows.length := ⟨_, rfl⟩
        have HNN : Hid (N = p.costs.length + p.rows.length) := hN
        have hN8 : N ≤ 8 := by have h2 := HLC.out; have h3 := HLR.out; omega
        clear hN
        obtain ⟨k1, k2, k3, k4, k5, k6⟩ := Num.costs_parts p at' y (HOK2.out) HLY.out hw N HNN.out
        have HV : Hid (endsV (Num.costsN p at' y) = res) := by
          show _ = _
          rw [← HV0.out]; unfold costsV; rw [if_neg (by rw [HE0.out]; simp), if_pos ⟨HLY.out, hw⟩]
        have hgl0 : N = gl := by have := HG.out.1; omega
        subst hgl0
        have HK3 : Hid _ := k3
        have HK4 : Hid _ := k4
        have HK5 : Hid _ := k5
        have HK6 : Hid _ := k6
        have HK2 : Hid _ := k2
        clear k1 k2 k3 k4 k5 k6 hm hri hde
        go_wp2_with fail
        have HB2 : Hid (Below w.heap.size w (w1.alloc (.cells #[.slice xa xl xc, .int .i64 dx, .slice ya yl yc, .int .i64 dy, .slice ga N gc, .int .i64 dg] 60))) := bstep HB.out (balloc _ _)
        refine (look_new _ _ _ _ _ _ (Num.withC p y) _ (Ints.below HY.out HB2.out (Nat.le_refl _)) hbl (RowsAt.below HRo.out HB2.out (Nat.le_refl _)) hrl _ _ _ at' (Ints.below HA.out HB2.out (Nat.le_refl _)) hal).mono ?_
        rintro e w2 ⟨xa2, xl2, xc2, ya2, yl2, yc2, ga2, gl2, gc2, rfl, _, _, hg2, _, _, hgl2, hb2, _, hnew2⟩
        have hgl3 : N = gl2 := by have := hg2.1; have := HK2.out; omega
        subst hgl3
        have HNEW2 : Hid (N = 0 ∨ ∃ g, ga2 = some ⟨g, 0, none⟩ ∧ w.heap.size + 1 + 1 + 1 ≤ g) := by
          show _ ∨ _
          rcases hnew2.g with h | ⟨g, h1, h2⟩
          · exact Or.inl h
          · exact Or.inr ⟨g, h1, by have : w.heap.size + 1 + 1 < w1.heap.size := HT.out.lt; simp at h2; omega⟩
        have HC9 : Hid (Bx w1.heap.size [.slice xa xl xc, .int .i64 dx, .slice ya yl yc, .int .i64 dy, .slice ga N gc, .int .i64 dg] w2) := (Bx.new rfl _ _).step hb2
        have HG2 : Hid (Ints w2 ga2 N (Num.look (Num.withC p y) at').g) := hg2
        have hz9 : w.heap.size + 1 + 1 < w1.heap.size := HT.out.lt
        have hz11 : w1.heap.size < w2.heap.size := by have := hb2.size; simp at this; omega
        have HR2 : Hid (Bx (w.heap.size + 1) [.bool false, .int .i64 0, .int .i64 0] w2) := (HR.out.step (balloc _ _)).step hb2
        have HT2 : Hid (Bx (w.heap.size + 1 + 1) [.bool false, .int .i64 0, .int .i64 0] w2) := (HT.out.step (balloc _ _)).step hb2
        have HGG : Hid (Ints w2 ga N (Num.look p at').g) := Ints.below (Ints.below HG.out (balloc _ _) (Nat.le_refl _)) hb2 (Nat.le_refl _)
        have HB3 : Hid (Below w.heap.size w w2) := bstep HB2.out hb2
        clear hb2 hg2 hnew2 HR HT HG HB2 HB HP p0 p1 r0 r1 r2 rf0 rf1 rf2 t0 t1 t2 tf0 tf1 tf2 z0 z1 z2
        have HKN : Hid (NBn N ((List.range N).map fun k => -((Num.look p at').g[k]?.getD 0)) ((List.range N).map fun k => -((Num.look (Num.withC p y) at').g[k]?.getD 0)) dg (Num.look (Num.withC p y) at').gd) := by have := HK5.out; rw [HDG.out] at this; exact this
        have HKS : Hid (endsV (Num.spanS (fun j => ((List.range N).map fun k => -((Num.look p at').g[k]?.getD 0))[j]?.getD 0 * (Num.look (Num.withC p y) at').gd) (fun j => ((List.range N).map fun k => -((Num.look (Num.withC p y) at').g[k]?.getD 0))[j]?.getD 0 * dg) N) = res) := by
          show _ = _
          have := HK6.out
          rw [HDG.out] at this
          rw [this]
          exact HV.out
        clear HK5 HK6 HV HV0 HE0 HDG HOK2 HLY HK2 hw
        generalize (Num.look (Num.withC p y) at').gd = dg2 at *
        generalize (Num.look (Num.withC p y) at').xd = dx2 at *
        generalize (Num.look (Num.withC p y) at').yd = dy2 at *
        generalize (Num.look (Num.withC p y) at').err = er2 at *
        generalize (Num.look (Num.withC p y) at').g = lg2 at *
        generalize (Num.look p at').g = lg at *
        have HCS : Hid (CS w w1.heap.size w2.heap.size ga ga2 N gc gc2 dg dg2 lg lg2 (w2.alloc (.cells #[.slice xa2 xl2 xc2, .int .i64 dx2, .slice ya2 yl2 yc2, .int .i64 dy2, .slice ga2 N gc2, .int .i64 dg2] 60))) :=
          ⟨bstep HB3.out (balloc _ _), (HC9.out.step (balloc _ _)).c 4 _ rfl, (HC9.out.step (balloc _ _)).c 5 _ rfl, (Bx.new rfl _ _).c 4 _ rfl, (Bx.new rfl _ _).c 5 _ rfl, Ints.below HGG.out (balloc _ _) (Nat.le_refl _), Ints.below HG2.out (balloc _ _) (Nat.le_refl _), ⟨_, _, _, HR2.out.step (balloc _ _)⟩, ⟨_, _, _, HT2.out.step (balloc _ _)⟩, by omega, by omega, HNEW.out, HNEW2.out⟩
        clear HR2 HT2 HGG HB3 HG2 HC9 HNEW HNEW2
        obtain ⟨so, sn, sd, so2, sn2, sd2, ser, hform⟩ := endsV_form (Num.spanS (fun j => ((List.range N).map fun k => -(lg[k]?.getD 0))[j]?.getD 0 * dg2) (fun j => ((List.range N).map fun k => -(lg2[k]?.getD 0))[j]?.getD 0 * dg) N)
        have HRES : Hid (.tuple #[.agg #[.bool so, .int .i64 sn, .int .i64 sd], .agg #[.bool so2, .int .i64 sn2, .int .i64 sd2], .int .i64 ser] = res) := by show _ = _; rw [← hform]; exact HKS.out
        have KN1 : Hid (∀ v, CS w w1.heap.size w2.heap.size ga ga2 N gc gc2 dg dg2 lg lg2 v → Calls Tryz.prog 39 #[.agg #[.slice ga N gc, .int .i64 dg]] v fun e v' => ∃ g, e = .returned (.agg #[.slice (some ⟨g, 0, none⟩) N N, .int .i64 dg]) ∧ CS w w1.heap.size w2.heap.size ga ga2 N gc gc2 dg dg2 lg lg2 v' ∧ Ints v' (some ⟨g, 0, none⟩) N ((List.range N).map fun k => -(lg[k]?.getD 0)) ∧ Below v.heap.size v v') := by
          intro v h
          exact (negated_any ga N gc lg dg v h.i9 hN8 HK3.out).mono fun e v' ⟨g, h1, h2, h3⟩ => ⟨g, h1, h.step h3, h2, h3⟩
        have KN2 : Hid (∀ v, CS w w1.heap.size w2.heap.size ga ga2 N gc gc2 dg dg2 lg lg2 v → Calls Tryz.prog 39 #[.agg #[.slice ga2 N gc2, .int .i64 dg2]] v fun e v' => ∃ g, e = .returned (.agg #[.slice (some ⟨g, 0, none⟩) N N, .int .i64 dg2]) ∧ CS w w1.heap.size w2.heap.size ga ga2 N gc gc2 dg dg2 lg lg2 v' ∧ Ints v' (some ⟨g, 0, none⟩) N ((List.range N).map fun k => -(lg2[k]?.getD 0)) ∧ Below v.heap.size v v') := by
          intro v h
          exact (negated_any ga2 N gc2 lg2 dg2 v h.i11 hN8 HK4.out).mono fun e v' ⟨g, h1, h2, h3⟩ => ⟨g, h1, h.step h3, h2, h3⟩
        have KB : Hid (∀ v g1 g2, CS w w1.heap.size w2.heap.size ga ga2 N gc gc2 dg dg2 lg lg2 v → Ints v (some ⟨g1, 0, none⟩) N ((List.range N).map fun k => -(lg[k]?.getD 0)) → Ints v (some ⟨g2, 0, none⟩) N ((List.range N).map fun k => -(lg2[k]?.getD 0)) → Calls Tryz.prog 38 #[.agg #[.slice (some ⟨g1, 0, none⟩) N N, .int .i64 dg], .agg #[.slice (some ⟨g2, 0, none⟩) N N, .int .i64 dg2]] v fun e v' => e = .returned (.tuple #[.agg #[.bool so, .int .i64 sn, .int .i64 sd], .agg #[.bool so2, .int .i64 sn2, .int .i64 sd2], .int .i64 ser]) ∧ CS w w1.heap.size w2.heap.size ga ga2 N gc gc2 dg dg2 lg lg2 v' ∧ Below v.heap.size v v') := by
          intro v g1 g2 h h1 h2
          refine (notBelow_any _ _ N N N _ _ dg dg2 v h1 h2 HKN.out).mono ?_
          rintro e v' ⟨rfl, h3⟩
          exact ⟨by rw [hform], h.step h3, h3⟩
        clear hform HKN HKS HK3 HK4
        generalize ((List.range N).map fun k => -(lg[k]?.getD 0)) = ln at *
        generalize ((List.range N).map fun k => -(lg2[k]?.getD 0)) = ls at *
        go_wp2_with fail
        generalize hV : w2.alloc (.cells #[.slice xa2 xl2 xc2, .int .i64 dx2, .slice ya2 yl2 yc2, .int .i64 dy2, .slice ga2 N gc2, .int .i64 dg2] 60) = V at HCS ⊢
        clear hV
        generalize w1.heap.size = b9 at *
        generalize w2.heap.size = b11 at *
        have q0 : ∀ v, CS w b9 b11 ga ga2 N gc gc2 dg dg2 lg lg2 v → v.cell? ⟨b9, 4, none⟩ = some (.slice ga N gc) := fun v h => h.a4
        have q1 : ∀ v, CS w b9 b11 ga ga2 N gc gc2 dg dg2 lg lg2 v → v.cell? ⟨b9, 5, none⟩ = some (.int .i64 dg) := fun v h => h.a5
        have q2 : ∀ v, CS w b9 b11 ga ga2 N gc gc2 dg dg2 lg lg2 v → v.cell? ⟨b11, 4, none⟩ = some (.slice ga2 N gc2) := fun v h => h.d4
        have q3 : ∀ v, CS w b9 b11 ga ga2 N gc gc2 dg dg2 lg lg2 v → v.cell? ⟨b11, 5, none⟩ = some (.int .i64 dg2) := fun v h => h.d5
        obtain ⟨F0, F1, F2, G0, G1, G2, ⟨u0, u1, u2⟩, u3, u4, u5⟩ := CS.cells (w := w) (b9 := b9) (b11 := b11) (ga := ga) (ga2 := ga2) (N := N) (gc := gc) (gc2 := gc2) (dg := dg) (dg2 := dg2) (lg := lg) (lg2 := lg2)
        have v0 : ∀ v, CS w b9 b11 ga ga2 N gc gc2 dg dg2 lg lg2 v → v.frozen? ⟨w.heap.size + 1, 0, none⟩ = false := fun v h => by obtain ⟨_, _, _, hr⟩ := h.r; exact hr.f 0
        have v1 : ∀ v, CS w b9 b11 ga ga2 N gc gc2 dg dg2 lg lg2 v → v.frozen? ⟨w.heap.size + 1, 1, none⟩ = false := fun v h => by obtain ⟨_, _, _, hr⟩ := h.r; exact hr.f 1
        have v2 : ∀ v, CS w b9 b11 ga ga2 N gc gc2 dg dg2 lg lg2 v → v.frozen? ⟨w.heap.size + 1, 2, none⟩ = false := fun v h => by obtain ⟨_, _, _, hr⟩ := h.r; exact hr.f 2
        have v3 : ∀ v, CS w b9 b11 ga ga2 N gc gc2 dg dg2 lg lg2 v → v.frozen? ⟨w.heap.size + 1 + 1, 0, none⟩ = false := fun v h => by obtain ⟨_, _, _, hr⟩ := h.t; exact hr.f 0
        have v4 : ∀ v, CS w b9 b11 ga ga2 N gc gc2 dg dg2 lg lg2 v → v.frozen? ⟨w.heap.size + 1 + 1, 1, none⟩ = false := fun v h => by obtain ⟨_, _, _, hr⟩ := h.t; exact hr.f 1
        have v5 : ∀ v, CS w b9 b11 ga ga2 N gc gc2 dg dg2 lg lg2 v → v.frozen? ⟨w.heap.size + 1 + 1, 2, none⟩ = false := fun v h => by obtain ⟨_, _, _, hr⟩ := h.t; exact hr.f 2
        have hS0 : CS w b9 b11 ga ga2 N gc gc2 dg dg2 lg lg2 V.drew := HCS.out.step (Below.refl _ _).drew
        clear HCS HC HRo HA HY HLB HLC HLR HLEN HNN
        go_region_held3 (fun v => CS w b9 b11 ga ga2 N gc gc2 dg dg2 lg lg2 v) (first | (with_reducible assumption) | (with_reducible exact hS0) | (with_reducible refine CS.set3r ?_ _ _ _; with_reducible assumption) | (with_reducible refine CS.set3t ?_ _ _ _; with_reducible assumption) | (with_reducible refine CS.set3t (CS.set3r ?_ _ _ _) _ _ _; with_reducible assumption) | (with_reducible refine CS.set3r (CS.set3t ?_ _ _ _) _ _ _; with_reducible assumption))
          (first
            | (go_at_call 39; (first
                | (with_reducible refine (KN1.out _ ?_).mono ?_; with_reducible assumption; rintro e w3 ⟨g1, rfl, hc1, hI1, hk1⟩; (first | (with_reducible have hI2 := Ints.below hI2 hk1 (Nat.le_refl _)) | skip))
                | (with_reducible refine (KN2.out _ ?_).mono ?_; with_reducible assumption; rintro e w4 ⟨g2, rfl, hc2, hI2, hk2⟩; (first | (with_reducible have hI1 := Ints.below hI1 hk2 (Nat.le_refl _)) | skip))))
            | (go_at_call 38; with_reducible refine (KB.out _ _ _ ?_ hI1 hI2).mono ?_; with_reducible assumption; rintro e w5 ⟨rfl, hc3, hk3⟩))
        obtain ⟨y0, y1, y2, hr5⟩ := hc3.r
        obtain ⟨y3, y4, y5, ht5⟩ := hc3.t
        have HR5 : Hid _ := hr5
        have HT5 : Hid _ := ht5
        have HB5 : Hid _ := hc3.bel
        clear hr5 ht5 hc3 hk3 KN1 KN2 KB q0 q1 q2 q3 u0 u1 u2 u3 u4 u5 v0 v1 v2 v3 v4 v5 hI1 hI2 hk1 hk2 hc1 hc2 hS0
        go_wp2_with fail
        generalize hX : (((((w5.setCell ⟨w.heap.size + 1, 0, none⟩ (.bool so)).setCell ⟨w.heap.size + 1, 1, none⟩ (.int .i64 sn)).setCell ⟨w.heap.size + 1, 2, none⟩ (.int .i64 sd)).setCell ⟨w.heap.size + 1 + 1, 0, none⟩ (.bool so2)).setCell ⟨w.heap.size + 1 + 1, 1, none⟩ (.int .i64 sn2)).setCell ⟨w.heap.size + 1 + 1, 2, none⟩ (.int .i64 sd2) = X
        have hX2 : Bx (w.heap.size + 1) [.bool so, .int .i64 sn, .int .i64 sd] X := by rw [← hX]; exact (HR5.out.set3 _ _ _).other3 (by omega) _ _ _
        have hX3 : Bx (w.heap.size + 1 + 1) [.bool so2, .int .i64 sn2, .int .i64 sd2] X := by rw [← hX]; exact (HT5.out.other3 (by omega) _ _ _).set3 _ _ _
        have hXB : Below w.heap.size w X := by rw [← hX]; exact bset3 (bset3 HB5.out (by omega) _ _ _) (by omega) _ _ _
        obtain ⟨x0, x1, x2, _⟩ := hX2.all3
        obtain ⟨x3, x4, x5, _⟩ := hX3.all3
        exact bodyPost_ret (v := .tuple #[.agg #[.bool so, .int .i64 sn, .int .i64 sd], .agg #[.bool so2, .int .i64 sn2, .int .i64 sd2], .int .i64 ser]) (by simp [results, Tryz.results20, go_sem, x0, x1, x2, x3, x4, x5]) rfl ⟨congrArg Ending.returned HRES.out, hXB⟩
    · have HV : Hid (wrongV 1 = res) := by
        show _ = _
        rw [← HV0.out]; unfold costsV; rw [if_neg (by rw [HE0.out]; simp), if_neg (by rintro ⟨h1, _⟩; have h2 := HLB.out; have h3 := HLC.out; omega)]
      have hl1 : ((bl : Int) == (cl : Int)) = false := by simp; omega
      have hl2 : ((bl : Int) != (cl : Int)) = true := by simp; omega
      go_wp2_with fail
      generalize hX : (((((((w1).setCell ⟨w.heap.size + 1, 0, none⟩ (.bool false)).setCell ⟨w.heap.size + 1, 1, none⟩ (.int .i64 0)).setCell ⟨w.heap.size + 1, 2, none⟩ (.int .i64 0)).setCell ⟨w.heap.size + 1 + 1, 0, none⟩ (.bool false)).setCell ⟨w.heap.size + 1 + 1, 1, none⟩ (.int .i64 0)).setCell ⟨w.heap.size + 1 + 1, 2, none⟩ (.int .i64 0)).alloc (.cells #[.slice xa xl xc, .int .i64 dx, .slice ya yl yc, .int .i64 dy, .slice ga gl gc, .int .i64 dg] 60) = X
      have hX2 : Bx (w.heap.size + 1) [.bool false, .int .i64 0, .int .i64 0] X := by rw [← hX]; exact ((HR.out.set3 _ _ _).other3 (by omega) _ _ _).step (balloc _ _)
      have hX3 : Bx (w.heap.size + 1 + 1) [.bool false, .int .i64 0, .int .i64 0] X := by rw [← hX]; exact ((HT.out.other3 (by omega) _ _ _).set3 _ _ _).step (balloc _ _)
      have hXB : Below w.heap.size w X := by rw [← hX]; exact bstep (bset3 (bset3 HB.out (by omega) _ _ _) (by omega) _ _ _) (balloc _ _)
      obtain ⟨x0, x1, x2, _⟩ := hX2.all3
      obtain ⟨y0, y1, y2, _⟩ := hX3.all3
      exact bodyPost_ret (v := .tuple #[.agg #[.bool false, .int .i64 0, .int .i64 0], .agg #[.bool false, .int .i64 0, .int .i64 0], .int .i64 1]) (by simp [results, Tryz.results20, go_sem, x0, x1, x2, y0, y1, y2]) rfl ⟨congrArg Ending.returned HV.out, hXB⟩
  · have e1 : (er != 0) = true := by simpa using her
    have HV : Hid (wrongV er = res) := HER.out her
    go_wp2_with fail
    generalize hX : (((((((w1).setCell ⟨w.heap.size + 1, 0, none⟩ (.bool false)).setCell ⟨w.heap.size + 1, 1, none⟩ (.int .i64 0)).setCell ⟨w.heap.size + 1, 2, none⟩ (.int .i64 0)).setCell ⟨w.heap.size + 1 + 1, 0, none⟩ (.bool false)).setCell ⟨w.heap.size + 1 + 1, 1, none⟩ (.int .i64 0)).setCell ⟨w.heap.size + 1 + 1, 2, none⟩ (.int .i64 0)).alloc (.cells #[.slice xa xl xc, .int .i64 dx, .slice ya yl yc, .int .i64 dy, .slice ga gl gc, .int .i64 dg] 60) = X
    have hX2 : Bx (w.heap.size + 1) [.bool false, .int .i64 0, .int .i64 0] X := by rw [← hX]; exact ((HR.out.set3 _ _ _).other3 (by omega) _ _ _).step (balloc _ _)
    have hX3 : Bx (w.heap.size + 1 + 1) [.bool false, .int .i64 0, .int .i64 0] X := by rw [← hX]; exact ((HT.out.other3 (by omega) _ _ _).set3 _ _ _).step (balloc _ _)
    have hXB : Below w.heap.size w X := by rw [← hX]; exact bstep (bset3 (bset3 HB.out (by omega) _ _ _) (by omega) _ _ _) (balloc _ _)
    obtain ⟨x0, x1, x2, _⟩ := hX2.all3
    obtain ⟨y0, y1, y2, _⟩ := hX3.all3
    exact bodyPost_ret (v := .tuple #[.agg #[.bool false, .int .i64 0, .int .i64 0], .agg #[.bool false, .int .i64 0, .int .i64 0], .int .i64 er]) (by simp [results, Tryz.results20, go_sem, x0, x1, x2, y0, y1, y2]) rfl ⟨congrArg Ending.returned HV.out, hXB⟩

end Go.Proofs.YtipcbhodlgoflabGreat
