/- What span.negated and span.notBelow do. -/
import Derived.Test.YtloncgmgcnaalabSpnW2
import Derived.Test.YtloncgmgcnaalabAsk
namespace Go.Proofs.Ytloncgmgcnaalab
open Go.RowKit

set_option maxHeartbeats 800000 in
theorem negated_any (a : Option Addr) (n c : Nat) (l : List Int) (d : Int) (w : World) (hi : Ints w a n l) (h8 : n ≤ 8) (hl : ∀ j : Nat, -1073741824 ≤ l[j]?.getD 0 ∧ l[j]?.getD 0 ≤ 1073741824) :
    Calls Try.prog 26 #[.agg #[.slice a n c, .int .i64 d]] w fun e w' => ∃ g, e = .returned (.agg #[.slice (some ⟨g, 0, none⟩) n n, .int .i64 d]) ∧ Ints w' (some ⟨g, 0, none⟩) n ((List.range n).map fun k => -(l[k]?.getD 0)) ∧ Below w.heap.size w w' := by
  have HI : Hid (Ints w a n l) := hi
  have HL : Hid (∀ j : Nat, -1073741824 ≤ l[j]?.getD 0 ∧ l[j]?.getD 0 ≤ 1073741824) := hl
  clear hi hl
  generalize hf : (fun k : Nat => -(l[k]?.getD 0)) = f
  have HF : Hid ((fun k : Nat => -(l[k]?.getD 0)) = f) := hf
  clear hf
  obtain ⟨i0, hif, hz0, hz1, hz2⟩ := info_parts Try.info64
  have hs0 : ((w.alloc (.cells #[.slice a n c, .int .i64 d] 37)).alloc (.cells #[.slice none 0 0, .int .i64 0] 37)).heap.size = w.heap.size + 1 + 1 := by simp
  go_enter Try.func26, Try.ntmps26
  go_wp2_with (at_make; refine wpList_make_full _ rfl (.tmp 8) (.tmp 8) 22 rfl (w.heap.size + 1 + 1) 2 i0 (.int .i64 0) 1 Try.underlying22 hif hz0 hz1 .i64 .i64 _ _ n rfl rfl rfl rfl (by rw [hz2]; omega) (by unfold maxLen; omega) (by simp) ?_; intro w3 hown hgrow; have hb3 := made_below hgrow; obtain ⟨⟨k0, k1⟩, ⟨k2, k3⟩, ⟨k4, k5⟩, hz3, hB3⟩ := boxes hb3; have HO : Hid _ := hown; clear hown hgrow)
  have HO3 : Hid (Own w3 (w.heap.size + 1 + 1) (w.heap.size + 1 + 1) n (Num.fill f n 0)) := Own.made _ (by rw [hs0] at HO; exact HO.out)
  clear HO
  go_loopw [13] (fun i wr => ∃ k : Nat, k ≤ n ∧ i = .int .i64 k ∧ Own wr (w.heap.size + 1 + 1) (w.heap.size + 1 + 1) n (Num.fill f n k) ∧ Below ((w.alloc (.cells #[.slice a n c, .int .i64 d] 37)).alloc (.cells #[.slice none 0 0, .int .i64 0] 37)).heap.size ((w.alloc (.cells #[.slice a n c, .int .i64 d] 37)).alloc (.cells #[.slice none 0 0, .int .i64 0] 37)) wr) (fun i _ => n - (intOf i).toNat)
  case atStart => exact ⟨0, Nat.zero_le _, rfl, HO3.out, hb3⟩
  case round =>
    obtain ⟨k, hk, rfl, hO, hbl⟩ := hrel
    have HO : Hid (Own wr (w.heap.size + 1 + 1) (w.heap.size + 1 + 1) n (Num.fill f n k)) := hO
    clear HO3 hb3 k0 k1 k2 k3 k4 k5 hz3 hB3
    obtain ⟨⟨k0, k1⟩, ⟨k2, k3⟩, ⟨k4, k5⟩, hz3, hB3⟩ := boxes hbl
    by_cases hlt : k < n
    · rcases (Ints.below HI.out hB3 (Nat.le_refl _)).2 with h | ⟨b, off, ha, hbs, hc⟩
      · omega
      have c0 := hc k hlt
      clear hc
      have hlk := HL.out k
      obtain ⟨⟨u, u0⟩, u1⟩ := hO.cell' k hlt
      have hg := hO.lt.2
      clear hO
      have HE : Hid (-(l[k]?.getD 0) = f k) := by show _ = _; rw [← HF.out]
      generalize l[k]?.getD 0 = x at *
      have HBL : Hid _ := hbl
      clear hbl
      subst ha
      go_wp2_with fail
      go_roundw
      case rel => exact ⟨k + 1, hlt, by go_num, by rw [← Num.fill_set _ _ _ (-x) hlt HE.out]; exact Own.store HO.out k (-x), bset HBL.out (by simp) _⟩
      case measure => simp [intOf]; omega
    · have hke : k = n := by omega
      subst hke
      clear hO
      go_wp2_with fail
      have hB4 : Below w.heap.size w ((wr.setCell ⟨w.heap.size + 1, 0, none⟩ (.slice (some ⟨w.heap.size + 1 + 1, 0, none⟩) k k)).setCell ⟨w.heap.size + 1, 1, none⟩ (.int .i64 d)) := bset (bset hB3 (by omega) _) (by omega) _
      refine bodyPost_ret (v := .agg #[.slice (some ⟨w.heap.size + 1 + 1, 0, none⟩) k k, .int .i64 d]) (by simp [results, Try.results26, go_sem, k2, k3]) rfl ?_
      refine ⟨w.heap.size + 1 + 1, rfl, ?_, hB4⟩
      rw [← Num.fill_all]
      exact Own.ints (ownsRow_setCell_below (ownsRow_setCell_below HO.out (by show w.heap.size + 1 < _; omega) _) (by show w.heap.size + 1 < _; omega) _)

/-- The ends of a span, as the program tells them. -/
def endsV (s : Num.Spn) : Value := if Num.emptyS s = true then .tuple #[.agg #[.bool false, .int .i64 0, .int .i64 0], .agg #[.bool false, .int .i64 0, .int .i64 0], .int .i64 4] else .tuple #[.agg #[.bool s.o, .int .i64 s.n, .int .i64 s.d], .agg #[.bool s.o2, .int .i64 s.n2, .int .i64 s.d2], .int .i64 0]

/-- The boxes of span.notBelow. -/
structure NB (w : World) (na sa : Option Addr) (N nc sc : Nat) (nd sd : Int) (s : Num.Spn) (wr : World) : Prop where
  p : Bx (w.heap.size) [.slice na N nc, .int .i64 nd] wr
  q : Bx (w.heap.size + 1) [.slice sa N sc, .int .i64 sd] wr
  r : Bx (w.heap.size + 1 + 1) [.bool false, .int .i64 0, .int .i64 0] wr
  t : Bx (w.heap.size + 1 + 1 + 1) [.bool false, .int .i64 0, .int .i64 0] wr
  f : Bx (w.heap.size + 1 + 1 + 1 + 1) [.bool s.o, .int .i64 s.n, .int .i64 s.d] wr
  g : Bx (w.heap.size + 1 + 1 + 1 + 1 + 1) [.bool s.o2, .int .i64 s.n2, .int .i64 s.d2] wr
  bel : Below w.heap.size w wr

theorem NB.step {w : World} {na sa : Option Addr} {N nc sc : Nat} {nd sd : Int} {s : Num.Spn} {wr w' : World} (h : NB w na sa N nc sc nd sd s wr) (hb : Below wr.heap.size wr w') : NB w na sa N nc sc nd sd s w' :=
  ⟨h.p.step hb, h.q.step hb, h.r.step hb, h.t.step hb, h.f.step hb, h.g.step hb, bstep h.bel hb⟩

theorem NB.setF {w : World} {na sa : Option Addr} {N nc sc : Nat} {nd sd : Int} {s : Num.Spn} {wr : World} (h : NB w na sa N nc sc nd sd s wr) (o : Bool) (x y : Int) (s' : Num.Spn) (hs : s' = { s with o := o, n := x, d := y }) :
    NB w na sa N nc sc nd sd s' (((wr.setCell ⟨w.heap.size + 1 + 1 + 1 + 1, 0, none⟩ (.bool o)).setCell ⟨w.heap.size + 1 + 1 + 1 + 1, 1, none⟩ (.int .i64 x)).setCell ⟨w.heap.size + 1 + 1 + 1 + 1, 2, none⟩ (.int .i64 y)) := by
  subst hs
  exact ⟨h.p.other3 (by omega) _ _ _, h.q.other3 (by omega) _ _ _, h.r.other3 (by omega) _ _ _, h.t.other3 (by omega) _ _ _, h.f.set3 _ _ _, h.g.other3 (by omega) _ _ _, bset3 h.bel (by omega) _ _ _⟩

theorem NB.setG {w : World} {na sa : Option Addr} {N nc sc : Nat} {nd sd : Int} {s : Num.Spn} {wr : World} (h : NB w na sa N nc sc nd sd s wr) (o : Bool) (x y : Int) (s' : Num.Spn) (hs : s' = { s with o2 := o, n2 := x, d2 := y }) :
    NB w na sa N nc sc nd sd s' (((wr.setCell ⟨w.heap.size + 1 + 1 + 1 + 1 + 1, 0, none⟩ (.bool o)).setCell ⟨w.heap.size + 1 + 1 + 1 + 1 + 1, 1, none⟩ (.int .i64 x)).setCell ⟨w.heap.size + 1 + 1 + 1 + 1 + 1, 2, none⟩ (.int .i64 y)) := by
  subst hs
  exact ⟨h.p.other3 (by omega) _ _ _, h.q.other3 (by omega) _ _ _, h.r.other3 (by omega) _ _ _, h.t.other3 (by omega) _ _ _, h.f.other3 (by omega) _ _ _, h.g.set3 _ _ _, bset3 h.bel (by omega) _ _ _⟩

theorem less_dec (an ad bn bd : Int) (w : World) (ha : Num.mayB ad [an] = true) (hb : Num.mayB bd [bn] = true) :
    Calls Try.prog 60 #[.agg #[.int .i64 an, .int .i64 ad], .agg #[.int .i64 bn, .int .i64 bd]] w fun e w' => e = .returned (.bool (decide (an * bd < bn * ad))) ∧ Below w.heap.size w w' := by
  refine (less_any an ad bn bd w).mono ?_
  rintro e w' ⟨rfl, hb'⟩
  rw [ha, hb]
  exact ⟨by simp, hb'⟩

theorem less_is (an ad bn bd : Int) (ha : Num.mayB ad [an] = true) (hb : Num.mayB bd [bn] = true) (r : Bool) (hr : decide (an * bd < bn * ad) = r) (w : World) :
    Calls Try.prog 60 #[.agg #[.int .i64 an, .int .i64 ad], .agg #[.int .i64 bn, .int .i64 bd]] w fun e w' => e = .returned (.bool r) ∧ Below w.heap.size w w' := by
  rw [← hr]
  exact less_dec an ad bn bd w ha hb

theorem Num.spanS_no (a b : Nat → Int) (k : Nat) (h : (Num.spanS a b k).no = true) : ∀ m, k ≤ m → (Num.spanS a b m).no = true := by
  intro m hm
  induction m with
  | zero => have : k = 0 := by omega
            subst this; exact h
  | succ m ih =>
    by_cases e : k = m + 1
    · subst e; exact h
    · have := ih (by omega)
      show (Num.aboveS (Num.spanS a b m) (a m) (b m)).no = true
      unfold Num.aboveS
      split
      · simp [this]
      · split
        · split <;> exact this
        · split <;> exact this

theorem Num.sg_pos (a d : Int) (hd : 0 < d) : 0 < a * d ↔ 0 < a := ⟨fun h => Int.pos_of_mul_pos_left h hd, fun h => Int.mul_pos h hd⟩
theorem Num.sg_neg (a d : Int) (hd : 0 < d) : a * d < 0 ↔ a < 0 := by
  have := Num.sg_pos (-a) d hd
  rw [Int.neg_mul] at this
  omega
theorem Num.sg_zero (a d : Int) (hd : 0 < d) : a * d = 0 ↔ a = 0 := by
  have h1 := Num.sg_pos a d hd
  have h2 := Num.sg_neg a d hd
  omega

/-- What is known of the numbers. -/
structure NBn (N : Nat) (ln ls : List Int) (nd sd : Int) : Prop where
  n8 : N ≤ 8
  hln : ∀ j : Nat, -1073741824 ≤ ln[j]?.getD 0 ∧ ln[j]?.getD 0 ≤ 1073741824
  hls : ∀ j : Nat, -1073741824 ≤ ls[j]?.getD 0 ∧ ls[j]?.getD 0 ≤ 1073741824
  hnd : 1 ≤ nd ∧ nd ≤ 1073741824
  hsd : 1 ≤ sd ∧ sd ≤ 1073741824
  sm : ∀ j, j < N → Num.SmallP (ln[j]?.getD 0 * sd) (ls[j]?.getD 0 * nd)

set_option maxRecDepth 4000 in
set_option maxHeartbeats 3200000 in
theorem notBelow_any (na sa : Option Addr) (N nc sc : Nat) (ln ls : List Int) (nd sd : Int) (w : World) (hn : Ints w na N ln) (hs : Ints w sa N ls) (hk : NBn N ln ls nd sd) :
    Calls Try.prog 25 #[.agg #[.slice na N nc, .int .i64 nd], .agg #[.slice sa N sc, .int .i64 sd]] w fun e w' => e = .returned (endsV (Num.spanS (fun j => ln[j]?.getD 0 * sd) (fun j => ls[j]?.getD 0 * nd) N)) ∧ Below w.heap.size w w' := by
  have HI : Hid (Ints w na N ln) := hn
  have HJ : Hid (Ints w sa N ls) := hs
  have HK : Hid (NBn N ln ls nd sd) := hk
  have hN8 := hk.n8
  have hnd := hk.hnd
  have hsd := hk.hsd
  clear hn hs hk
  generalize hA : (fun j : Nat => ln[j]?.getD 0 * sd) = A
  generalize hB : (fun j : Nat => ls[j]?.getD 0 * nd) = B
  have HA : Hid (∀ j : Nat, A j = ln[j]?.getD 0 * sd) := by intro j; rw [← hA]
  have HB : Hid (∀ j : Nat, B j = ls[j]?.getD 0 * nd) := by intro j; rw [← hB]
  have HS : Hid (∀ k, k ≤ N → Num.SpanIs A B k (Num.spanS A B k)) := by
    intro k hk
    refine Num.span_is A B k fun j hj => ?_
    rw [← hA, ← hB]
    exact HK.out.sm j (by omega)
  have HSM : Hid (∀ j, j < N → Num.SmallP (A j) (B j)) := by
    intro j hj
    rw [← hA, ← hB]
    exact HK.out.sm j hj
  clear hA hB
  generalize hres : endsV (Num.spanS A B N) = res
  have HRES : Hid (endsV (Num.spanS A B N) = res) := hres
  clear hres
  go_enter Try.func25, Try.ntmps25
  go_wp2_with fail
  go_loopw [19] (fun i wr => ∃ k : Nat, k ≤ N ∧ i = .int .i64 k ∧ (Num.spanS A B k).no = false ∧ NB w na sa N nc sc nd sd (Num.spanS A B k) wr) (fun i _ => N - (intOf i).toNat)
  case atStart =>
    refine ⟨0, Nat.zero_le _, rfl, rfl, ?_⟩
    exact ⟨(((((Bx.new rfl _ _).step (balloc _ _)).step (balloc _ _)).step (balloc _ _)).step (balloc _ _)).step (balloc _ _), ((((Bx.new (by simp) _ _).step (balloc _ _)).step (balloc _ _)).step (balloc _ _)).step (balloc _ _), (((Bx.new (by simp) _ _).step (balloc _ _)).step (balloc _ _)).step (balloc _ _), ((Bx.new (by simp) _ _).step (balloc _ _)).step (balloc _ _), (Bx.new (by simp) _ _).step (balloc _ _), Bx.new (by simp) _ _, bstep (bstep (bstep (bstep (bstep (balloc _ _) (balloc _ _)) (balloc _ _)) (balloc _ _)) (balloc _ _)) (balloc _ _)⟩
  case round =>
    obtain ⟨k, hk, rfl, hno, hN⟩ := hrel
    have HNO : Hid ((Num.spanS A B k).no = false) := hno
    clear hno
    by_cases hlt : k < N
    · have hS := HS.out k (by omega)
      have hM := HSM.out k hlt
      have HE : Hid (Num.spanS A B (k + 1) = Num.aboveS (Num.spanS A B k) (A k) (B k)) := rfl
      rcases (Ints.below HI.out hN.bel (Nat.le_refl _)).2 with h | ⟨bn, on, hna, hbn, hcn⟩
      · omega
      rcases (Ints.below HJ.out hN.bel (Nat.le_refl _)).2 with h | ⟨bs, os, hsa, hbs, hcs⟩
      · omega
      have cn := hcn k hlt
      have cs := hcs k hlt
      clear hcn hcs
      have hx := HK.out.hln k
      have hst := HK.out.hls k
      have HAk := HA.out k
      have HBk := HB.out k
      generalize ln[k]?.getD 0 = x at cn hx HAk
      generalize ls[k]?.getD 0 = st at cs hst HBk
      have hp1 := Num.mul_bd x sd 1073741824 hx (by omega) (by omega)
      have hp2 := Num.mul_bd st nd 1073741824 hst (by omega) (by omega)
      simp only [show (1073741824 : Int) * 1073741824 = 1152921504606846976 from rfl] at hp1 hp2
      have hsg : (0 < B k ↔ 0 < st) ∧ (B k < 0 ↔ st < 0) ∧ (B k = 0 ↔ st = 0) ∧ (A k < 0 ↔ x < 0) := by
        rw [HAk, HBk]
        exact ⟨Num.sg_pos st nd (by omega), Num.sg_neg st nd (by omega), Num.sg_zero st nd (by omega), Num.sg_neg x sd (by omega)⟩
      generalize hq1 : x * sd = q1 at *
      generalize hq2 : st * nd = q2 at *
      generalize A k = ak at *
      generalize B k = bk at *
      subst HAk HBk
      have hq1' : -x * sd = -ak := by rw [Int.neg_mul, hq1]
      have HSG : Hid _ := hsg

      subst hna hsa
      by_cases h0 : st = 0
      · have e0 : (st == 0) = true := by simpa using h0
        by_cases hx0 : x < 0
        · have ex : decide (x < 0) = true := by simpa using hx0
          have hz : (Num.spanS A B N).no = true := Num.spanS_no A B (k + 1) (by rw [HE.out]; unfold Num.aboveS; rw [if_pos (HSG.out.2.2.1.2 h0)]; simp [HSG.out.2.2.2.2 hx0]) N (by omega)
          have HV : Hid (endsV (Num.spanS A B N) = .tuple #[.agg #[.bool false, .int .i64 0, .int .i64 0], .agg #[.bool false, .int .i64 0, .int .i64 0], .int .i64 4]) := by show _ = _; unfold endsV; rw [if_pos (by unfold Num.emptyS; rw [hz]; rfl)]
          clear hz
          generalize Num.spanS A B k = s at *
          obtain ⟨p0, p1, _, _⟩ := hN.p.all2
          obtain ⟨q0, q1, _, _⟩ := hN.q.all2
          obtain ⟨r0, r1, r2, rf0, rf1, rf2⟩ := hN.r.all3
          obtain ⟨t0, t1, t2, tf0, tf1, tf2⟩ := hN.t.all3
          obtain ⟨f0, f1, f2, ff0, ff1, ff2⟩ := hN.f.all3
          obtain ⟨g0, g1, g2, gf0, gf1, gf2⟩ := hN.g.all3
          have z5 : w.heap.size + 1 + 1 + 1 + 1 + 1 < wr.heap.size := hN.g.lt
          have z4 : w.heap.size + 1 + 1 + 1 + 1 < wr.heap.size := hN.f.lt
          have z3 : w.heap.size + 1 + 1 + 1 < wr.heap.size := hN.t.lt
          have z2 : w.heap.size + 1 + 1 < wr.heap.size := hN.r.lt
          have z1 : w.heap.size + 1 < wr.heap.size := hN.q.lt
          have z0 : w.heap.size < wr.heap.size := hN.p.lt
          have HN : Hid _ := hN
          clear hN
          go_wp2_with fail
          generalize hX : ((((((wr).setCell ⟨w.heap.size + 1 + 1, 0, none⟩ (.bool false)).setCell ⟨w.heap.size + 1 + 1, 1, none⟩ (.int .i64 0)).setCell ⟨w.heap.size + 1 + 1, 2, none⟩ (.int .i64 0)).setCell ⟨w.heap.size + 1 + 1 + 1, 0, none⟩ (.bool false)).setCell ⟨w.heap.size + 1 + 1 + 1, 1, none⟩ (.int .i64 0)).setCell ⟨w.heap.size + 1 + 1 + 1, 2, none⟩ (.int .i64 0) = X
          have hX2 : Bx (w.heap.size + 1 + 1) [.bool false, .int .i64 0, .int .i64 0] X := by rw [← hX]; exact (HN.out.r.set3 _ _ _).other3 (by omega) _ _ _
          have hX3 : Bx (w.heap.size + 1 + 1 + 1) [.bool false, .int .i64 0, .int .i64 0] X := by rw [← hX]; exact (HN.out.t.other3 (by omega) _ _ _).set3 _ _ _
          have hXB : Below w.heap.size w X := by rw [← hX]; exact bset3 (bset3 HN.out.bel (by omega) _ _ _) (by omega) _ _ _
          obtain ⟨x0, x1, x2, _⟩ := hX2.all3
          obtain ⟨y0, y1, y2, _⟩ := hX3.all3
          exact bodyPost_ret (v := .tuple #[.agg #[.bool false, .int .i64 0, .int .i64 0], .agg #[.bool false, .int .i64 0, .int .i64 0], .int .i64 4]) (by simp [results, Try.results25, go_sem, x0, x1, x2, y0, y1, y2]) rfl ⟨congrArg Ending.returned (HV.out.symm.trans HRES.out), hXB⟩
        · have ex : decide (x < 0) = false := by simpa using hx0
          have HS1 : Hid (Num.spanS A B (k + 1) = Num.spanS A B k) := by
            show _ = _
            rw [HE.out]; unfold Num.aboveS; rw [if_pos (HSG.out.2.2.1.2 h0)]
            have : decide (ak < 0) = false := by simpa using fun h => hx0 (HSG.out.2.2.2.1 h)
            rw [this, Bool.or_false]
          obtain ⟨p0, p1, _, _⟩ := hN.p.all2
          obtain ⟨q0, q1, _, _⟩ := hN.q.all2
          obtain ⟨r0, r1, r2, rf0, rf1, rf2⟩ := hN.r.all3
          obtain ⟨t0, t1, t2, tf0, tf1, tf2⟩ := hN.t.all3
          obtain ⟨f0, f1, f2, ff0, ff1, ff2⟩ := hN.f.all3
          obtain ⟨g0, g1, g2, gf0, gf1, gf2⟩ := hN.g.all3
          have z5 : w.heap.size + 1 + 1 + 1 + 1 + 1 < wr.heap.size := hN.g.lt
          have z4 : w.heap.size + 1 + 1 + 1 + 1 < wr.heap.size := hN.f.lt
          have z3 : w.heap.size + 1 + 1 + 1 < wr.heap.size := hN.t.lt
          have z2 : w.heap.size + 1 + 1 < wr.heap.size := hN.r.lt
          have z1 : w.heap.size + 1 < wr.heap.size := hN.q.lt
          have z0 : w.heap.size < wr.heap.size := hN.p.lt
          have HN : Hid _ := hN
          clear hN
          go_wp2_with fail
          go_roundw
          case rel => exact ⟨k + 1, hlt, by go_num, by rw [HS1.out]; exact HNO.out, by rw [HS1.out]; exact HN.out⟩
          case measure => simp [intOf]; omega
      obtain ⟨zx, zy, hmk, _, hzm⟩ := Num.small_at0 ak bk hM (fun h => h0 (HSG.out.2.2.1.1 h))
      have HMK : Hid (Num.mk (-ak) bk = (zx, zy, 0)) := by show _ = _; rw [← Int.zero_sub]; exact hmk
      have e0 : (st == 0) = false := by simpa using h0
      generalize hs1 : Num.spanS A B (k + 1) = s1 at HE
      have HS1 : Hid (Num.spanS A B (k + 1) = s1) := hs1
      clear hs1
      generalize hs0 : Num.spanS A B k = s at HE HNO hN hS
      clear hs0 hM HA HB HSM HS HK HI HJ
      obtain ⟨so, sn, sdd, so2, sn2, sdd2, sno⟩ := s
      by_cases hp : 0 < st
      · have e1 : decide (0 < st) = true := by simp; omega
        have e2 : decide (st < 0) = false := by simp; omega
        have hqp : 0 < bk := HSG.out.1.2 hp
        cases so
        · by_cases hc : sn * zy < zx * sdd
          · have HR : Hid (s1 = ⟨false, zx, zy, so2, sn2, sdd2, sno⟩) := by show _ = _; rw [HE.out]; unfold Num.aboveS; rw [if_neg (by omega), if_pos hqp, hmk]; simp only; rw [if_pos (Or.inr hc)]
            have KL : Hid (∀ w', Calls Try.prog 60 #[.agg #[.int .i64 sn, .int .i64 sdd], .agg #[.int .i64 zx, .int .i64 zy]] w' fun e w'' => e = .returned (.bool true) ∧ Below w'.heap.size w' w'') := less_is sn sdd zx zy (Num.lo_den A B k _ _ _ hS.lo rfl).2 hzm true (by simpa using hc)
            clear hc
            clear HE hS hmk hzm HSG
            obtain ⟨p0, p1, _, _⟩ := hN.p.all2
            obtain ⟨q0, q1, _, _⟩ := hN.q.all2
            obtain ⟨r0, r1, r2, rf0, rf1, rf2⟩ := hN.r.all3
            obtain ⟨t0, t1, t2, tf0, tf1, tf2⟩ := hN.t.all3
            obtain ⟨f0, f1, f2, ff0, ff1, ff2⟩ := hN.f.all3
            obtain ⟨g0, g1, g2, gf0, gf1, gf2⟩ := hN.g.all3
            have z5 : w.heap.size + 1 + 1 + 1 + 1 + 1 < wr.heap.size := hN.g.lt
            have z4 : w.heap.size + 1 + 1 + 1 + 1 < wr.heap.size := hN.f.lt
            have z3 : w.heap.size + 1 + 1 + 1 < wr.heap.size := hN.t.lt
            have z2 : w.heap.size + 1 + 1 < wr.heap.size := hN.r.lt
            have z1 : w.heap.size + 1 < wr.heap.size := hN.q.lt
            have z0 : w.heap.size < wr.heap.size := hN.p.lt
            have HN : Hid _ := hN
            clear hN
            go_wp2_with fail
            refine (make_any _ _ _ zx zy 0 HMK.out).mono ?_
            rintro e w1 ⟨rfl, hb1⟩
            have hN := HN.out.step hb1
            clear HN hb1 p0 p1 q0 q1 r0 r1 r2 rf0 rf1 rf2 t0 t1 t2 tf0 tf1 tf2 f0 f1 f2 ff0 ff1 ff2 g0 g1 g2 gf0 gf1 gf2 z0 z1 z2 z3 z4 z5 cn cs
            obtain ⟨p0, p1, _, _⟩ := hN.p.all2
            obtain ⟨q0, q1, _, _⟩ := hN.q.all2
            obtain ⟨r0, r1, r2, rf0, rf1, rf2⟩ := hN.r.all3
            obtain ⟨t0, t1, t2, tf0, tf1, tf2⟩ := hN.t.all3
            obtain ⟨f0, f1, f2, ff0, ff1, ff2⟩ := hN.f.all3
            obtain ⟨g0, g1, g2, gf0, gf1, gf2⟩ := hN.g.all3
            have z5 : w.heap.size + 1 + 1 + 1 + 1 + 1 < w1.heap.size := hN.g.lt
            have z4 : w.heap.size + 1 + 1 + 1 + 1 < w1.heap.size := hN.f.lt
            have z3 : w.heap.size + 1 + 1 + 1 < w1.heap.size := hN.t.lt
            have z2 : w.heap.size + 1 + 1 < w1.heap.size := hN.r.lt
            have z1 : w.heap.size + 1 < w1.heap.size := hN.q.lt
            have z0 : w.heap.size < w1.heap.size := hN.p.lt
            have HN : Hid _ := hN
            clear hN
            go_wp2_with fail
            refine (KL.out _).mono ?_
            rintro e w2 ⟨rfl, hb2⟩
            have hN := (HN.out.step (balloc _ _)).step hb2
            have hT : Bx w1.heap.size [.int .i64 zx, .int .i64 zy] w2 := (Bx.new rfl _ _).step hb2
            obtain ⟨v0, v1, _, _⟩ := hT.all2
            clear HN hb2 hT p0 p1 q0 q1 r0 r1 r2 rf0 rf1 rf2 t0 t1 t2 tf0 tf1 tf2 f0 f1 f2 ff0 ff1 ff2 g0 g1 g2 gf0 gf1 gf2 z0 z1 z2 z3 z4 z5
            obtain ⟨p0, p1, _, _⟩ := hN.p.all2
            obtain ⟨q0, q1, _, _⟩ := hN.q.all2
            obtain ⟨r0, r1, r2, rf0, rf1, rf2⟩ := hN.r.all3
            obtain ⟨t0, t1, t2, tf0, tf1, tf2⟩ := hN.t.all3
            obtain ⟨f0, f1, f2, ff0, ff1, ff2⟩ := hN.f.all3
            obtain ⟨g0, g1, g2, gf0, gf1, gf2⟩ := hN.g.all3
            have z5 : w.heap.size + 1 + 1 + 1 + 1 + 1 < w2.heap.size := hN.g.lt
            have z4 : w.heap.size + 1 + 1 + 1 + 1 < w2.heap.size := hN.f.lt
            have z3 : w.heap.size + 1 + 1 + 1 < w2.heap.size := hN.t.lt
            have z2 : w.heap.size + 1 + 1 < w2.heap.size := hN.r.lt
            have z1 : w.heap.size + 1 < w2.heap.size := hN.q.lt
            have z0 : w.heap.size < w2.heap.size := hN.p.lt
            have HN : Hid _ := hN
            clear hN
            go_wp2_with fail
            go_roundw
            case rel => exact ⟨k + 1, hlt, by go_num, by rw [HS1.out, HR.out]; exact HNO.out, by rw [HS1.out]; exact NB.setF HN.out false zx zy s1 HR.out⟩
            case measure => simp [intOf]; omega
          · have HR : Hid (s1 = ⟨false, sn, sdd, so2, sn2, sdd2, sno⟩) := by show _ = _; rw [HE.out]; unfold Num.aboveS; rw [if_neg (by omega), if_pos hqp, hmk]; simp only; rw [if_neg (by rintro (h | h); cases h; exact hc h)]
            have KL : Hid (∀ w', Calls Try.prog 60 #[.agg #[.int .i64 sn, .int .i64 sdd], .agg #[.int .i64 zx, .int .i64 zy]] w' fun e w'' => e = .returned (.bool false) ∧ Below w'.heap.size w' w'') := less_is sn sdd zx zy (Num.lo_den A B k _ _ _ hS.lo rfl).2 hzm false (by simpa using hc)
            clear hc
            clear HE hS hmk hzm HSG
            obtain ⟨p0, p1, _, _⟩ := hN.p.all2
            obtain ⟨q0, q1, _, _⟩ := hN.q.all2
            obtain ⟨r0, r1, r2, rf0, rf1, rf2⟩ := hN.r.all3
            obtain ⟨t0, t1, t2, tf0, tf1, tf2⟩ := hN.t.all3
            obtain ⟨f0, f1, f2, ff0, ff1, ff2⟩ := hN.f.all3
            obtain ⟨g0, g1, g2, gf0, gf1, gf2⟩ := hN.g.all3
            have z5 : w.heap.size + 1 + 1 + 1 + 1 + 1 < wr.heap.size := hN.g.lt
            have z4 : w.heap.size + 1 + 1 + 1 + 1 < wr.heap.size := hN.f.lt
            have z3 : w.heap.size + 1 + 1 + 1 < wr.heap.size := hN.t.lt
            have z2 : w.heap.size + 1 + 1 < wr.heap.size := hN.r.lt
            have z1 : w.heap.size + 1 < wr.heap.size := hN.q.lt
            have z0 : w.heap.size < wr.heap.size := hN.p.lt
            have HN : Hid _ := hN
            clear hN
            go_wp2_with fail
            refine (make_any _ _ _ zx zy 0 HMK.out).mono ?_
            rintro e w1 ⟨rfl, hb1⟩
            have hN := HN.out.step hb1
            clear HN hb1 p0 p1 q0 q1 r0 r1 r2 rf0 rf1 rf2 t0 t1 t2 tf0 tf1 tf2 f0 f1 f2 ff0 ff1 ff2 g0 g1 g2 gf0 gf1 gf2 z0 z1 z2 z3 z4 z5 cn cs
            obtain ⟨p0, p1, _, _⟩ := hN.p.all2
            obtain ⟨q0, q1, _, _⟩ := hN.q.all2
            obtain ⟨r0, r1, r2, rf0, rf1, rf2⟩ := hN.r.all3
            obtain ⟨t0, t1, t2, tf0, tf1, tf2⟩ := hN.t.all3
            obtain ⟨f0, f1, f2, ff0, ff1, ff2⟩ := hN.f.all3
            obtain ⟨g0, g1, g2, gf0, gf1, gf2⟩ := hN.g.all3
            have z5 : w.heap.size + 1 + 1 + 1 + 1 + 1 < w1.heap.size := hN.g.lt
            have z4 : w.heap.size + 1 + 1 + 1 + 1 < w1.heap.size := hN.f.lt
            have z3 : w.heap.size + 1 + 1 + 1 < w1.heap.size := hN.t.lt
            have z2 : w.heap.size + 1 + 1 < w1.heap.size := hN.r.lt
            have z1 : w.heap.size + 1 < w1.heap.size := hN.q.lt
            have z0 : w.heap.size < w1.heap.size := hN.p.lt
            have HN : Hid _ := hN
            clear hN
            go_wp2_with fail
            refine (KL.out _).mono ?_
            rintro e w2 ⟨rfl, hb2⟩
            have hN := (HN.out.step (balloc _ _)).step hb2
            have hT : Bx w1.heap.size [.int .i64 zx, .int .i64 zy] w2 := (Bx.new rfl _ _).step hb2
            obtain ⟨v0, v1, _, _⟩ := hT.all2
            clear HN hb2 hT p0 p1 q0 q1 r0 r1 r2 rf0 rf1 rf2 t0 t1 t2 tf0 tf1 tf2 f0 f1 f2 ff0 ff1 ff2 g0 g1 g2 gf0 gf1 gf2 z0 z1 z2 z3 z4 z5
            obtain ⟨p0, p1, _, _⟩ := hN.p.all2
            obtain ⟨q0, q1, _, _⟩ := hN.q.all2
            obtain ⟨r0, r1, r2, rf0, rf1, rf2⟩ := hN.r.all3
            obtain ⟨t0, t1, t2, tf0, tf1, tf2⟩ := hN.t.all3
            obtain ⟨f0, f1, f2, ff0, ff1, ff2⟩ := hN.f.all3
            obtain ⟨g0, g1, g2, gf0, gf1, gf2⟩ := hN.g.all3
            have z5 : w.heap.size + 1 + 1 + 1 + 1 + 1 < w2.heap.size := hN.g.lt
            have z4 : w.heap.size + 1 + 1 + 1 + 1 < w2.heap.size := hN.f.lt
            have z3 : w.heap.size + 1 + 1 + 1 < w2.heap.size := hN.t.lt
            have z2 : w.heap.size + 1 + 1 < w2.heap.size := hN.r.lt
            have z1 : w.heap.size + 1 < w2.heap.size := hN.q.lt
            have z0 : w.heap.size < w2.heap.size := hN.p.lt
            have HN : Hid _ := hN
            clear hN
            go_wp2_with fail
            go_roundw
            case rel => exact ⟨k + 1, hlt, by go_num, by rw [HS1.out, HR.out]; exact HNO.out, by rw [HS1.out, HR.out]; exact HN.out⟩
            case measure => simp [intOf]; omega
        · have HR : Hid (s1 = ⟨false, zx, zy, so2, sn2, sdd2, sno⟩) := by show _ = _; rw [HE.out]; unfold Num.aboveS; rw [if_neg (by omega), if_pos hqp, hmk]; simp
          clear HE hS hmk hzm HSG
          obtain ⟨p0, p1, _, _⟩ := hN.p.all2
          obtain ⟨q0, q1, _, _⟩ := hN.q.all2
          obtain ⟨r0, r1, r2, rf0, rf1, rf2⟩ := hN.r.all3
          obtain ⟨t0, t1, t2, tf0, tf1, tf2⟩ := hN.t.all3
          obtain ⟨f0, f1, f2, ff0, ff1, ff2⟩ := hN.f.all3
          obtain ⟨g0, g1, g2, gf0, gf1, gf2⟩ := hN.g.all3
          have z5 : w.heap.size + 1 + 1 + 1 + 1 + 1 < wr.heap.size := hN.g.lt
          have z4 : w.heap.size + 1 + 1 + 1 + 1 < wr.heap.size := hN.f.lt
          have z3 : w.heap.size + 1 + 1 + 1 < wr.heap.size := hN.t.lt
          have z2 : w.heap.size + 1 + 1 < wr.heap.size := hN.r.lt
          have z1 : w.heap.size + 1 < wr.heap.size := hN.q.lt
          have z0 : w.heap.size < wr.heap.size := hN.p.lt
          have HN : Hid _ := hN
          clear hN
          go_wp2_with fail
          refine (make_any _ _ _ zx zy 0 HMK.out).mono ?_
          rintro e w1 ⟨rfl, hb1⟩
          have hN := HN.out.step hb1
          clear HN hb1 p0 p1 q0 q1 r0 r1 r2 rf0 rf1 rf2 t0 t1 t2 tf0 tf1 tf2 f0 f1 f2 ff0 ff1 ff2 g0 g1 g2 gf0 gf1 gf2 z0 z1 z2 z3 z4 z5 cn cs
          obtain ⟨p0, p1, _, _⟩ := hN.p.all2
          obtain ⟨q0, q1, _, _⟩ := hN.q.all2
          obtain ⟨r0, r1, r2, rf0, rf1, rf2⟩ := hN.r.all3
          obtain ⟨t0, t1, t2, tf0, tf1, tf2⟩ := hN.t.all3
          obtain ⟨f0, f1, f2, ff0, ff1, ff2⟩ := hN.f.all3
          obtain ⟨g0, g1, g2, gf0, gf1, gf2⟩ := hN.g.all3
          have z5 : w.heap.size + 1 + 1 + 1 + 1 + 1 < w1.heap.size := hN.g.lt
          have z4 : w.heap.size + 1 + 1 + 1 + 1 < w1.heap.size := hN.f.lt
          have z3 : w.heap.size + 1 + 1 + 1 < w1.heap.size := hN.t.lt
          have z2 : w.heap.size + 1 + 1 < w1.heap.size := hN.r.lt
          have z1 : w.heap.size + 1 < w1.heap.size := hN.q.lt
          have z0 : w.heap.size < w1.heap.size := hN.p.lt
          have HN : Hid _ := hN
          clear hN
          go_wp2_with fail
          go_roundw
          case rel => exact ⟨k + 1, hlt, by go_num, by rw [HS1.out, HR.out]; exact HNO.out, by rw [HS1.out]; exact (NB.setF HN.out false zx zy s1 HR.out).step (balloc _ _)⟩
          case measure => simp [intOf]; omega
      · have e1 : decide (0 < st) = false := by simp; omega
        have e2 : decide (st < 0) = true := by simp; omega
        have hqp : bk < 0 := HSG.out.2.1.2 (by omega)
        cases so2
        · by_cases hc : zx * sdd2 < sn2 * zy
          · have HR : Hid (s1 = ⟨so, sn, sdd, false, zx, zy, sno⟩) := by show _ = _; rw [HE.out]; unfold Num.aboveS; rw [if_neg (by omega), if_neg (by omega), hmk]; simp only; rw [if_pos (Or.inr hc)]
            have KL : Hid (∀ w', Calls Try.prog 60 #[.agg #[.int .i64 zx, .int .i64 zy], .agg #[.int .i64 sn2, .int .i64 sdd2]] w' fun e w'' => e = .returned (.bool true) ∧ Below w'.heap.size w' w'') := less_is zx zy sn2 sdd2 hzm (Num.hi_den A B k _ _ _ hS.hi rfl).2 true (by simpa using hc)
            clear hc
            clear HE hS hmk hzm HSG
            obtain ⟨p0, p1, _, _⟩ := hN.p.all2
            obtain ⟨q0, q1, _, _⟩ := hN.q.all2
            obtain ⟨r0, r1, r2, rf0, rf1, rf2⟩ := hN.r.all3
            obtain ⟨t0, t1, t2, tf0, tf1, tf2⟩ := hN.t.all3
            obtain ⟨f0, f1, f2, ff0, ff1, ff2⟩ := hN.f.all3
            obtain ⟨g0, g1, g2, gf0, gf1, gf2⟩ := hN.g.all3
            have z5 : w.heap.size + 1 + 1 + 1 + 1 + 1 < wr.heap.size := hN.g.lt
            have z4 : w.heap.size + 1 + 1 + 1 + 1 < wr.heap.size := hN.f.lt
            have z3 : w.heap.size + 1 + 1 + 1 < wr.heap.size := hN.t.lt
            have z2 : w.heap.size + 1 + 1 < wr.heap.size := hN.r.lt
            have z1 : w.heap.size + 1 < wr.heap.size := hN.q.lt
            have z0 : w.heap.size < wr.heap.size := hN.p.lt
            have HN : Hid _ := hN
            clear hN
            go_wp2_with fail
            refine (make_any _ _ _ zx zy 0 HMK.out).mono ?_
            rintro e w1 ⟨rfl, hb1⟩
            have hN := HN.out.step hb1
            clear HN hb1 p0 p1 q0 q1 r0 r1 r2 rf0 rf1 rf2 t0 t1 t2 tf0 tf1 tf2 f0 f1 f2 ff0 ff1 ff2 g0 g1 g2 gf0 gf1 gf2 z0 z1 z2 z3 z4 z5 cn cs
            obtain ⟨p0, p1, _, _⟩ := hN.p.all2
            obtain ⟨q0, q1, _, _⟩ := hN.q.all2
            obtain ⟨r0, r1, r2, rf0, rf1, rf2⟩ := hN.r.all3
            obtain ⟨t0, t1, t2, tf0, tf1, tf2⟩ := hN.t.all3
            obtain ⟨f0, f1, f2, ff0, ff1, ff2⟩ := hN.f.all3
            obtain ⟨g0, g1, g2, gf0, gf1, gf2⟩ := hN.g.all3
            have z5 : w.heap.size + 1 + 1 + 1 + 1 + 1 < w1.heap.size := hN.g.lt
            have z4 : w.heap.size + 1 + 1 + 1 + 1 < w1.heap.size := hN.f.lt
            have z3 : w.heap.size + 1 + 1 + 1 < w1.heap.size := hN.t.lt
            have z2 : w.heap.size + 1 + 1 < w1.heap.size := hN.r.lt
            have z1 : w.heap.size + 1 < w1.heap.size := hN.q.lt
            have z0 : w.heap.size < w1.heap.size := hN.p.lt
            have HN : Hid _ := hN
            clear hN
            go_wp2_with fail
            refine (KL.out _).mono ?_
            rintro e w2 ⟨rfl, hb2⟩
            have hN := (HN.out.step (balloc _ _)).step hb2
            have hT : Bx w1.heap.size [.int .i64 zx, .int .i64 zy] w2 := (Bx.new rfl _ _).step hb2
            obtain ⟨v0, v1, _, _⟩ := hT.all2
            clear HN hb2 hT p0 p1 q0 q1 r0 r1 r2 rf0 rf1 rf2 t0 t1 t2 tf0 tf1 tf2 f0 f1 f2 ff0 ff1 ff2 g0 g1 g2 gf0 gf1 gf2 z0 z1 z2 z3 z4 z5
            obtain ⟨p0, p1, _, _⟩ := hN.p.all2
            obtain ⟨q0, q1, _, _⟩ := hN.q.all2
            obtain ⟨r0, r1, r2, rf0, rf1, rf2⟩ := hN.r.all3
            obtain ⟨t0, t1, t2, tf0, tf1, tf2⟩ := hN.t.all3
            obtain ⟨f0, f1, f2, ff0, ff1, ff2⟩ := hN.f.all3
            obtain ⟨g0, g1, g2, gf0, gf1, gf2⟩ := hN.g.all3
            have z5 : w.heap.size + 1 + 1 + 1 + 1 + 1 < w2.heap.size := hN.g.lt
            have z4 : w.heap.size + 1 + 1 + 1 + 1 < w2.heap.size := hN.f.lt
            have z3 : w.heap.size + 1 + 1 + 1 < w2.heap.size := hN.t.lt
            have z2 : w.heap.size + 1 + 1 < w2.heap.size := hN.r.lt
            have z1 : w.heap.size + 1 < w2.heap.size := hN.q.lt
            have z0 : w.heap.size < w2.heap.size := hN.p.lt
            have HN : Hid _ := hN
            clear hN
            go_wp2_with fail
            go_roundw
            case rel => exact ⟨k + 1, hlt, by go_num, by rw [HS1.out, HR.out]; exact HNO.out, by rw [HS1.out]; exact NB.setG HN.out false zx zy s1 HR.out⟩
            case measure => simp [intOf]; omega
          · have HR : Hid (s1 = ⟨so, sn, sdd, false, sn2, sdd2, sno⟩) := by show _ = _; rw [HE.out]; unfold Num.aboveS; rw [if_neg (by omega), if_neg (by omega), hmk]; simp only; rw [if_neg (by rintro (h | h); cases h; exact hc h)]
            have KL : Hid (∀ w', Calls Try.prog 60 #[.agg #[.int .i64 zx, .int .i64 zy], .agg #[.int .i64 sn2, .int .i64 sdd2]] w' fun e w'' => e = .returned (.bool false) ∧ Below w'.heap.size w' w'') := less_is zx zy sn2 sdd2 hzm (Num.hi_den A B k _ _ _ hS.hi rfl).2 false (by simpa using hc)
            clear hc
            clear HE hS hmk hzm HSG
            obtain ⟨p0, p1, _, _⟩ := hN.p.all2
            obtain ⟨q0, q1, _, _⟩ := hN.q.all2
            obtain ⟨r0, r1, r2, rf0, rf1, rf2⟩ := hN.r.all3
            obtain ⟨t0, t1, t2, tf0, tf1, tf2⟩ := hN.t.all3
            obtain ⟨f0, f1, f2, ff0, ff1, ff2⟩ := hN.f.all3
            obtain ⟨g0, g1, g2, gf0, gf1, gf2⟩ := hN.g.all3
            have z5 : w.heap.size + 1 + 1 + 1 + 1 + 1 < wr.heap.size := hN.g.lt
            have z4 : w.heap.size + 1 + 1 + 1 + 1 < wr.heap.size := hN.f.lt
            have z3 : w.heap.size + 1 + 1 + 1 < wr.heap.size := hN.t.lt
            have z2 : w.heap.size + 1 + 1 < wr.heap.size := hN.r.lt
            have z1 : w.heap.size + 1 < wr.heap.size := hN.q.lt
            have z0 : w.heap.size < wr.heap.size := hN.p.lt
            have HN : Hid _ := hN
            clear hN
            go_wp2_with fail
            refine (make_any _ _ _ zx zy 0 HMK.out).mono ?_
            rintro e w1 ⟨rfl, hb1⟩
            have hN := HN.out.step hb1
            clear HN hb1 p0 p1 q0 q1 r0 r1 r2 rf0 rf1 rf2 t0 t1 t2 tf0 tf1 tf2 f0 f1 f2 ff0 ff1 ff2 g0 g1 g2 gf0 gf1 gf2 z0 z1 z2 z3 z4 z5 cn cs
            obtain ⟨p0, p1, _, _⟩ := hN.p.all2
            obtain ⟨q0, q1, _, _⟩ := hN.q.all2
            obtain ⟨r0, r1, r2, rf0, rf1, rf2⟩ := hN.r.all3
            obtain ⟨t0, t1, t2, tf0, tf1, tf2⟩ := hN.t.all3
            obtain ⟨f0, f1, f2, ff0, ff1, ff2⟩ := hN.f.all3
            obtain ⟨g0, g1, g2, gf0, gf1, gf2⟩ := hN.g.all3
            have z5 : w.heap.size + 1 + 1 + 1 + 1 + 1 < w1.heap.size := hN.g.lt
            have z4 : w.heap.size + 1 + 1 + 1 + 1 < w1.heap.size := hN.f.lt
            have z3 : w.heap.size + 1 + 1 + 1 < w1.heap.size := hN.t.lt
            have z2 : w.heap.size + 1 + 1 < w1.heap.size := hN.r.lt
            have z1 : w.heap.size + 1 < w1.heap.size := hN.q.lt
            have z0 : w.heap.size < w1.heap.size := hN.p.lt
            have HN : Hid _ := hN
            clear hN
            go_wp2_with fail
            refine (KL.out _).mono ?_
            rintro e w2 ⟨rfl, hb2⟩
            have hN := (HN.out.step (balloc _ _)).step hb2
            have hT : Bx w1.heap.size [.int .i64 zx, .int .i64 zy] w2 := (Bx.new rfl _ _).step hb2
            obtain ⟨v0, v1, _, _⟩ := hT.all2
            clear HN hb2 hT p0 p1 q0 q1 r0 r1 r2 rf0 rf1 rf2 t0 t1 t2 tf0 tf1 tf2 f0 f1 f2 ff0 ff1 ff2 g0 g1 g2 gf0 gf1 gf2 z0 z1 z2 z3 z4 z5
            obtain ⟨p0, p1, _, _⟩ := hN.p.all2
            obtain ⟨q0, q1, _, _⟩ := hN.q.all2
            obtain ⟨r0, r1, r2, rf0, rf1, rf2⟩ := hN.r.all3
            obtain ⟨t0, t1, t2, tf0, tf1, tf2⟩ := hN.t.all3
            obtain ⟨f0, f1, f2, ff0, ff1, ff2⟩ := hN.f.all3
            obtain ⟨g0, g1, g2, gf0, gf1, gf2⟩ := hN.g.all3
            have z5 : w.heap.size + 1 + 1 + 1 + 1 + 1 < w2.heap.size := hN.g.lt
            have z4 : w.heap.size + 1 + 1 + 1 + 1 < w2.heap.size := hN.f.lt
            have z3 : w.heap.size + 1 + 1 + 1 < w2.heap.size := hN.t.lt
            have z2 : w.heap.size + 1 + 1 < w2.heap.size := hN.r.lt
            have z1 : w.heap.size + 1 < w2.heap.size := hN.q.lt
            have z0 : w.heap.size < w2.heap.size := hN.p.lt
            have HN : Hid _ := hN
            clear hN
            go_wp2_with fail
            go_roundw
            case rel => exact ⟨k + 1, hlt, by go_num, by rw [HS1.out, HR.out]; exact HNO.out, by rw [HS1.out, HR.out]; exact HN.out⟩
            case measure => simp [intOf]; omega
        · have HR : Hid (s1 = ⟨so, sn, sdd, false, zx, zy, sno⟩) := by show _ = _; rw [HE.out]; unfold Num.aboveS; rw [if_neg (by omega), if_neg (by omega), hmk]; simp
          clear HE hS hmk hzm HSG
          obtain ⟨p0, p1, _, _⟩ := hN.p.all2
          obtain ⟨q0, q1, _, _⟩ := hN.q.all2
          obtain ⟨r0, r1, r2, rf0, rf1, rf2⟩ := hN.r.all3
          obtain ⟨t0, t1, t2, tf0, tf1, tf2⟩ := hN.t.all3
          obtain ⟨f0, f1, f2, ff0, ff1, ff2⟩ := hN.f.all3
          obtain ⟨g0, g1, g2, gf0, gf1, gf2⟩ := hN.g.all3
          have z5 : w.heap.size + 1 + 1 + 1 + 1 + 1 < wr.heap.size := hN.g.lt
          have z4 : w.heap.size + 1 + 1 + 1 + 1 < wr.heap.size := hN.f.lt
          have z3 : w.heap.size + 1 + 1 + 1 < wr.heap.size := hN.t.lt
          have z2 : w.heap.size + 1 + 1 < wr.heap.size := hN.r.lt
          have z1 : w.heap.size + 1 < wr.heap.size := hN.q.lt
          have z0 : w.heap.size < wr.heap.size := hN.p.lt
          have HN : Hid _ := hN
          clear hN
          go_wp2_with fail
          refine (make_any _ _ _ zx zy 0 HMK.out).mono ?_
          rintro e w1 ⟨rfl, hb1⟩
          have hN := HN.out.step hb1
          clear HN hb1 p0 p1 q0 q1 r0 r1 r2 rf0 rf1 rf2 t0 t1 t2 tf0 tf1 tf2 f0 f1 f2 ff0 ff1 ff2 g0 g1 g2 gf0 gf1 gf2 z0 z1 z2 z3 z4 z5 cn cs
          obtain ⟨p0, p1, _, _⟩ := hN.p.all2
          obtain ⟨q0, q1, _, _⟩ := hN.q.all2
          obtain ⟨r0, r1, r2, rf0, rf1, rf2⟩ := hN.r.all3
          obtain ⟨t0, t1, t2, tf0, tf1, tf2⟩ := hN.t.all3
          obtain ⟨f0, f1, f2, ff0, ff1, ff2⟩ := hN.f.all3
          obtain ⟨g0, g1, g2, gf0, gf1, gf2⟩ := hN.g.all3
          have z5 : w.heap.size + 1 + 1 + 1 + 1 + 1 < w1.heap.size := hN.g.lt
          have z4 : w.heap.size + 1 + 1 + 1 + 1 < w1.heap.size := hN.f.lt
          have z3 : w.heap.size + 1 + 1 + 1 < w1.heap.size := hN.t.lt
          have z2 : w.heap.size + 1 + 1 < w1.heap.size := hN.r.lt
          have z1 : w.heap.size + 1 < w1.heap.size := hN.q.lt
          have z0 : w.heap.size < w1.heap.size := hN.p.lt
          have HN : Hid _ := hN
          clear hN
          go_wp2_with fail
          go_roundw
          case rel => exact ⟨k + 1, hlt, by go_num, by rw [HS1.out, HR.out]; exact HNO.out, by rw [HS1.out]; exact (NB.setG HN.out false zx zy s1 HR.out).step (balloc _ _)⟩
          case measure => simp [intOf]; omega
    · have hke : k = N := by omega
      subst hke
      have hS := HS.out k (Nat.le_refl _)
      generalize hs0 : Num.spanS A B k = s at HRES HNO hN hS
      clear hs0 HA HB HSM HS HK HI HJ
      obtain ⟨so, sn, sdd, so2, sn2, sdd2, sno⟩ := s
      have hsno : sno = false := HNO.out
      subst hsno
      clear HNO
      cases so
      · cases so2
        · by_cases hc : sn2 * sdd < sn * sdd2
          · have HV : Hid (endsV ⟨false, sn, sdd, false, sn2, sdd2, false⟩ = .tuple #[.agg #[.bool false, .int .i64 0, .int .i64 0], .agg #[.bool false, .int .i64 0, .int .i64 0], .int .i64 4]) := by show _ = _; unfold endsV; rw [if_pos (by unfold Num.emptyS; simp; omega)]
            have KL : Hid (∀ w', Calls Try.prog 60 #[.agg #[.int .i64 sn2, .int .i64 sdd2], .agg #[.int .i64 sn, .int .i64 sdd]] w' fun e w'' => e = .returned (.bool true) ∧ Below w'.heap.size w' w'') := less_is sn2 sdd2 sn sdd (Num.hi_den A B k _ _ _ hS.hi rfl).2 (Num.lo_den A B k _ _ _ hS.lo rfl).2 true (by simpa using hc)
            clear hc hS
            obtain ⟨p0, p1, _, _⟩ := hN.p.all2
            obtain ⟨q0, q1, _, _⟩ := hN.q.all2
            obtain ⟨r0, r1, r2, rf0, rf1, rf2⟩ := hN.r.all3
            obtain ⟨t0, t1, t2, tf0, tf1, tf2⟩ := hN.t.all3
            obtain ⟨f0, f1, f2, ff0, ff1, ff2⟩ := hN.f.all3
            obtain ⟨g0, g1, g2, gf0, gf1, gf2⟩ := hN.g.all3
            have z5 : w.heap.size + 1 + 1 + 1 + 1 + 1 < wr.heap.size := hN.g.lt
            have z4 : w.heap.size + 1 + 1 + 1 + 1 < wr.heap.size := hN.f.lt
            have z3 : w.heap.size + 1 + 1 + 1 < wr.heap.size := hN.t.lt
            have z2 : w.heap.size + 1 + 1 < wr.heap.size := hN.r.lt
            have z1 : w.heap.size + 1 < wr.heap.size := hN.q.lt
            have z0 : w.heap.size < wr.heap.size := hN.p.lt
            have HN : Hid _ := hN
            clear hN
            go_wp2_with fail
            refine (KL.out _).mono ?_
            rintro e w2 ⟨rfl, hb2⟩
            have hN := HN.out.step hb2
            clear HN hb2 p0 p1 q0 q1 r0 r1 r2 rf0 rf1 rf2 t0 t1 t2 tf0 tf1 tf2 f0 f1 f2 ff0 ff1 ff2 g0 g1 g2 gf0 gf1 gf2 z0 z1 z2 z3 z4 z5
            obtain ⟨p0, p1, _, _⟩ := hN.p.all2
            obtain ⟨q0, q1, _, _⟩ := hN.q.all2
            obtain ⟨r0, r1, r2, rf0, rf1, rf2⟩ := hN.r.all3
            obtain ⟨t0, t1, t2, tf0, tf1, tf2⟩ := hN.t.all3
            obtain ⟨f0, f1, f2, ff0, ff1, ff2⟩ := hN.f.all3
            obtain ⟨g0, g1, g2, gf0, gf1, gf2⟩ := hN.g.all3
            have z5 : w.heap.size + 1 + 1 + 1 + 1 + 1 < w2.heap.size := hN.g.lt
            have z4 : w.heap.size + 1 + 1 + 1 + 1 < w2.heap.size := hN.f.lt
            have z3 : w.heap.size + 1 + 1 + 1 < w2.heap.size := hN.t.lt
            have z2 : w.heap.size + 1 + 1 < w2.heap.size := hN.r.lt
            have z1 : w.heap.size + 1 < w2.heap.size := hN.q.lt
            have z0 : w.heap.size < w2.heap.size := hN.p.lt
            have HN : Hid _ := hN
            clear hN
            go_wp2_with fail
            generalize hX : ((((((w2).setCell ⟨w.heap.size + 1 + 1, 0, none⟩ (.bool false)).setCell ⟨w.heap.size + 1 + 1, 1, none⟩ (.int .i64 0)).setCell ⟨w.heap.size + 1 + 1, 2, none⟩ (.int .i64 0)).setCell ⟨w.heap.size + 1 + 1 + 1, 0, none⟩ (.bool false)).setCell ⟨w.heap.size + 1 + 1 + 1, 1, none⟩ (.int .i64 0)).setCell ⟨w.heap.size + 1 + 1 + 1, 2, none⟩ (.int .i64 0) = X
            have hX2 : Bx (w.heap.size + 1 + 1) [.bool false, .int .i64 0, .int .i64 0] X := by rw [← hX]; exact (HN.out.r.set3 _ _ _).other3 (by omega) _ _ _
            have hX3 : Bx (w.heap.size + 1 + 1 + 1) [.bool false, .int .i64 0, .int .i64 0] X := by rw [← hX]; exact (HN.out.t.other3 (by omega) _ _ _).set3 _ _ _
            have hXB : Below w.heap.size w X := by rw [← hX]; exact bset3 (bset3 HN.out.bel (by omega) _ _ _) (by omega) _ _ _
            obtain ⟨x0, x1, x2, _⟩ := hX2.all3
            obtain ⟨y0, y1, y2, _⟩ := hX3.all3
            exact bodyPost_ret (v := .tuple #[.agg #[.bool false, .int .i64 0, .int .i64 0], .agg #[.bool false, .int .i64 0, .int .i64 0], .int .i64 4]) (by simp [results, Try.results25, go_sem, x0, x1, x2, y0, y1, y2]) rfl ⟨congrArg Ending.returned (HV.out.symm.trans HRES.out), hXB⟩
          · have HV : Hid (endsV ⟨false, sn, sdd, false, sn2, sdd2, false⟩ = .tuple #[.agg #[.bool false, .int .i64 sn, .int .i64 sdd], .agg #[.bool false, .int .i64 sn2, .int .i64 sdd2], .int .i64 0]) := by show _ = _; unfold endsV; rw [if_neg (by unfold Num.emptyS; simp; omega)]
            have KL : Hid (∀ w', Calls Try.prog 60 #[.agg #[.int .i64 sn2, .int .i64 sdd2], .agg #[.int .i64 sn, .int .i64 sdd]] w' fun e w'' => e = .returned (.bool false) ∧ Below w'.heap.size w' w'') := less_is sn2 sdd2 sn sdd (Num.hi_den A B k _ _ _ hS.hi rfl).2 (Num.lo_den A B k _ _ _ hS.lo rfl).2 false (by simpa using hc)
            clear hc hS
            obtain ⟨p0, p1, _, _⟩ := hN.p.all2
            obtain ⟨q0, q1, _, _⟩ := hN.q.all2
            obtain ⟨r0, r1, r2, rf0, rf1, rf2⟩ := hN.r.all3
            obtain ⟨t0, t1, t2, tf0, tf1, tf2⟩ := hN.t.all3
            obtain ⟨f0, f1, f2, ff0, ff1, ff2⟩ := hN.f.all3
            obtain ⟨g0, g1, g2, gf0, gf1, gf2⟩ := hN.g.all3
            have z5 : w.heap.size + 1 + 1 + 1 + 1 + 1 < wr.heap.size := hN.g.lt
            have z4 : w.heap.size + 1 + 1 + 1 + 1 < wr.heap.size := hN.f.lt
            have z3 : w.heap.size + 1 + 1 + 1 < wr.heap.size := hN.t.lt
            have z2 : w.heap.size + 1 + 1 < wr.heap.size := hN.r.lt
            have z1 : w.heap.size + 1 < wr.heap.size := hN.q.lt
            have z0 : w.heap.size < wr.heap.size := hN.p.lt
            have HN : Hid _ := hN
            clear hN
            go_wp2_with fail
            refine (KL.out _).mono ?_
            rintro e w2 ⟨rfl, hb2⟩
            have hN := HN.out.step hb2
            clear HN hb2 p0 p1 q0 q1 r0 r1 r2 rf0 rf1 rf2 t0 t1 t2 tf0 tf1 tf2 f0 f1 f2 ff0 ff1 ff2 g0 g1 g2 gf0 gf1 gf2 z0 z1 z2 z3 z4 z5
            obtain ⟨p0, p1, _, _⟩ := hN.p.all2
            obtain ⟨q0, q1, _, _⟩ := hN.q.all2
            obtain ⟨r0, r1, r2, rf0, rf1, rf2⟩ := hN.r.all3
            obtain ⟨t0, t1, t2, tf0, tf1, tf2⟩ := hN.t.all3
            obtain ⟨f0, f1, f2, ff0, ff1, ff2⟩ := hN.f.all3
            obtain ⟨g0, g1, g2, gf0, gf1, gf2⟩ := hN.g.all3
            have z5 : w.heap.size + 1 + 1 + 1 + 1 + 1 < w2.heap.size := hN.g.lt
            have z4 : w.heap.size + 1 + 1 + 1 + 1 < w2.heap.size := hN.f.lt
            have z3 : w.heap.size + 1 + 1 + 1 < w2.heap.size := hN.t.lt
            have z2 : w.heap.size + 1 + 1 < w2.heap.size := hN.r.lt
            have z1 : w.heap.size + 1 < w2.heap.size := hN.q.lt
            have z0 : w.heap.size < w2.heap.size := hN.p.lt
            have HN : Hid _ := hN
            clear hN
            go_wp2_with fail
            go_region
            go_wp2_with fail
            generalize hX : ((((((w2.setCell ⟨w.heap.size + 1 + 1, 0, none⟩ (.bool false)).setCell ⟨w.heap.size + 1 + 1, 1, none⟩ (.int .i64 sn)).setCell ⟨w.heap.size + 1 + 1, 2, none⟩ (.int .i64 sdd)).setCell ⟨w.heap.size + 1 + 1 + 1, 0, none⟩ (.bool false)).setCell ⟨w.heap.size + 1 + 1 + 1, 1, none⟩ (.int .i64 sn2)).setCell ⟨w.heap.size + 1 + 1 + 1, 2, none⟩ (.int .i64 sdd2)).drew = X
            have hX2 : Bx (w.heap.size + 1 + 1) [.bool false, .int .i64 sn, .int .i64 sdd] X := by rw [← hX]; exact ((HN.out.r.set3 _ _ _).other3 (by omega) _ _ _).step (Below.refl _ _).drew
            have hX3 : Bx (w.heap.size + 1 + 1 + 1) [.bool false, .int .i64 sn2, .int .i64 sdd2] X := by rw [← hX]; exact ((HN.out.t.other3 (by omega) _ _ _).set3 _ _ _).step (Below.refl _ _).drew
            have hXB : Below w.heap.size w X := by rw [← hX]; exact (bset3 (bset3 HN.out.bel (by omega) _ _ _) (by omega) _ _ _).drew
            obtain ⟨x0, x1, x2, _⟩ := hX2.all3
            obtain ⟨y0, y1, y2, _⟩ := hX3.all3
            exact bodyPost_ret (v := .tuple #[.agg #[.bool false, .int .i64 sn, .int .i64 sdd], .agg #[.bool false, .int .i64 sn2, .int .i64 sdd2], .int .i64 0]) (by simp [results, Try.results25, go_sem, x0, x1, x2, y0, y1, y2]) rfl ⟨congrArg Ending.returned (HV.out.symm.trans HRES.out), hXB⟩
        · have HV : Hid (endsV ⟨false, sn, sdd, true, sn2, sdd2, false⟩ = .tuple #[.agg #[.bool false, .int .i64 sn, .int .i64 sdd], .agg #[.bool true, .int .i64 sn2, .int .i64 sdd2], .int .i64 0]) := by show _ = _; unfold endsV; rw [if_neg (by unfold Num.emptyS; simp)]
          obtain ⟨p0, p1, _, _⟩ := hN.p.all2
          obtain ⟨q0, q1, _, _⟩ := hN.q.all2
          obtain ⟨r0, r1, r2, rf0, rf1, rf2⟩ := hN.r.all3
          obtain ⟨t0, t1, t2, tf0, tf1, tf2⟩ := hN.t.all3
          obtain ⟨f0, f1, f2, ff0, ff1, ff2⟩ := hN.f.all3
          obtain ⟨g0, g1, g2, gf0, gf1, gf2⟩ := hN.g.all3
          have z5 : w.heap.size + 1 + 1 + 1 + 1 + 1 < wr.heap.size := hN.g.lt
          have z4 : w.heap.size + 1 + 1 + 1 + 1 < wr.heap.size := hN.f.lt
          have z3 : w.heap.size + 1 + 1 + 1 < wr.heap.size := hN.t.lt
          have z2 : w.heap.size + 1 + 1 < wr.heap.size := hN.r.lt
          have z1 : w.heap.size + 1 < wr.heap.size := hN.q.lt
          have z0 : w.heap.size < wr.heap.size := hN.p.lt
          have HN : Hid _ := hN
          clear hN
          go_wp2_with fail
          go_region
          go_wp2_with fail
          generalize hX : ((((((wr.setCell ⟨w.heap.size + 1 + 1, 0, none⟩ (.bool false)).setCell ⟨w.heap.size + 1 + 1, 1, none⟩ (.int .i64 sn)).setCell ⟨w.heap.size + 1 + 1, 2, none⟩ (.int .i64 sdd)).setCell ⟨w.heap.size + 1 + 1 + 1, 0, none⟩ (.bool true)).setCell ⟨w.heap.size + 1 + 1 + 1, 1, none⟩ (.int .i64 sn2)).setCell ⟨w.heap.size + 1 + 1 + 1, 2, none⟩ (.int .i64 sdd2)).drew = X
          have hX2 : Bx (w.heap.size + 1 + 1) [.bool false, .int .i64 sn, .int .i64 sdd] X := by rw [← hX]; exact ((HN.out.r.set3 _ _ _).other3 (by omega) _ _ _).step (Below.refl _ _).drew
          have hX3 : Bx (w.heap.size + 1 + 1 + 1) [.bool true, .int .i64 sn2, .int .i64 sdd2] X := by rw [← hX]; exact ((HN.out.t.other3 (by omega) _ _ _).set3 _ _ _).step (Below.refl _ _).drew
          have hXB : Below w.heap.size w X := by rw [← hX]; exact (bset3 (bset3 HN.out.bel (by omega) _ _ _) (by omega) _ _ _).drew
          obtain ⟨x0, x1, x2, _⟩ := hX2.all3
          obtain ⟨y0, y1, y2, _⟩ := hX3.all3
          exact bodyPost_ret (v := .tuple #[.agg #[.bool false, .int .i64 sn, .int .i64 sdd], .agg #[.bool true, .int .i64 sn2, .int .i64 sdd2], .int .i64 0]) (by simp [results, Try.results25, go_sem, x0, x1, x2, y0, y1, y2]) rfl ⟨congrArg Ending.returned (HV.out.symm.trans HRES.out), hXB⟩
      · have HV : Hid (endsV ⟨true, sn, sdd, so2, sn2, sdd2, false⟩ = .tuple #[.agg #[.bool true, .int .i64 sn, .int .i64 sdd], .agg #[.bool so2, .int .i64 sn2, .int .i64 sdd2], .int .i64 0]) := by show _ = _; unfold endsV; rw [if_neg (by unfold Num.emptyS; simp)]
        obtain ⟨p0, p1, _, _⟩ := hN.p.all2
        obtain ⟨q0, q1, _, _⟩ := hN.q.all2
        obtain ⟨r0, r1, r2, rf0, rf1, rf2⟩ := hN.r.all3
        obtain ⟨t0, t1, t2, tf0, tf1, tf2⟩ := hN.t.all3
        obtain ⟨f0, f1, f2, ff0, ff1, ff2⟩ := hN.f.all3
        obtain ⟨g0, g1, g2, gf0, gf1, gf2⟩ := hN.g.all3
        have z5 : w.heap.size + 1 + 1 + 1 + 1 + 1 < wr.heap.size := hN.g.lt
        have z4 : w.heap.size + 1 + 1 + 1 + 1 < wr.heap.size := hN.f.lt
        have z3 : w.heap.size + 1 + 1 + 1 < wr.heap.size := hN.t.lt
        have z2 : w.heap.size + 1 + 1 < wr.heap.size := hN.r.lt
        have z1 : w.heap.size + 1 < wr.heap.size := hN.q.lt
        have z0 : w.heap.size < wr.heap.size := hN.p.lt
        have HN : Hid _ := hN
        clear hN
        go_wp2_with fail
        go_region
        go_wp2_with fail
        generalize hX : ((((((wr.setCell ⟨w.heap.size + 1 + 1, 0, none⟩ (.bool true)).setCell ⟨w.heap.size + 1 + 1, 1, none⟩ (.int .i64 sn)).setCell ⟨w.heap.size + 1 + 1, 2, none⟩ (.int .i64 sdd)).setCell ⟨w.heap.size + 1 + 1 + 1, 0, none⟩ (.bool so2)).setCell ⟨w.heap.size + 1 + 1 + 1, 1, none⟩ (.int .i64 sn2)).setCell ⟨w.heap.size + 1 + 1 + 1, 2, none⟩ (.int .i64 sdd2)).drew = X
        have hX2 : Bx (w.heap.size + 1 + 1) [.bool true, .int .i64 sn, .int .i64 sdd] X := by rw [← hX]; exact ((HN.out.r.set3 _ _ _).other3 (by omega) _ _ _).step (Below.refl _ _).drew
        have hX3 : Bx (w.heap.size + 1 + 1 + 1) [.bool so2, .int .i64 sn2, .int .i64 sdd2] X := by rw [← hX]; exact ((HN.out.t.other3 (by omega) _ _ _).set3 _ _ _).step (Below.refl _ _).drew
        have hXB : Below w.heap.size w X := by rw [← hX]; exact (bset3 (bset3 HN.out.bel (by omega) _ _ _) (by omega) _ _ _).drew
        obtain ⟨x0, x1, x2, _⟩ := hX2.all3
        obtain ⟨y0, y1, y2, _⟩ := hX3.all3
        exact bodyPost_ret (v := .tuple #[.agg #[.bool true, .int .i64 sn, .int .i64 sdd], .agg #[.bool so2, .int .i64 sn2, .int .i64 sdd2], .int .i64 0]) (by simp [results, Try.results25, go_sem, x0, x1, x2, y0, y1, y2]) rfl ⟨congrArg Ending.returned (HV.out.symm.trans HRES.out), hXB⟩
end Go.Proofs.Ytloncgmgcnaalab
