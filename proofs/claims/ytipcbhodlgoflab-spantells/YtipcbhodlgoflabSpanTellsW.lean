/- The walk of SpanTells: for every program, columns and growth it answers true. -/
import Derived.Test.YtipcbhodlgoflabSpnWB
import Derived.Test.YtipcbhodlgoflabSpnW6
import Derived.Test.YtipcbhodlgoflabSpnWC
import Derived.Test.YtipcbhodlgoflabSpnWa
import Derived.Test.YtipcbhodlgoflabRef2A
namespace Go.Proofs.Ytipcbhodlgoflab
open Go.RowKit

theorem costsV_form (p : Num.Lp) (at' y : List Int) : ∃ (o : Bool) (n d : Int) (o2 : Bool) (n2 d2 er : Int), costsV p at' y = .tuple #[.agg #[.bool o, .int .i64 n, .int .i64 d], .agg #[.bool o2, .int .i64 n2, .int .i64 d2], .int .i64 er] := by
  unfold costsV
  split
  · exact ⟨_, _, _, _, _, _, _, rfl⟩
  · split
    · exact endsV_form _
    · exact ⟨_, _, _, _, _, _, _, rfl⟩

theorem mostsV_form (p : Num.Lp) (at' y : List Int) : ∃ (o : Bool) (n d : Int) (o2 : Bool) (n2 d2 er : Int), mostsV p at' y = .tuple #[.agg #[.bool o, .int .i64 n, .int .i64 d], .agg #[.bool o2, .int .i64 n2, .int .i64 d2], .int .i64 er] := by
  unfold mostsV
  split
  · exact ⟨_, _, _, _, _, _, _, rfl⟩
  · split
    · exact endsV_form _
    · exact ⟨_, _, _, _, _, _, _, rfl⟩

theorem wrong_is {o : Bool} {n d : Int} {o2 : Bool} {n2 d2 er k : Int} (h : wrongV k = .tuple #[.agg #[.bool o, .int .i64 n, .int .i64 d], .agg #[.bool o2, .int .i64 n2, .int .i64 d2], .int .i64 er]) :
    false = o ∧ 0 = n ∧ 0 = d ∧ false = o2 ∧ 0 = n2 ∧ 0 = d2 ∧ k = er := by
  unfold wrongV at h
  simp at h
  obtain ⟨⟨h1, h2, h3⟩, ⟨h4, h5, h6⟩, h7⟩ := h
  exact ⟨h1.symm, h2, h3, h4.symm, h5, h6, h7⟩

theorem ends_is (s : Num.Spn) {o : Bool} {n d : Int} {o2 : Bool} {n2 d2 er : Int} {so : Bool} {sn sd : Int} {so2 : Bool} {sn2 sd2 : Int} {sno sb : Bool}
    (h1 : endV s = .tuple #[.agg #[.bool so, .int .i64 sn, .int .i64 sd, .bool so2, .int .i64 sn2, .int .i64 sd2, .bool sno], .bool sb])
    (h2 : endsV s = .tuple #[.agg #[.bool o, .int .i64 n, .int .i64 d], .agg #[.bool o2, .int .i64 n2, .int .i64 d2], .int .i64 er]) (v : World) :
    Calls Try.prog 13 #[.agg #[.bool so, .int .i64 sn, .int .i64 sd, .bool so2, .int .i64 sn2, .int .i64 sd2, .bool sno], .bool sb, .agg #[.bool o, .int .i64 n, .int .i64 d], .agg #[.bool o2, .int .i64 n2, .int .i64 d2], .int .i64 er] v fun e v' => e = .returned (.bool true) ∧ Below v.heap.size v v' := by
  cases he : Num.emptyS s with
  | true =>
    unfold endV at h1
    unfold endsV at h2
    rw [if_pos he] at h1 h2
    unfold spanV Num.noSpn at h1
    simp at h1 h2
    obtain ⟨⟨rfl, rfl, rfl, rfl, rfl, rfl, rfl⟩, rfl⟩ := h1
    obtain ⟨⟨rfl, rfl, rfl⟩, ⟨rfl, rfl, rfl⟩, rfl⟩ := h2
    exact ends_no v
  | false =>
    unfold endV at h1
    unfold endsV at h2
    rw [if_neg (by simp [he])] at h1 h2
    unfold spanV at h1
    simp at h1 h2
    obtain ⟨⟨rfl, rfl, rfl, rfl, rfl, rfl, rfl⟩, rfl⟩ := h1
    obtain ⟨⟨rfl, rfl, rfl⟩, ⟨rfl, rfl, rfl⟩, rfl⟩ := h2
    exact ends_yes s.o s.o2 s.no s.n s.d s.n2 s.d2 v

/-- The boxes of SpanTells. -/
structure ST (w : World) (P : List Value) (b9 b12 : Nat) (e1 e2 e3 e4 : List Value) (v : World) : Prop where
  p : Bx w.heap.size P v
  x9 : Bx b9 e1 v
  x10 : Bx (b9 + 1) e2 v
  x12 : Bx b12 e3 v
  x13 : Bx (b12 + 1) e4 v
  bel : Below w.heap.size w v

theorem ST.step {w : World} {P : List Value} {b9 b12 : Nat} {e1 e2 e3 e4 : List Value} {v v' : World} (h : ST w P b9 b12 e1 e2 e3 e4 v) (hb : Below v.heap.size v v') : ST w P b9 b12 e1 e2 e3 e4 v' :=
  ⟨h.p.step hb, h.x9.step hb, h.x10.step hb, h.x12.step hb, h.x13.step hb, bstep h.bel hb⟩

set_option maxRecDepth 4000 in
set_option maxHeartbeats 1600000 in
theorem spanTells.walk (ca : Option Addr) (cl cc : Nat) (ra : Option Addr) (rl rc : Nat) (p : Num.Lp) (w : World) (hc : Ints w ca cl p.costs) (hcl : cl ≤ 9223372036854775807) (hr : RowsAt w ra rl p.rows) (hrl : rl ≤ 9223372036854775807)
    (aa : Option Addr) (al ac : Nat) (at' : List Int) (ha : Ints w aa al at') (hal : al ≤ 9223372036854775807) (ba : Option Addr) (bl bc : Nat) (y : List Int) (hy : Ints w ba bl y) (hbl : bl ≤ 9223372036854775807) (ma : Option Addr) (ml mc : Nat) (q : List Int) (hq : Ints w ma ml q) (hml : ml ≤ 9223372036854775807) :
    Calls Try.prog 3 #[.agg #[.slice ca cl cc, .slice ra rl rc], .slice aa al ac, .slice ba bl bc, .slice ma ml mc] w fun e w' => e = .returned (.bool true) ∧ Below w.heap.size w w' := by
  have HC : Hid (Ints w ca cl p.costs) := hc
  have HR : Hid (RowsAt w ra rl p.rows) := hr
  have HA : Hid (Ints w aa al at') := ha
  have HY : Hid (Ints w ba bl y) := hy
  have HQ : Hid (Ints w ma ml q) := hq
  have HCL : Hid (cl = p.costs.length) := hc.1
  have HRL : Hid (rl = p.rows.length) := hr.1
  have HBL : Hid (bl = y.length) := hy.1
  have HML : Hid (ml = q.length) := hq.1
  clear hc hr ha hy hq
  obtain ⟨o, n, d, o2, n2, d2, er, hf1⟩ := costsV_form p at' y
  obtain ⟨o', n', d', o2', n2', d2', er', hf2⟩ := mostsV_form p at' q
  have HF1 : Hid (costsV p at' y = .tuple #[.agg #[.bool o, .int .i64 n, .int .i64 d], .agg #[.bool o2, .int .i64 n2, .int .i64 d2], .int .i64 er]) := hf1
  have HF2 : Hid (mostsV p at' q = .tuple #[.agg #[.bool o', .int .i64 n', .int .i64 d'], .agg #[.bool o2', .int .i64 n2', .int .i64 d2'], .int .i64 er']) := hf2
  have K1 := fun (w' : World) (hb : Below w.heap.size w w') => spanCosts_any ca cl cc ra rl rc p w' (Ints.below HC.out hb (Nat.le_refl _)) hcl (RowsAt.below HR.out hb (Nat.le_refl _)) hrl aa al ac at' (Ints.below HA.out hb (Nat.le_refl _)) hal ba bl bc y (Ints.below HY.out hb (Nat.le_refl _)) hbl
  have K2 := fun (w' : World) (hb : Below w.heap.size w w') => spanMosts_any ca cl cc ra rl rc p w' (Ints.below HC.out hb (Nat.le_refl _)) hcl (RowsAt.below HR.out hb (Nat.le_refl _)) hrl aa al ac at' (Ints.below HA.out hb (Nat.le_refl _)) hal ma ml mc q (Ints.below HQ.out hb (Nat.le_refl _)) hml
  rw [hf1] at K1
  rw [hf2] at K2
  have HK1 : Hid _ := K1
  have HK2 : Hid _ := K2
  clear hf1 hf2 K1 K2
  go_enter Try.func3, Try.ntmps3
  go_wp2_with fail
  refine (HK1.out _ (balloc _ _)).mono ?_
  rintro e w1 ⟨rfl, hb1⟩
  have HP1 : Hid (Bx w.heap.size [.slice ca cl cc, .slice ra rl rc] w1) := (Bx.new rfl _ _).step hb1
  have HB1 : Hid (Below w.heap.size w w1) := binto hb1
  obtain ⟨p0, p1, _, _⟩ := HP1.out.all2
  have z0 : w.heap.size < w1.heap.size := HP1.out.lt
  clear hb1 HK1
  go_wp2_with fail
  refine (HK2.out _ (bstep (bstep HB1.out (balloc _ _)) (balloc _ _))).mono ?_
  rintro e w2 ⟨rfl, hb2⟩
  have HS2 : Hid (Bx w.heap.size [.slice ca cl cc, .slice ra rl rc] w2 ∧ Bx w1.heap.size [.bool o, .int .i64 n, .int .i64 d] w2 ∧ Bx (w1.heap.size + 1) [.bool o2, .int .i64 n2, .int .i64 d2] w2 ∧ Below w.heap.size w w2) := ⟨((HP1.out.step (balloc _ _)).step (balloc _ _)).step hb2, ((Bx.new rfl _ _).step (balloc _ _)).step hb2, (Bx.new (by simp) _ _).step hb2, bstep (bstep (bstep HB1.out (balloc _ _)) (balloc _ _)) hb2⟩
  clear hb2 HK2 HP1 HB1 p0 p1 z0
  generalize w1.heap.size = b9 at *
  obtain ⟨p0, p1, _, _⟩ := HS2.out.1.all2
  have z0 : w.heap.size < w2.heap.size := HS2.out.1.lt
  go_wp2_with fail
  have hT0 : ST w [.slice ca cl cc, .slice ra rl rc] b9 w2.heap.size [.bool o, .int .i64 n, .int .i64 d] [.bool o2, .int .i64 n2, .int .i64 d2] [.bool o', .int .i64 n', .int .i64 d'] [.bool o2', .int .i64 n2', .int .i64 d2'] ((w2.alloc (.cells #[.bool o', .int .i64 n', .int .i64 d'] 30)).alloc (.cells #[.bool o2', .int .i64 n2', .int .i64 d2'] 30)) :=
    ⟨(HS2.out.1.step (balloc _ _)).step (balloc _ _), (HS2.out.2.1.step (balloc _ _)).step (balloc _ _), (HS2.out.2.2.1.step (balloc _ _)).step (balloc _ _), (Bx.new rfl _ _).step (balloc _ _), Bx.new (by simp) _ _, bstep (bstep HS2.out.2.2.2 (balloc _ _)) (balloc _ _)⟩
  have HT : Hid _ := hT0
  clear hT0 HS2 p0 p1 z0
  generalize w2.heap.size = b12 at *
  generalize (w2.alloc (.cells #[.bool o', .int .i64 n', .int .i64 d'] 30)).alloc (.cells #[.bool o2', .int .i64 n2', .int .i64 d2'] 30) = V at *
  refine (r2may_any _ _ _ _ _ _ p _ (Ints.below HC.out HT.out.bel (Nat.le_refl _)) hcl (RowsAt.below HR.out HT.out.bel (Nat.le_refl _)) hrl).mono ?_
  rintro e w4 ⟨rfl, hb4⟩
  have hT := HT.out.step hb4
  clear HT hb4
  have HT : Hid _ := hT
  obtain ⟨p0, p1, _, _⟩ := hT.p.all2
  obtain ⟨a0, a1, a2, _⟩ := hT.x9.all3
  obtain ⟨a3, a4, a5, _⟩ := hT.x10.all3
  obtain ⟨a6, a7, a8, _⟩ := hT.x12.all3
  obtain ⟨a9, a10, a11, _⟩ := hT.x13.all3
  have z0 : w.heap.size < w4.heap.size := hT.p.lt
  have z9 : b9 < w4.heap.size := hT.x9.lt
  have z10 : b9 + 1 < w4.heap.size := hT.x10.lt
  have z12 : b12 < w4.heap.size := hT.x12.lt
  have z13 : b12 + 1 < w4.heap.size := hT.x13.lt
  clear hT
  cases hm : p.may with
  | false =>
    have HW1 : Hid (wrongV 2 = .tuple #[.agg #[.bool o, .int .i64 n, .int .i64 d], .agg #[.bool o2, .int .i64 n2, .int .i64 d2], .int .i64 er]) := (by show wrongV 2 = _; rw [← HF1.out]; unfold costsV; rw [Num.look_form p at' hm]; rfl)
    have HW2 : Hid (wrongV 2 = .tuple #[.agg #[.bool o', .int .i64 n', .int .i64 d'], .agg #[.bool o2', .int .i64 n2', .int .i64 d2'], .int .i64 er']) := (by show wrongV 2 = _; rw [← HF2.out]; unfold mostsV; rw [Num.look_form p at' hm]; rfl)
    obtain ⟨rfl, rfl, rfl, rfl, rfl, rfl, rfl⟩ := wrong_is (k := 2) HW1.out
    obtain ⟨rfl, rfl, rfl, rfl, rfl, rfl, rfl⟩ := wrong_is (k := 2) HW2.out
    have hE := end_eq false 0 0 false 0 0
    clear HF1 HF2 HW1 HW2
    go_wp2_with fail
    go_ret
    exact ⟨rfl, HT.out.bel⟩
  | true =>
    have h8 : cl + rl ≤ 8 := by have := HCL.out; have := HRL.out; have := (p.may_of hm).1.2; have := (p.may_of hm).2.2.1.2; omega
    go_wp2_with fail
    refine (right_any _ _ _ _ _ _ _ _ _ _ at' (Ints.below HA.out HT.out.bel (Nat.le_refl _)) hal (cl + rl) rfl h8).mono ?_
    rintro e w5 ⟨rfl, hb5⟩
    have hT := (HT.out).step hb5
    clear HT p0 p1 a0 a1 a2 a3 a4 a5 a6 a7 a8 a9 a10 a11 z0 z9 z10 z12 z13
    clear hb5
    have HT : Hid _ := hT
    obtain ⟨p0, p1, _, _⟩ := hT.p.all2
    obtain ⟨a0, a1, a2, _⟩ := hT.x9.all3
    obtain ⟨a3, a4, a5, _⟩ := hT.x10.all3
    obtain ⟨a6, a7, a8, _⟩ := hT.x12.all3
    obtain ⟨a9, a10, a11, _⟩ := hT.x13.all3
    have z0 : w.heap.size < w5.heap.size := hT.p.lt
    have z9 : b9 < w5.heap.size := hT.x9.lt
    have z10 : b9 + 1 < w5.heap.size := hT.x10.lt
    have z12 : b12 < w5.heap.size := hT.x12.lt
    have z13 : b12 + 1 < w5.heap.size := hT.x13.lt
    clear hT
    cases hri : Num.rightB at' rl (cl + rl) with
    | false =>
      have hri' : Num.rightB at' p.rows.length (p.costs.length + p.rows.length) = false := by rw [← HRL.out, ← HCL.out]; exact hri
      have HW1 : Hid (wrongV 3 = .tuple #[.agg #[.bool o, .int .i64 n, .int .i64 d], .agg #[.bool o2, .int .i64 n2, .int .i64 d2], .int .i64 er]) := (by show wrongV 3 = _; rw [← HF1.out]; unfold costsV; rw [Num.look_range p at' hm hri']; rfl)
      have HW2 : Hid (wrongV 3 = .tuple #[.agg #[.bool o', .int .i64 n', .int .i64 d'], .agg #[.bool o2', .int .i64 n2', .int .i64 d2'], .int .i64 er']) := (by show wrongV 3 = _; rw [← HF2.out]; unfold mostsV; rw [Num.look_range p at' hm hri']; rfl)
      obtain ⟨rfl, rfl, rfl, rfl, rfl, rfl, rfl⟩ := wrong_is (k := 3) HW1.out
      obtain ⟨rfl, rfl, rfl, rfl, rfl, rfl, rfl⟩ := wrong_is (k := 3) HW2.out
      have hE := end_eq false 0 0 false 0 0
      clear HF1 HF2 HW1 HW2
      clear hri'
      go_wp2_with fail
      go_ret
      exact ⟨rfl, HT.out.bel⟩
    | true =>
      have HRI : Hid (Num.rightB at' p.rows.length (p.costs.length + p.rows.length) = true) := by show _ = _; rw [← HRL.out, ← HCL.out]; exact hri
      have HM : Hid (p.may = true) := hm
      clear hri hm
      by_cases hd : Num.denL p at' p.rows.length = 0
      · have HW1 : Hid (wrongV 4 = .tuple #[.agg #[.bool o, .int .i64 n, .int .i64 d], .agg #[.bool o2, .int .i64 n2, .int .i64 d2], .int .i64 er]) := (by show wrongV 4 = _; rw [← HF1.out]; unfold costsV; rw [Num.look_none p at' HM.out HRI.out hd]; rfl)
        have HW2 : Hid (wrongV 4 = .tuple #[.agg #[.bool o', .int .i64 n', .int .i64 d'], .agg #[.bool o2', .int .i64 n2', .int .i64 d2'], .int .i64 er']) := (by show wrongV 4 = _; rw [← HF2.out]; unfold mostsV; rw [Num.look_none p at' HM.out HRI.out hd]; rfl)
        obtain ⟨rfl, rfl, rfl, rfl, rfl, rfl, rfl⟩ := wrong_is (k := 4) HW1.out
        obtain ⟨rfl, rfl, rfl, rfl, rfl, rfl, rfl⟩ := wrong_is (k := 4) HW2.out
        have hE := end_eq false 0 0 false 0 0
        clear HF1 HF2 HW1 HW2
        have HD : Hid _ := hd
        clear hd
        go_wp2_with fail
        refine (rlook_no _ _ _ _ _ _ p _ (Ints.below HC.out HT.out.bel (Nat.le_refl _)) (RowsAt.below HR.out HT.out.bel (Nat.le_refl _)) _ _ _ at' (Ints.below HA.out HT.out.bel (Nat.le_refl _)) HM.out HRI.out HD.out).mono ?_
        rintro e w6 ⟨rfl, hb6⟩
        have hT := (HT.out).step hb6
        clear HT p0 p1 a0 a1 a2 a3 a4 a5 a6 a7 a8 a9 a10 a11 z0 z9 z10 z12 z13
        clear hb6
        have HT : Hid _ := hT
        obtain ⟨p0, p1, _, _⟩ := hT.p.all2
        obtain ⟨a0, a1, a2, _⟩ := hT.x9.all3
        obtain ⟨a3, a4, a5, _⟩ := hT.x10.all3
        obtain ⟨a6, a7, a8, _⟩ := hT.x12.all3
        obtain ⟨a9, a10, a11, _⟩ := hT.x13.all3
        have z0 : w.heap.size < w6.heap.size := hT.p.lt
        have z9 : b9 < w6.heap.size := hT.x9.lt
        have z10 : b9 + 1 < w6.heap.size := hT.x10.lt
        have z12 : b12 < w6.heap.size := hT.x12.lt
        have z13 : b12 + 1 < w6.heap.size := hT.x13.lt
        clear hT
        go_wp2_with fail
        go_ret
        exact ⟨rfl, bstep HT.out.bel (balloc _ _)⟩
      · have HH : Hid (p.may = true ∧ Num.rightB at' p.rows.length (p.costs.length + p.rows.length) = true ∧ Num.denL p at' p.rows.length ≠ 0) := ⟨HM.out, HRI.out, hd⟩
        have HL0 : Hid ((Num.look p at').err = 0) := by show _ = _; rw [Num.look_some p at' HM.out HRI.out hd _ _ rfl rfl]
        clear hd HM HRI
        go_wp2_with fail
        refine (rlook_is _ _ _ _ _ _ p _ (Ints.below HC.out HT.out.bel (Nat.le_refl _)) (RowsAt.below HR.out HT.out.bel (Nat.le_refl _)) _ _ _ at' (Ints.below HA.out HT.out.bel (Nat.le_refl _)) HH.out).mono ?_
        rintro e w6 ⟨xa, xl, xc, ya, yl, yc, ga, gl, gc, rfl, _, _, hb6⟩
        have hT := (HT.out).step hb6
        clear HT p0 p1 a0 a1 a2 a3 a4 a5 a6 a7 a8 a9 a10 a11 z0 z9 z10 z12 z13
        clear hb6
        have HT : Hid _ := hT
        obtain ⟨p0, p1, _, _⟩ := hT.p.all2
        obtain ⟨a0, a1, a2, _⟩ := hT.x9.all3
        obtain ⟨a3, a4, a5, _⟩ := hT.x10.all3
        obtain ⟨a6, a7, a8, _⟩ := hT.x12.all3
        obtain ⟨a9, a10, a11, _⟩ := hT.x13.all3
        have z0 : w.heap.size < w6.heap.size := hT.p.lt
        have z9 : b9 < w6.heap.size := hT.x9.lt
        have z10 : b9 + 1 < w6.heap.size := hT.x10.lt
        have z12 : b12 < w6.heap.size := hT.x12.lt
        have z13 : b12 + 1 < w6.heap.size := hT.x13.lt
        clear hT
        generalize (Num.look p at').xd = dx at *
        generalize (Num.look p at').yd = dy at *
        generalize (Num.look p at').gd = dg at *
        go_wp2_with fail
        have hT := HT.out.step (balloc w6 (.cells #[.slice xa xl xc, .int .i64 dx, .slice ya yl yc, .int .i64 dy, .slice ga gl gc, .int .i64 dg] 39))
        clear HT p0 p1 a0 a1 a2 a3 a4 a5 a6 a7 a8 a9 a10 a11 z0 z9 z10 z12 z13
        generalize w6.alloc (.cells #[.slice xa xl xc, .int .i64 dx, .slice ya yl yc, .int .i64 dy, .slice ga gl gc, .int .i64 dg] 39) = Ww6 at *
        have HT : Hid _ := hT
        obtain ⟨p0, p1, _, _⟩ := hT.p.all2
        obtain ⟨a0, a1, a2, _⟩ := hT.x9.all3
        obtain ⟨a3, a4, a5, _⟩ := hT.x10.all3
        obtain ⟨a6, a7, a8, _⟩ := hT.x12.all3
        obtain ⟨a9, a10, a11, _⟩ := hT.x13.all3
        have z0 : w.heap.size < Ww6.heap.size := hT.p.lt
        have z9 : b9 < Ww6.heap.size := hT.x9.lt
        have z10 : b9 + 1 < Ww6.heap.size := hT.x10.lt
        have z12 : b12 < Ww6.heap.size := hT.x12.lt
        have z13 : b12 + 1 < Ww6.heap.size := hT.x13.lt
        clear hT
        refine (small_any 400 cl ba bl bc y _ (Ints.below HY.out HT.out.bel (Nat.le_refl _)) hbl hcl (by omega) (by omega)).mono ?_
        rintro e u7s ⟨rfl, rfl⟩
        cases hsms : (decide (bl = cl) && Num.withinB 400 y) with
        | false =>
          have HW1 : Hid (wrongV 1 = .tuple #[.agg #[.bool o, .int .i64 n, .int .i64 d], .agg #[.bool o2, .int .i64 n2, .int .i64 d2], .int .i64 er]) := by
            show wrongV 1 = _
            rw [← HF1.out]; unfold costsV; rw [if_neg (by rw [HL0.out]; simp), if_neg (by rintro ⟨h1, h2⟩; rw [h2, Bool.and_true, decide_eq_false_iff_not] at hsms; have h3 := HBL.out; have h4 := HCL.out; omega)]
          obtain ⟨rfl, rfl, rfl, rfl, rfl, rfl, rfl⟩ := wrong_is (k := 1) HW1.out
          have hEs := end_eq false 0 0 false 0 0
          clear HF1 HW1 hsms
          go_wp2_with fail
          refine (small_any 12 rl ma ml mc q _ (Ints.below HQ.out HT.out.bel (Nat.le_refl _)) hml hrl (by omega) (by omega)).mono ?_
          rintro e u7r ⟨rfl, rfl⟩
          cases hsmr : (decide (ml = rl) && Num.withinB 12 q) with
          | false =>
            have HW2 : Hid (wrongV 1 = .tuple #[.agg #[.bool o', .int .i64 n', .int .i64 d'], .agg #[.bool o2', .int .i64 n2', .int .i64 d2'], .int .i64 er']) := by
              show wrongV 1 = _
              rw [← HF2.out]; unfold mostsV; rw [if_neg (by rw [HL0.out]; simp), if_neg (by rintro ⟨h1, h2⟩; rw [h2, Bool.and_true, decide_eq_false_iff_not] at hsmr; have h3 := HML.out; have h4 := HRL.out; omega)]
            obtain ⟨rfl, rfl, rfl, rfl, rfl, rfl, rfl⟩ := wrong_is (k := 1) HW2.out
            have hEr := end_eq false 0 0 false 0 0
            clear HF2 HW2 hsmr
            go_wp2_with fail
            go_ret
            exact ⟨rfl, HT.out.bel⟩
          | true =>
            have hsq : q.length = p.rows.length ∧ Num.withinB 12 q = true := by
              rw [Bool.and_eq_true, decide_eq_true_eq] at hsmr
              have h3 := HML.out; have h4 := HRL.out
              exact ⟨by omega, hsmr.2⟩
            have HW2 : Hid (endsV (Num.mostsN p at' q) = .tuple #[.agg #[.bool o', .int .i64 n', .int .i64 d'], .agg #[.bool o2', .int .i64 n2', .int .i64 d2'], .int .i64 er']) := by
              show endsV _ = _
              rw [← HF2.out]; unfold mostsV; rw [if_neg (by rw [HL0.out]; simp), if_pos hsq]
            obtain ⟨ro, rn, rd, ro2, rn2, rd2, rno, rb, hgr⟩ := endV_form (Num.mostsN p at' q)
            have KRr := rmosts_any ca cl cc ra rl rc p _ (Ints.below HC.out HT.out.bel (Nat.le_refl _)) (RowsAt.below HR.out HT.out.bel (Nat.le_refl _)) aa al ac at' (Ints.below HA.out HT.out.bel (Nat.le_refl _)) ma ml mc q (Ints.below HQ.out HT.out.bel (Nat.le_refl _)) HH.out hsq.1 hsq.2
            rw [hgr] at KRr
            have HKRr : Hid _ := KRr
            have HKEr : Hid _ := ends_is (Num.mostsN p at' q) hgr HW2.out
            clear KRr hgr HW2 HF2 hsmr hsq
            go_wp2_with fail
            refine Calls.mono HKRr.out ?_
            rintro e w10 ⟨rfl, hbw10⟩
            have hT := (HT.out).step hbw10
            clear HT p0 p1 a0 a1 a2 a3 a4 a5 a6 a7 a8 a9 a10 a11 z0 z9 z10 z12 z13
            clear hbw10
            have HT : Hid _ := hT
            obtain ⟨p0, p1, _, _⟩ := hT.p.all2
            obtain ⟨a0, a1, a2, _⟩ := hT.x9.all3
            obtain ⟨a3, a4, a5, _⟩ := hT.x10.all3
            obtain ⟨a6, a7, a8, _⟩ := hT.x12.all3
            obtain ⟨a9, a10, a11, _⟩ := hT.x13.all3
            have z0 : w.heap.size < w10.heap.size := hT.p.lt
            have z9 : b9 < w10.heap.size := hT.x9.lt
            have z10 : b9 + 1 < w10.heap.size := hT.x10.lt
            have z12 : b12 < w10.heap.size := hT.x12.lt
            have z13 : b12 + 1 < w10.heap.size := hT.x13.lt
            clear hT
            clear HKRr
            go_wp2_with fail
            have hT := HT.out.step (balloc w10 (.cells #[.bool ro, .int .i64 rn, .int .i64 rd, .bool ro2, .int .i64 rn2, .int .i64 rd2, .bool rno] 44))
            clear HT p0 p1 a0 a1 a2 a3 a4 a5 a6 a7 a8 a9 a10 a11 z0 z9 z10 z12 z13
            generalize w10.alloc (.cells #[.bool ro, .int .i64 rn, .int .i64 rd, .bool ro2, .int .i64 rn2, .int .i64 rd2, .bool rno] 44) = Ww10 at *
            have HT : Hid _ := hT
            obtain ⟨p0, p1, _, _⟩ := hT.p.all2
            obtain ⟨a0, a1, a2, _⟩ := hT.x9.all3
            obtain ⟨a3, a4, a5, _⟩ := hT.x10.all3
            obtain ⟨a6, a7, a8, _⟩ := hT.x12.all3
            obtain ⟨a9, a10, a11, _⟩ := hT.x13.all3
            have z0 : w.heap.size < Ww10.heap.size := hT.p.lt
            have z9 : b9 < Ww10.heap.size := hT.x9.lt
            have z10 : b9 + 1 < Ww10.heap.size := hT.x10.lt
            have z12 : b12 < Ww10.heap.size := hT.x12.lt
            have z13 : b12 + 1 < Ww10.heap.size := hT.x13.lt
            clear hT
            refine (HKEr.out _).mono ?_
            rintro e w11 ⟨rfl, hbw11⟩
            have hT := (HT.out).step hbw11
            clear HT p0 p1 a0 a1 a2 a3 a4 a5 a6 a7 a8 a9 a10 a11 z0 z9 z10 z12 z13
            clear hbw11
            have HT : Hid _ := hT
            obtain ⟨p0, p1, _, _⟩ := hT.p.all2
            obtain ⟨a0, a1, a2, _⟩ := hT.x9.all3
            obtain ⟨a3, a4, a5, _⟩ := hT.x10.all3
            obtain ⟨a6, a7, a8, _⟩ := hT.x12.all3
            obtain ⟨a9, a10, a11, _⟩ := hT.x13.all3
            have z0 : w.heap.size < w11.heap.size := hT.p.lt
            have z9 : b9 < w11.heap.size := hT.x9.lt
            have z10 : b9 + 1 < w11.heap.size := hT.x10.lt
            have z12 : b12 < w11.heap.size := hT.x12.lt
            have z13 : b12 + 1 < w11.heap.size := hT.x13.lt
            clear hT
            clear HKEr
            go_wp2_with fail
            go_ret
            exact ⟨rfl, HT.out.bel⟩
        | true =>
          have hsq : y.length = p.costs.length ∧ Num.withinB 400 y = true := by
            rw [Bool.and_eq_true, decide_eq_true_eq] at hsms
            have h3 := HBL.out; have h4 := HCL.out
            exact ⟨by omega, hsms.2⟩
          have HW1 : Hid (endsV (Num.costsN p at' y) = .tuple #[.agg #[.bool o, .int .i64 n, .int .i64 d], .agg #[.bool o2, .int .i64 n2, .int .i64 d2], .int .i64 er]) := by
            show endsV _ = _
            rw [← HF1.out]; unfold costsV; rw [if_neg (by rw [HL0.out]; simp), if_pos hsq]
          obtain ⟨so, sn, sd, so2, sn2, sd2, sno, sb, hgs⟩ := endV_form (Num.costsN p at' y)
          have KRs := rcosts_any ca cl cc ra rl rc p _ (Ints.below HC.out HT.out.bel (Nat.le_refl _)) (RowsAt.below HR.out HT.out.bel (Nat.le_refl _)) aa al ac at' (Ints.below HA.out HT.out.bel (Nat.le_refl _)) ba bl bc y (Ints.below HY.out HT.out.bel (Nat.le_refl _)) HH.out hsq.1 hsq.2
          rw [hgs] at KRs
          have HKRs : Hid _ := KRs
          have HKEs : Hid _ := ends_is (Num.costsN p at' y) hgs HW1.out
          clear KRs hgs HW1 HF1 hsms hsq
          go_wp2_with fail
          refine Calls.mono HKRs.out ?_
          rintro e w8 ⟨rfl, hbw8⟩
          have hT := (HT.out).step hbw8
          clear HT p0 p1 a0 a1 a2 a3 a4 a5 a6 a7 a8 a9 a10 a11 z0 z9 z10 z12 z13
          clear hbw8
          have HT : Hid _ := hT
          obtain ⟨p0, p1, _, _⟩ := hT.p.all2
          obtain ⟨a0, a1, a2, _⟩ := hT.x9.all3
          obtain ⟨a3, a4, a5, _⟩ := hT.x10.all3
          obtain ⟨a6, a7, a8, _⟩ := hT.x12.all3
          obtain ⟨a9, a10, a11, _⟩ := hT.x13.all3
          have z0 : w.heap.size < w8.heap.size := hT.p.lt
          have z9 : b9 < w8.heap.size := hT.x9.lt
          have z10 : b9 + 1 < w8.heap.size := hT.x10.lt
          have z12 : b12 < w8.heap.size := hT.x12.lt
          have z13 : b12 + 1 < w8.heap.size := hT.x13.lt
          clear hT
          clear HKRs
          go_wp2_with fail
          have hT := HT.out.step (balloc w8 (.cells #[.bool so, .int .i64 sn, .int .i64 sd, .bool so2, .int .i64 sn2, .int .i64 sd2, .bool sno] 44))
          clear HT p0 p1 a0 a1 a2 a3 a4 a5 a6 a7 a8 a9 a10 a11 z0 z9 z10 z12 z13
          generalize w8.alloc (.cells #[.bool so, .int .i64 sn, .int .i64 sd, .bool so2, .int .i64 sn2, .int .i64 sd2, .bool sno] 44) = Ww8 at *
          have HT : Hid _ := hT
          obtain ⟨p0, p1, _, _⟩ := hT.p.all2
          obtain ⟨a0, a1, a2, _⟩ := hT.x9.all3
          obtain ⟨a3, a4, a5, _⟩ := hT.x10.all3
          obtain ⟨a6, a7, a8, _⟩ := hT.x12.all3
          obtain ⟨a9, a10, a11, _⟩ := hT.x13.all3
          have z0 : w.heap.size < Ww8.heap.size := hT.p.lt
          have z9 : b9 < Ww8.heap.size := hT.x9.lt
          have z10 : b9 + 1 < Ww8.heap.size := hT.x10.lt
          have z12 : b12 < Ww8.heap.size := hT.x12.lt
          have z13 : b12 + 1 < Ww8.heap.size := hT.x13.lt
          clear hT
          refine (HKEs.out _).mono ?_
          rintro e w9 ⟨rfl, hbw9⟩
          have hT := (HT.out).step hbw9
          clear HT p0 p1 a0 a1 a2 a3 a4 a5 a6 a7 a8 a9 a10 a11 z0 z9 z10 z12 z13
          clear hbw9
          have HT : Hid _ := hT
          obtain ⟨p0, p1, _, _⟩ := hT.p.all2
          obtain ⟨a0, a1, a2, _⟩ := hT.x9.all3
          obtain ⟨a3, a4, a5, _⟩ := hT.x10.all3
          obtain ⟨a6, a7, a8, _⟩ := hT.x12.all3
          obtain ⟨a9, a10, a11, _⟩ := hT.x13.all3
          have z0 : w.heap.size < w9.heap.size := hT.p.lt
          have z9 : b9 < w9.heap.size := hT.x9.lt
          have z10 : b9 + 1 < w9.heap.size := hT.x10.lt
          have z12 : b12 < w9.heap.size := hT.x12.lt
          have z13 : b12 + 1 < w9.heap.size := hT.x13.lt
          clear hT
          clear HKEs
          go_wp2_with fail
          refine (small_any 12 rl ma ml mc q _ (Ints.below HQ.out HT.out.bel (Nat.le_refl _)) hml hrl (by omega) (by omega)).mono ?_
          rintro e u7r ⟨rfl, rfl⟩
          cases hsmr : (decide (ml = rl) && Num.withinB 12 q) with
          | false =>
            have HW2 : Hid (wrongV 1 = .tuple #[.agg #[.bool o', .int .i64 n', .int .i64 d'], .agg #[.bool o2', .int .i64 n2', .int .i64 d2'], .int .i64 er']) := by
              show wrongV 1 = _
              rw [← HF2.out]; unfold mostsV; rw [if_neg (by rw [HL0.out]; simp), if_neg (by rintro ⟨h1, h2⟩; rw [h2, Bool.and_true, decide_eq_false_iff_not] at hsmr; have h3 := HML.out; have h4 := HRL.out; omega)]
            obtain ⟨rfl, rfl, rfl, rfl, rfl, rfl, rfl⟩ := wrong_is (k := 1) HW2.out
            have hEr := end_eq false 0 0 false 0 0
            clear HF2 HW2 hsmr
            go_wp2_with fail
            go_ret
            exact ⟨rfl, HT.out.bel⟩
          | true =>
            have hsq : q.length = p.rows.length ∧ Num.withinB 12 q = true := by
              rw [Bool.and_eq_true, decide_eq_true_eq] at hsmr
              have h3 := HML.out; have h4 := HRL.out
              exact ⟨by omega, hsmr.2⟩
            have HW2 : Hid (endsV (Num.mostsN p at' q) = .tuple #[.agg #[.bool o', .int .i64 n', .int .i64 d'], .agg #[.bool o2', .int .i64 n2', .int .i64 d2'], .int .i64 er']) := by
              show endsV _ = _
              rw [← HF2.out]; unfold mostsV; rw [if_neg (by rw [HL0.out]; simp), if_pos hsq]
            obtain ⟨ro, rn, rd, ro2, rn2, rd2, rno, rb, hgr⟩ := endV_form (Num.mostsN p at' q)
            have KRr := rmosts_any ca cl cc ra rl rc p _ (Ints.below HC.out HT.out.bel (Nat.le_refl _)) (RowsAt.below HR.out HT.out.bel (Nat.le_refl _)) aa al ac at' (Ints.below HA.out HT.out.bel (Nat.le_refl _)) ma ml mc q (Ints.below HQ.out HT.out.bel (Nat.le_refl _)) HH.out hsq.1 hsq.2
            rw [hgr] at KRr
            have HKRr : Hid _ := KRr
            have HKEr : Hid _ := ends_is (Num.mostsN p at' q) hgr HW2.out
            clear KRr hgr HW2 HF2 hsmr hsq
            go_wp2_with fail
            refine Calls.mono HKRr.out ?_
            rintro e w10 ⟨rfl, hbw10⟩
            have hT := (HT.out).step hbw10
            clear HT p0 p1 a0 a1 a2 a3 a4 a5 a6 a7 a8 a9 a10 a11 z0 z9 z10 z12 z13
            clear hbw10
            have HT : Hid _ := hT
            obtain ⟨p0, p1, _, _⟩ := hT.p.all2
            obtain ⟨a0, a1, a2, _⟩ := hT.x9.all3
            obtain ⟨a3, a4, a5, _⟩ := hT.x10.all3
            obtain ⟨a6, a7, a8, _⟩ := hT.x12.all3
            obtain ⟨a9, a10, a11, _⟩ := hT.x13.all3
            have z0 : w.heap.size < w10.heap.size := hT.p.lt
            have z9 : b9 < w10.heap.size := hT.x9.lt
            have z10 : b9 + 1 < w10.heap.size := hT.x10.lt
            have z12 : b12 < w10.heap.size := hT.x12.lt
            have z13 : b12 + 1 < w10.heap.size := hT.x13.lt
            clear hT
            clear HKRr
            go_wp2_with fail
            have hT := HT.out.step (balloc w10 (.cells #[.bool ro, .int .i64 rn, .int .i64 rd, .bool ro2, .int .i64 rn2, .int .i64 rd2, .bool rno] 44))
            clear HT p0 p1 a0 a1 a2 a3 a4 a5 a6 a7 a8 a9 a10 a11 z0 z9 z10 z12 z13
            generalize w10.alloc (.cells #[.bool ro, .int .i64 rn, .int .i64 rd, .bool ro2, .int .i64 rn2, .int .i64 rd2, .bool rno] 44) = Ww10 at *
            have HT : Hid _ := hT
            obtain ⟨p0, p1, _, _⟩ := hT.p.all2
            obtain ⟨a0, a1, a2, _⟩ := hT.x9.all3
            obtain ⟨a3, a4, a5, _⟩ := hT.x10.all3
            obtain ⟨a6, a7, a8, _⟩ := hT.x12.all3
            obtain ⟨a9, a10, a11, _⟩ := hT.x13.all3
            have z0 : w.heap.size < Ww10.heap.size := hT.p.lt
            have z9 : b9 < Ww10.heap.size := hT.x9.lt
            have z10 : b9 + 1 < Ww10.heap.size := hT.x10.lt
            have z12 : b12 < Ww10.heap.size := hT.x12.lt
            have z13 : b12 + 1 < Ww10.heap.size := hT.x13.lt
            clear hT
            refine (HKEr.out _).mono ?_
            rintro e w11 ⟨rfl, hbw11⟩
            have hT := (HT.out).step hbw11
            clear HT p0 p1 a0 a1 a2 a3 a4 a5 a6 a7 a8 a9 a10 a11 z0 z9 z10 z12 z13
            clear hbw11
            have HT : Hid _ := hT
            obtain ⟨p0, p1, _, _⟩ := hT.p.all2
            obtain ⟨a0, a1, a2, _⟩ := hT.x9.all3
            obtain ⟨a3, a4, a5, _⟩ := hT.x10.all3
            obtain ⟨a6, a7, a8, _⟩ := hT.x12.all3
            obtain ⟨a9, a10, a11, _⟩ := hT.x13.all3
            have z0 : w.heap.size < w11.heap.size := hT.p.lt
            have z9 : b9 < w11.heap.size := hT.x9.lt
            have z10 : b9 + 1 < w11.heap.size := hT.x10.lt
            have z12 : b12 < w11.heap.size := hT.x12.lt
            have z13 : b12 + 1 < w11.heap.size := hT.x13.lt
            clear hT
            clear HKEr
            go_wp2_with fail
            go_ret
            exact ⟨rfl, HT.out.bel⟩

end Go.Proofs.Ytipcbhodlgoflab
