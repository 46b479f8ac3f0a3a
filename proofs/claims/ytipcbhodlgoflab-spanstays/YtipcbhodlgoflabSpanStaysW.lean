/- The walk of SpanStays: for every program, columns, growth and place it answers true. -/
import Derived.Test.YtipcbhodlgoflabSpnWB
import Derived.Test.YtipcbhodlgoflabStaysP
import Derived.Test.YtipcbhodlgoflabSpnWA
import Derived.Test.YtipcbhodlgoflabSpnWC
namespace Go.Proofs.Ytipcbhodlgoflab
open Go.RowKit

theorem costsV_form2 (p : Num.Lp) (at' y : List Int) : ∃ (o : Bool) (n d : Int) (o2 : Bool) (n2 d2 er : Int), costsV p at' y = .tuple #[.agg #[.bool o, .int .i64 n, .int .i64 d], .agg #[.bool o2, .int .i64 n2, .int .i64 d2], .int .i64 er] := by
  unfold costsV
  split
  · exact ⟨_, _, _, _, _, _, _, rfl⟩
  · split
    · exact endsV_form _
    · exact ⟨_, _, _, _, _, _, _, rfl⟩

theorem wrong_is2 {o : Bool} {n d : Int} {o2 : Bool} {n2 d2 er k : Int} (h : wrongV k = .tuple #[.agg #[.bool o, .int .i64 n, .int .i64 d], .agg #[.bool o2, .int .i64 n2, .int .i64 d2], .int .i64 er]) :
    false = o ∧ 0 = n ∧ 0 = d ∧ false = o2 ∧ 0 = n2 ∧ 0 = d2 ∧ k = er := by
  unfold wrongV at h
  simp at h
  obtain ⟨⟨h1, h2, h3⟩, ⟨h4, h5, h6⟩, h7⟩ := h
  exact ⟨h1.symm, h2, h3, h4.symm, h5, h6, h7⟩

theorem ints_at1 {W : World} {k : Nat} {x : Int} (hc : W.cell? ⟨k, 0, none⟩ = some (.int .i64 x)) : Ints W (some ⟨k, 0, none⟩) 1 [x] := by
  refine ⟨rfl, Or.inr ⟨k, 0, rfl, World.block_lt_of_cell? W _ hc, fun j hj => ?_⟩⟩
  obtain rfl : j = 0 := by omega
  simpa using hc

theorem Num.span_bd3 (p : Num.Lp) (at' y : List Int) (h : p.may = true ∧ Num.rightB at' p.rows.length (p.costs.length + p.rows.length) = true ∧ Num.denL p at' p.rows.length ≠ 0) (hl : y.length = p.costs.length) (hw : Num.withinB 400 y = true) :
    (-1073741824 ≤ (Num.costsN p at' y).n ∧ (Num.costsN p at' y).n ≤ 1073741824) ∧ (-1073741824 ≤ (Num.costsN p at' y).d ∧ (Num.costsN p at' y).d ≤ 1073741824) ∧ (-1073741824 ≤ (Num.costsN p at' y).n2 ∧ (Num.costsN p at' y).n2 ≤ 1073741824) ∧ (-1073741824 ≤ (Num.costsN p at' y).d2 ∧ (Num.costsN p at' y).d2 ≤ 1073741824) := by
  have sp := (Num.costs_span p p.costs y at' p.rows.length p.costs.length rfl rfl rfl hl h.1 (Num.withC_may p y hl h.1 hw) h.2.1 h.2.2).2
  rw [Num.withC_self] at sp
  exact Num.span_bd sp

theorem tmod17 (x : Int) : -16 ≤ x.tmod 17 ∧ x.tmod 17 ≤ 16 := by
  have h1 : x.tmod 17 < 17 := Int.tmod_lt_of_pos x (by decide)
  have h2 : (-x).tmod 17 < 17 := Int.tmod_lt_of_pos (-x) (by decide)
  rw [Int.neg_tmod] at h2
  omega

/-- The boxes of SpanStays. -/
structure SY (w : World) (P : List Value) (b9 : Nat) (e1 e2 : List Value) (v : World) : Prop where
  p : Bx w.heap.size P v
  x9 : Bx b9 e1 v
  x10 : Bx (b9 + 1) e2 v
  bel : Below w.heap.size w v

theorem SY.step {w : World} {P : List Value} {b9 : Nat} {e1 e2 : List Value} {v v' : World} (h : SY w P b9 e1 e2 v) (hb : Below v.heap.size v v') : SY w P b9 e1 e2 v' :=
  ⟨h.p.step hb, h.x9.step hb, h.x10.step hb, bstep h.bel hb⟩

set_option maxRecDepth 4000 in
set_option maxHeartbeats 3200000 in
theorem spanStays.walk (ca : Option Addr) (cl cc : Nat) (ra : Option Addr) (rl rc : Nat) (p : Num.Lp) (w : World) (hc : Ints w ca cl p.costs) (hcl : cl ≤ 9223372036854775807) (hr : RowsAt w ra rl p.rows) (hrl : rl ≤ 9223372036854775807)
    (aa : Option Addr) (al ac : Nat) (at' : List Int) (ha : Ints w aa al at') (hal : al ≤ 9223372036854775807) (ba : Option Addr) (bl bc : Nat) (y : List Int) (hy : Ints w ba bl y) (hbl : bl ≤ 9223372036854775807) (nm : Int) (hnm : -128 ≤ nm ∧ nm ≤ 127) (dn : Nat) (hdn : dn < 256) :
    Calls Try.prog 4 #[.agg #[.slice ca cl cc, .slice ra rl rc], .slice aa al ac, .slice ba bl bc, .int .i8 nm, .int .u8 dn] w fun e w' => e = .returned (.bool true) ∧ Below w.heap.size w w' := by
  have HC : Hid (Ints w ca cl p.costs) := hc
  have HR : Hid (RowsAt w ra rl p.rows) := hr
  have HA : Hid (Ints w aa al at') := ha
  have HY : Hid (Ints w ba bl y) := hy
  have HCL : Hid (cl = p.costs.length) := hc.1
  have HRL : Hid (rl = p.rows.length) := hr.1
  have HBL : Hid (bl = y.length) := hy.1
  clear hc hr ha hy
  obtain ⟨o, n, d, o2, n2, d2, er, hf1⟩ := costsV_form2 p at' y
  have HF1 : Hid (costsV p at' y = .tuple #[.agg #[.bool o, .int .i64 n, .int .i64 d], .agg #[.bool o2, .int .i64 n2, .int .i64 d2], .int .i64 er]) := hf1
  have K1 := fun (w' : World) (hb : Below w.heap.size w w') => spanCosts_any ca cl cc ra rl rc p w' (Ints.below HC.out hb (Nat.le_refl _)) hcl (RowsAt.below HR.out hb (Nat.le_refl _)) hrl aa al ac at' (Ints.below HA.out hb (Nat.le_refl _)) hal ba bl bc y (Ints.below HY.out hb (Nat.le_refl _)) hbl
  rw [hf1] at K1
  have HK1 : Hid _ := K1
  clear hf1 K1
  go_enter Try.func4, Try.ntmps4
  go_wp2_with fail
  refine (HK1.out _ (balloc _ _)).mono ?_
  rintro e w1 ⟨rfl, hb1⟩
  have HP1 : Hid (Bx w.heap.size [.slice ca cl cc, .slice ra rl rc] w1) := (Bx.new rfl _ _).step hb1
  have HB1 : Hid (Below w.heap.size w w1) := binto hb1
  clear hb1 HK1
  go_wp2_with fail
  generalize hW : (((((((w1.alloc (.cells #[.bool o, .int .i64 n, .int .i64 d] 30)).alloc (.cells #[.bool o2, .int .i64 n2, .int .i64 d2] 30)).alloc (.cells #[.int .i64 1] 2)).alloc (.cells #[.int .i64 1] 2)).alloc (.cells #[.slice (some ⟨w1.heap.size + 1 + 1 + 1, 0, none⟩) 1 1, .int .i64 3] 51)).alloc (.cells #[.slice (some ⟨w1.heap.size + 1 + 1, 0, none⟩) 1 1, .slice (some ⟨w1.heap.size + 1 + 1 + 1 + 1, 0, none⟩) 1 1] 25)).alloc (.cells #[.int .i64 0] 3)).alloc (.cells #[.int .i64 1] 2) = W
  have hT : SY w [.slice ca cl cc, .slice ra rl rc] w1.heap.size [.bool o, .int .i64 n, .int .i64 d] [.bool o2, .int .i64 n2, .int .i64 d2] W := by
    rw [← hW]
    exact ⟨(((((((HP1.out.step (balloc _ _)).step (balloc _ _)).step (balloc _ _)).step (balloc _ _)).step (balloc _ _)).step (balloc _ _)).step (balloc _ _)).step (balloc _ _), (((((((Bx.new rfl _ _).step (balloc _ _)).step (balloc _ _)).step (balloc _ _)).step (balloc _ _)).step (balloc _ _)).step (balloc _ _)).step (balloc _ _), ((((((Bx.new (by simp) _ _).step (balloc _ _)).step (balloc _ _)).step (balloc _ _)).step (balloc _ _)).step (balloc _ _)).step (balloc _ _), bstep (bstep (bstep (bstep (bstep (bstep (bstep (bstep HB1.out (balloc _ _)) (balloc _ _)) (balloc _ _)) (balloc _ _)) (balloc _ _)) (balloc _ _)) (balloc _ _)) (balloc _ _)⟩
  have k0 : W.cell? ⟨w1.heap.size + 1 + 1, 0, none⟩ = some (.int .i64 1) := by rw [← hW]; exact ((((((Bx.new (by simp) _ _).step (balloc _ _)).step (balloc _ _)).step (balloc _ _)).step (balloc _ _)).step (balloc _ _)).c 0 _ rfl
  have k1 : W.cell? ⟨w1.heap.size + 1 + 1 + 1, 0, none⟩ = some (.int .i64 1) := by rw [← hW]; exact (((((Bx.new (by simp) _ _).step (balloc _ _)).step (balloc _ _)).step (balloc _ _)).step (balloc _ _)).c 0 _ rfl
  have k2 : Bx (w1.heap.size + 1 + 1 + 1 + 1) [.slice (some ⟨w1.heap.size + 1 + 1 + 1, 0, none⟩) 1 1, .int .i64 3] W := by rw [← hW]; exact (((Bx.new (by simp) _ _).step (balloc _ _)).step (balloc _ _)).step (balloc _ _)
  have k4 : W.cell? ⟨w1.heap.size + 1 + 1 + 1 + 1 + 1 + 1, 0, none⟩ = some (.int .i64 0) := by rw [← hW]; exact ((Bx.new (by simp) _ _).step (balloc _ _)).c 0 _ rfl
  have k5 : W.cell? ⟨w1.heap.size + 1 + 1 + 1 + 1 + 1 + 1 + 1, 0, none⟩ = some (.int .i64 1) := by rw [← hW]; exact (Bx.new (by simp) _ _).c 0 _ rfl
  clear hW HP1 HB1
  have hrows : RowsAt W (some ⟨w1.heap.size + 1 + 1 + 1 + 1, 0, none⟩) 1 [([1], 3)] := by
    refine ⟨rfl, Or.inr ⟨w1.heap.size + 1 + 1 + 1 + 1, 0, rfl, k2.lt, fun j hj => ?_⟩⟩
    obtain rfl : j = 0 := by omega
    exact ⟨_, _, _, k2.c 0 _ rfl, k2.c 1 _ rfl, ints_at1 k1, by omega⟩
  obtain ⟨kd, ko2, kn2, kd2, ker, hkn⟩ := one_known
  have KO := spanCosts_any (some ⟨w1.heap.size + 1 + 1, 0, none⟩) 1 1 (some ⟨w1.heap.size + 1 + 1 + 1 + 1, 0, none⟩) 1 1 ⟨[1], [([1], 3)]⟩ W (ints_at1 k0) (by omega) hrows (by omega) (some ⟨w1.heap.size + 1 + 1 + 1 + 1 + 1 + 1, 0, none⟩) 1 1 [0] (ints_at1 k4) (by omega) (some ⟨w1.heap.size + 1 + 1 + 1 + 1 + 1 + 1 + 1, 0, none⟩) 1 1 [1] (ints_at1 k5) (by omega)
  rw [hkn] at KO
  refine KO.mono ?_
  rintro e w2 ⟨rfl, hb2⟩
  have hT := hT.step hb2
  clear KO hkn hrows k0 k1 k2 k4 k5 hb2
  generalize w1.heap.size = b9 at *
  have HT : Hid _ := hT
  obtain ⟨p0, p1, _, _⟩ := hT.p.all2
  obtain ⟨a0, a1, a2, _⟩ := hT.x9.all3
  obtain ⟨a3, a4, a5, _⟩ := hT.x10.all3
  have z0 : w.heap.size < w2.heap.size := hT.p.lt
  have z9 : b9 < w2.heap.size := hT.x9.lt
  have z10 : b9 + 1 < w2.heap.size := hT.x10.lt
  clear hT
  go_wp2_with fail
  have hT := (HT.out.step (balloc w2 (.cells #[.bool false, .int .i64 (-1), .int .i64 kd] 30))).step (balloc _ (.cells #[.bool ko2, .int .i64 kn2, .int .i64 kd2] 30))
  clear HT p0 p1 a0 a1 a2 a3 a4 a5 z0 z9 z10
  generalize hV : (w2.alloc (.cells #[.bool false, .int .i64 (-1), .int .i64 kd] 30)).alloc (.cells #[.bool ko2, .int .i64 kn2, .int .i64 kd2] 30) = V at hT ⊢
  clear hV
  have HT : Hid _ := hT
  obtain ⟨p0, p1, _, _⟩ := hT.p.all2
  obtain ⟨a0, a1, a2, _⟩ := hT.x9.all3
  obtain ⟨a3, a4, a5, _⟩ := hT.x10.all3
  have z0 : w.heap.size < V.heap.size := hT.p.lt
  have z9 : b9 < V.heap.size := hT.x9.lt
  have z10 : b9 + 1 < V.heap.size := hT.x10.lt
  clear hT
  have hD : 1 ≤ (dn : Int) % 16 + 1 ∧ (dn : Int) % 16 + 1 ≤ 16 := by omega
  have hNn : -16 ≤ nm.tmod 17 ∧ nm.tmod 17 ≤ 16 := tmod17 nm
  generalize (dn : Int) % 16 + 1 = D at *
  generalize nm.tmod 17 = Nn at *
  go_loop [20] (fun i => ∃ k : Nat, k ≤ cl ∧ i = .int .i64 k ∧ ∀ j, j < k → -12 ≤ p.costs[j]?.getD 0 ∧ p.costs[j]?.getD 0 ≤ 12) (fun i => cl - (intOf i).toNat)
  case atStart => exact ⟨0, Nat.zero_le _, rfl, fun j hj => absurd hj (Nat.not_lt_zero _)⟩
  case round =>
    obtain ⟨k, hk, rfl, hcb⟩ := hrel
    have HCB : Hid (∀ j, j < k → -12 ≤ p.costs[j]?.getD 0 ∧ p.costs[j]?.getD 0 ≤ 12) := hcb
    clear hcb
    by_cases hlt : k < cl
    · rcases (Ints.below HC.out HT.out.bel (Nat.le_refl _)).2 with h | ⟨cb, co, hca, hcs, hcc⟩
      · omega
      have ck := hcc k hlt
      clear hcc
      generalize hx : p.costs[k]?.getD 0 = x at ck
      have HX : Hid (p.costs[k]?.getD 0 = x) := hx
      clear hx
      subst hca
      by_cases h1 : 12 < x
      · have e1 : decide (12 < x) = true := by simpa using h1
        go_wp2_with fail
        go_ret
        exact ⟨rfl, HT.out.bel⟩
      by_cases h2 : x < -12
      · have e1 : decide (12 < x) = false := by simpa using h1
        have e2 : decide (x < -12) = true := by simpa using h2
        go_wp2_with fail
        go_ret
        exact ⟨rfl, HT.out.bel⟩
      · have e1 : decide (12 < x) = false := by simpa using h1
        have e2 : decide (x < -12) = false := by simpa using h2
        go_wp2_with fail
        go_round
        case rel =>
          refine ⟨k + 1, hlt, by go_num, fun j hj => ?_⟩
          by_cases hjk : j = k
          · subst hjk; rw [HX.out]; omega
          · exact HCB.out j (by omega)
        case measure => simp [intOf]; omega
    · have HCA : Hid (∀ j : Nat, -12 ≤ p.costs[j]?.getD 0 ∧ p.costs[j]?.getD 0 ≤ 12) := by
        intro j
        by_cases hj : j < k
        · exact HCB.out j hj
        · rw [List.getElem?_eq_none (by have := HCL.out; omega)]; simp
      clear HCB
      go_wp2_with fail
      go_loop [21] (fun i => ∃ k : Nat, k ≤ bl ∧ i = .int .i64 k ∧ ∀ j, j < k → -12 ≤ y[j]?.getD 0 ∧ y[j]?.getD 0 ≤ 12) (fun i => bl - (intOf i).toNat)
      case atStart => exact ⟨0, Nat.zero_le _, rfl, fun j hj => absurd hj (Nat.not_lt_zero _)⟩
      case round =>
        obtain ⟨q, hq, rfl, hyb⟩ := hrel
        have HYB : Hid (∀ j, j < q → -12 ≤ y[j]?.getD 0 ∧ y[j]?.getD 0 ≤ 12) := hyb
        clear hyb
        by_cases hlq : q < bl
        · rcases (Ints.below HY.out HT.out.bel (Nat.le_refl _)).2 with h | ⟨yb, yo, hya, hys, hyc⟩
          · omega
          have ck := hyc q hlq
          clear hyc
          generalize hx : y[q]?.getD 0 = x at ck
          have HX : Hid (y[q]?.getD 0 = x) := hx
          clear hx
          subst hya
          by_cases h1 : 12 < x
          · have e1 : decide (12 < x) = true := by simpa using h1
            go_wp2_with fail
            go_ret
            exact ⟨rfl, HT.out.bel⟩
          by_cases h2 : x < -12
          · have e1 : decide (12 < x) = false := by simpa using h1
            have e2 : decide (x < -12) = true := by simpa using h2
            go_wp2_with fail
            go_ret
            exact ⟨rfl, HT.out.bel⟩
          · have e1 : decide (12 < x) = false := by simpa using h1
            have e2 : decide (x < -12) = false := by simpa using h2
            go_wp2_with fail
            go_round
            case rel =>
              refine ⟨q + 1, hlq, by go_num, fun j hj => ?_⟩
              by_cases hjk : j = q
              · subst hjk; rw [HX.out]; omega
              · exact HYB.out j (by omega)
            case measure => simp [intOf]; omega
        · have HYA : Hid (∀ j : Nat, -12 ≤ y[j]?.getD 0 ∧ y[j]?.getD 0 ≤ 12) := by
            intro j
            by_cases hj : j < q
            · exact HYB.out j hj
            · rw [List.getElem?_eq_none (by have := HBL.out; omega)]; simp
          clear HYB
          go_wp2_with fail
          refine (look_any _ _ _ _ _ _ p _ (Ints.below HC.out HT.out.bel (Nat.le_refl _)) hcl (RowsAt.below HR.out HT.out.bel (Nat.le_refl _)) hrl _ _ _ at' (Ints.below HA.out HT.out.bel (Nat.le_refl _)) hal).mono ?_
          rintro e w3 ⟨xa, xl, xc, ya, yl, yc, ga, gl, gc, rfl, _, _, _, _, _, _, hb3⟩
          have hT := (HT.out).step hb3
          clear HT p0 p1 a0 a1 a2 a3 a4 a5 z0 z9 z10
          clear hb3
          have HT : Hid _ := hT
          obtain ⟨p0, p1, _, _⟩ := hT.p.all2
          obtain ⟨a0, a1, a2, _⟩ := hT.x9.all3
          obtain ⟨a3, a4, a5, _⟩ := hT.x10.all3
          have z0 : w.heap.size < w3.heap.size := hT.p.lt
          have z9 : b9 < w3.heap.size := hT.x9.lt
          have z10 : b9 + 1 < w3.heap.size := hT.x10.lt
          clear hT
          have HOK : Hid ((Num.look p at').err = 0 → p.may = true ∧ Num.rightB at' p.rows.length (p.costs.length + p.rows.length) = true ∧ Num.denL p at' p.rows.length ≠ 0) := Num.look_ok_of p at'
          have HER : Hid ((Num.look p at').err ≠ 0 → wrongV (Num.look p at').err = .tuple #[.agg #[.bool o, .int .i64 n, .int .i64 d], .agg #[.bool o2, .int .i64 n2, .int .i64 d2], .int .i64 er]) := by
            intro h; rw [← HF1.out]; unfold costsV; rw [if_pos h]
          have HNE : Hid ((Num.look p at').err = 0 → ¬ (y.length = p.costs.length) → wrongV 1 = .tuple #[.agg #[.bool o, .int .i64 n, .int .i64 d], .agg #[.bool o2, .int .i64 n2, .int .i64 d2], .int .i64 er]) := by
            intro h h2; rw [← HF1.out]; unfold costsV; rw [if_neg (by rw [h]; simp), if_neg (fun h3 => h2 h3.1)]
          have HYW : Hid (Num.withinB 400 y = true) := Num.within_alls 400 y (fun j _ => by have := HYA.out j; omega)
          have HGD : Hid ((Num.look p at').err = 0 → y.length = p.costs.length → endsV (Num.costsN p at' y) = .tuple #[.agg #[.bool o, .int .i64 n, .int .i64 d], .agg #[.bool o2, .int .i64 n2, .int .i64 d2], .int .i64 er]) := by
            intro h h2; rw [← HF1.out]; unfold costsV; rw [if_neg (by rw [h]; simp), if_pos ⟨h2, HYW.out⟩]
          generalize (Num.look p at').xd = dx at *
          generalize (Num.look p at').yd = dy at *
          generalize (Num.look p at').gd = dg at *
          generalize (Num.look p at').err = f at *
          by_cases hf : f = 0
          · subst hf
            have HOK2 : Hid (p.may = true ∧ Num.rightB at' p.rows.length (p.costs.length + p.rows.length) = true ∧ Num.denL p at' p.rows.length ≠ 0) := HOK.out rfl
            by_cases hlen : bl = cl
            · have HLY : Hid (y.length = p.costs.length) := by show _ = _; have h2 := HBL.out; have h3 := HCL.out; omega
              have HG : Hid (endsV (Num.costsN p at' y) = .tuple #[.agg #[.bool o, .int .i64 n, .int .i64 d], .agg #[.bool o2, .int .i64 n2, .int .i64 d2], .int .i64 er]) := HGD.out rfl HLY.out
              have hl1 : ((bl : Int) == (cl : Int)) = true := by simp; omega
              have hl2 : ((bl : Int) != (cl : Int)) = false := by simp; omega
              have HLEN : Hid (bl = cl) := hlen
              have h14 : 1 ≤ cl ∧ cl ≤ 4 := by have h3 := HCL.out; have := (p.may_of HOK2.out.1).1; omega
              clear hlen HOK HER HNE HGD
              obtain ⟨kk, ee, hmk, hke, he1, hmay⟩ := Num.mk_rep Nn D Nn D (by omega) (by omega) (by omega) (by omega) (by omega) (by omega) rfl
              have hkb := Num.may_bd hmay
              have HMK : Hid (Num.mk Nn D = (kk, ee, 0)) := hmk
              obtain ⟨hst0, hst⟩ := Num.stays p at' y HOK2.out HLY.out HYW.out Nn D hNn hD HCA.out HYA.out kk ee he1 hke.symm
              have HST0 : Hid _ := hst0
              have HST : Hid _ := hst
              have m3 := Num.atL_may p y HOK2.out.1 HLY.out Nn D hNn hD HCA.out HYA.out
              clear hst0 hst hmk hke hmay
              go_wp2_with fail
              have hT := HT.out.step (balloc w3 (.cells #[.slice xa xl xc, .int .i64 dx, .slice ya yl yc, .int .i64 dy, .slice ga gl gc, .int .i64 dg] 39))
              clear HT p0 p1 a0 a1 a2 a3 a4 a5 z0 z9 z10
              generalize w3.alloc (.cells #[.slice xa xl xc, .int .i64 dx, .slice ya yl yc, .int .i64 dy, .slice ga gl gc, .int .i64 dg] 39) = V3 at *
              have HT : Hid _ := hT
              obtain ⟨p0, p1, _, _⟩ := hT.p.all2
              obtain ⟨a0, a1, a2, _⟩ := hT.x9.all3
              obtain ⟨a3, a4, a5, _⟩ := hT.x10.all3
              have z0 : w.heap.size < V3.heap.size := hT.p.lt
              have z9 : b9 < V3.heap.size := hT.x9.lt
              have z10 : b9 + 1 < V3.heap.size := hT.x10.lt
              clear hT
              refine (at_any ca cl cc ra rl rc p.costs y _ (Ints.below HC.out HT.out.bel (Nat.le_refl _)) ba bl bc (Ints.below HY.out HT.out.bel (Nat.le_refl _)) h14.1 h14.2 HLEN.out HCA.out HYA.out Nn D hNn hD).mono ?_
              rintro e w4 ⟨g4, q4, rfl, hi4, hb4⟩
              have hT := (HT.out).step hb4
              clear HT p0 p1 a0 a1 a2 a3 a4 a5 z0 z9 z10
              clear hb4
              have HT : Hid _ := hT
              obtain ⟨p0, p1, _, _⟩ := hT.p.all2
              obtain ⟨a0, a1, a2, _⟩ := hT.x9.all3
              obtain ⟨a3, a4, a5, _⟩ := hT.x10.all3
              have z0 : w.heap.size < w4.heap.size := hT.p.lt
              have z9 : b9 < w4.heap.size := hT.x9.lt
              have z10 : b9 + 1 < w4.heap.size := hT.x10.lt
              clear hT
              have HI4 : Hid (Ints w4 (some ⟨g4, 0, none⟩) cl (Num.atL p.costs y Nn D)) := hi4
              clear hi4
              go_wp2_with fail
              refine (look_any _ _ _ _ _ _ (Num.withC p (Num.atL p.costs y Nn D)) _ HI4.out hcl (RowsAt.below HR.out HT.out.bel (Nat.le_refl _)) hrl _ _ _ at' (Ints.below HA.out HT.out.bel (Nat.le_refl _)) hal).mono ?_
              rintro e w5 ⟨xa3, xl3, xc3, ya3, yl3, yc3, ga3, gl3, gc3, rfl, _, _, hg3, _, _, hgl3, hb5⟩
              have hT := (HT.out).step hb5
              clear HT p0 p1 a0 a1 a2 a3 a4 a5 z0 z9 z10
              clear hb5
              have HT : Hid _ := hT
              obtain ⟨p0, p1, _, _⟩ := hT.p.all2
              obtain ⟨a0, a1, a2, _⟩ := hT.x9.all3
              obtain ⟨a3, a4, a5, _⟩ := hT.x10.all3
              have z0 : w.heap.size < w5.heap.size := hT.p.lt
              have z9 : b9 < w5.heap.size := hT.x9.lt
              have z10 : b9 + 1 < w5.heap.size := hT.x10.lt
              clear hT
              have HG3 : Hid (Ints w5 ga3 gl3 (Num.look (Num.withC p (Num.atL p.costs y Nn D)) at').g) := hg3
              clear hg3 HI4
              rw [HST0.out]
              generalize (Num.look (Num.withC p (Num.atL p.costs y Nn D)) at').xd = dx3 at *
              generalize (Num.look (Num.withC p (Num.atL p.costs y Nn D)) at').yd = dy3 at *
              generalize (Num.look (Num.withC p (Num.atL p.costs y Nn D)) at').gd = dg3 at *
              clear HST0 m3
              generalize (Num.look (Num.withC p (Num.atL p.costs y Nn D)) at').g = lg3 at *
              go_wp2_with fail
              have hT := HT.out.step (balloc w5 (.cells #[.slice xa3 xl3 xc3, .int .i64 dx3, .slice ya3 yl3 yc3, .int .i64 dy3, .slice ga3 gl3 gc3, .int .i64 dg3] 39))
              have HG3b : Hid (Ints (w5.alloc (.cells #[.slice xa3 xl3 xc3, .int .i64 dx3, .slice ya3 yl3 yc3, .int .i64 dy3, .slice ga3 gl3 gc3, .int .i64 dg3] 39)) ga3 gl3 lg3) := Ints.below HG3.out (balloc _ _) (Nat.le_refl _)
              have HX3 : Hid (Bx w5.heap.size [.slice xa3 xl3 xc3, .int .i64 dx3, .slice ya3 yl3 yc3, .int .i64 dy3, .slice ga3 gl3 gc3, .int .i64 dg3] (w5.alloc (.cells #[.slice xa3 xl3 xc3, .int .i64 dx3, .slice ya3 yl3 yc3, .int .i64 dy3, .slice ga3 gl3 gc3, .int .i64 dg3] 39))) := Bx.new rfl _ _
              clear HT p0 p1 a0 a1 a2 a3 a4 a5 z0 z9 z10
              clear HG3
              generalize w5.alloc (.cells #[.slice xa3 xl3 xc3, .int .i64 dx3, .slice ya3 yl3 yc3, .int .i64 dy3, .slice ga3 gl3 gc3, .int .i64 dg3] 39) = V5 at *
              generalize w5.heap.size = b24 at *
              have HT : Hid _ := hT
              obtain ⟨p0, p1, _, _⟩ := hT.p.all2
              obtain ⟨a0, a1, a2, _⟩ := hT.x9.all3
              obtain ⟨a3, a4, a5, _⟩ := hT.x10.all3
              have z0 : w.heap.size < V5.heap.size := hT.p.lt
              have z9 : b9 < V5.heap.size := hT.x9.lt
              have z10 : b9 + 1 < V5.heap.size := hT.x10.lt
              clear hT
              refine (of_any _ _ _ kk ee 0 HMK.out).mono ?_
              rintro e w6 ⟨rfl, hb6⟩
              have HX6 : Hid (Bx b24 [.slice xa3 xl3 xc3, .int .i64 dx3, .slice ya3 yl3 yc3, .int .i64 dy3, .slice ga3 gl3 gc3, .int .i64 dg3] w6) := HX3.out.step hb6
              have HG6 : Hid (Ints w6 ga3 gl3 lg3) := Ints.below HG3b.out hb6 (Nat.le_refl _)
              have hT := (HT.out).step hb6
              clear HT p0 p1 a0 a1 a2 a3 a4 a5 z0 z9 z10
              clear hb6
              have HT : Hid _ := hT
              obtain ⟨p0, p1, _, _⟩ := hT.p.all2
              obtain ⟨a0, a1, a2, _⟩ := hT.x9.all3
              obtain ⟨a3, a4, a5, _⟩ := hT.x10.all3
              have z0 : w.heap.size < w6.heap.size := hT.p.lt
              have z9 : b9 < w6.heap.size := hT.x9.lt
              have z10 : b9 + 1 < w6.heap.size := hT.x10.lt
              clear hT
              clear HX3 HG3b
              generalize hrb : (!Num.anyPos lg3) = rb at *
              have HRB : Hid ((!Num.anyPos lg3) = rb) := hrb
              have K3 : Hid (∀ v, Ints v ga3 gl3 lg3 → Calls Try.prog 19 #[.agg #[.slice ga3 gl3 gc3, .int .i64 dg3]] v fun e v' => e = .returned (.bool rb) ∧ Below v.heap.size v v') := by
                intro v h
                have := below3_any ga3 gl3 gc3 lg3 dg3 v h (by omega)
                rw [HRB.out] at this
                exact this
              clear hrb HRB
              have x4 := HX6.out.c 4 _ rfl
              have x5 := HX6.out.c 5 _ rfl
              have z24 : b24 < w6.heap.size := HX6.out.lt
              cases hemp : Num.emptyS (Num.costsN p at' y) with
              | true =>
                have hg := HG.out
                unfold endsV at hg
                rw [if_pos hemp] at hg
                obtain ⟨rfl, rfl, rfl, rfl, rfl, rfl, rfl⟩ := wrong_is2 (k := 4) hg
                have hs := HST.out
                rw [hemp] at hs
                obtain rfl : false = rb := hs
                clear hg HG HST
                go_wp2_with fail
                refine (K3.out _ (Ints.below HG6.out (balloc _ _) (Nat.le_refl _))).mono ?_
                rintro e w7 ⟨rfl, hb7⟩
                have hB7 := bstep (bstep HT.out.bel (balloc _ _)) hb7
                go_wp2_with fail
                go_ret
                exact ⟨rfl, hB7⟩
              | false =>
                have hg := HG.out
                have hsb := Num.span_bd3 p at' y HOK2.out HLY.out HYW.out
                have hs := HST.out
                rw [hemp] at hs
                unfold endsV at hg
                rw [if_neg (by rw [hemp]; simp)] at hg
                generalize Num.costsN p at' y = s at *
                obtain ⟨so, sn, sd, so2, sn2, sd2, sno⟩ := s
                simp at hg
                obtain ⟨⟨rfl, rfl, rfl⟩, ⟨rfl, rfl, rfl⟩, rfl⟩ := hg
                simp only at hsb
                have KI : Hid (∀ v, Calls Try.prog 18 #[.agg #[.bool so, .int .i64 sn, .int .i64 sd, .bool so2, .int .i64 sn2, .int .i64 sd2, .int .i64 0, .int .i64 0, .int .i64 0, .int .i64 0], .agg #[.int .i64 kk, .int .i64 ee]] v fun r v' => r = .returned (.bool rb) ∧ Below v.heap.size v v') := by
                  intro v
                  have := in_any so so2 sn sd sn2 sd2 kk ee v hsb.1 hsb.2.1 hsb.2.2.1 hsb.2.2.2 (by omega) (by omega)
                  have e : Num.inSpn ⟨so, sn, sd, so2, sn2, sd2, false⟩ kk ee = rb := by rw [← hs]; simp [Num.inSpn]
                  rw [e] at this
                  exact this
                clear hs HG HST hsb hemp
                go_wp2_with fail
                refine (KI.out _).mono ?_
                rintro e w7 ⟨rfl, hb7⟩
                have HX7 : Hid (Bx b24 [.slice xa3 xl3 xc3, .int .i64 dx3, .slice ya3 yl3 yc3, .int .i64 dy3, .slice ga3 gl3 gc3, .int .i64 dg3] w7) := (HX6.out.step (balloc _ _)).step hb7
                have HG7 : Hid (Ints w7 ga3 gl3 lg3) := Ints.below (Ints.below HG6.out (balloc _ _) (Nat.le_refl _)) hb7 (Nat.le_refl _)
                have HB7 : Hid (Below w.heap.size w w7) := bstep (bstep HT.out.bel (balloc _ _)) hb7
                clear x4 x5 z24 hb7 KI
                have x4 := HX7.out.c 4 _ rfl
                have x5 := HX7.out.c 5 _ rfl
                have z24 : b24 < w7.heap.size := HX7.out.lt
                go_wp2_with fail
                refine (K3.out _ HG7.out).mono ?_
                rintro e w8 ⟨rfl, hb8⟩
                have hB8 := bstep HB7.out hb8
                go_wp2_with fail
                go_ret
                exact ⟨ret_bool (by simp), hB8⟩
            · have hl1 : ((bl : Int) == (cl : Int)) = false := by simp; omega
              have hl2 : ((bl : Int) != (cl : Int)) = true := by simp; omega
              obtain ⟨rfl, rfl, rfl, rfl, rfl, rfl, rfl⟩ := wrong_is2 (k := 1) (HNE.out rfl (by have h2 := HBL.out; have h3 := HCL.out; omega))
              have hE := end_eq false 0 0 false 0 0
              clear HOK HER HNE HGD HF1
              go_wp2_with fail
              go_ret
              exact ⟨rfl, bstep HT.out.bel (balloc _ _)⟩
          · have hf1 : (f != 0) = true := by simpa using hf
            obtain ⟨rfl, rfl, rfl, rfl, rfl, rfl, rfl⟩ := wrong_is2 (k := f) (HER.out hf)
            have hE := end_eq false 0 0 false 0 0
            clear HOK HER HNE HGD HF1
            go_wp2_with fail
            go_ret
            exact ⟨rfl, bstep HT.out.bel (balloc _ _)⟩

end Go.Proofs.Ytipcbhodlgoflab
