/- What the document's Wrong and Same do, and the law SweepTells: with no condition. -/
import Derived.Test.YtipcbhodlgoflabSwpQ
namespace Go.Proofs.Ytipcbhodlgoflab
open Go.RowKit

theorem end_eqD (d : Nat) (o : Bool) (a b : Int) (o' : Bool) (a' b' : Int) (w : World) : (Op.equalIn (d + 3) 30 (.agg #[.bool o, .int .i64 a, .int .i64 b]) (.agg #[.bool o', .int .i64 a', .int .i64 b'])).run Try.prog w = .ok ((o == o') && ((a == a') && (b == b'))) w := by
  have hS : Try.prog.underlying 30 = some (.struct (Try.prog.fieldsOf 30)) := by kernel_rfl
  have hp : Try.prog.stoodInHeld 30 = false := by kernel_rfl
  have u2 := Try.underlying4
  have hF := frac_eq d a b a' b'
  rw [show d + 3 = (d + 2) + 1 from rfl, run_equalIn_agg w (d + 2) 30 _ _ hS hp]
  simp only [Program.fieldsOf, Try.underlying30]
  go_simp
  cases o <;> cases o' <;> by_cases h1 : a = a' <;> by_cases h2 : b = b' <;> simp [h1, h2]

theorem piece_eq (fo : Bool) (fn fd : Int) (tt : Bool) (tn td bn bd sn sd : Int) (w : World) : (Op.equalIn 10000 58 (.agg #[.bool fo, .int .i64 fn, .int .i64 fd, .bool tt, .int .i64 tn, .int .i64 td, .int .i64 bn, .int .i64 bd, .int .i64 sn, .int .i64 sd]) (.agg #[.bool fo, .int .i64 fn, .int .i64 fd, .bool tt, .int .i64 tn, .int .i64 td, .int .i64 bn, .int .i64 bd, .int .i64 sn, .int .i64 sd])).run Try.prog w = .ok true w := by
  have hS : Try.prog.underlying 58 = some (.struct (Try.prog.fieldsOf 58)) := by kernel_rfl
  have hp : Try.prog.stoodInHeld 58 = false := by kernel_rfl
  have hE1 := end_eqD 9996 fo fn fd fo fn fd
  have hE2 := end_eqD 9996 tt tn td tt tn td
  have hF1 := frac_eq 9997 bn bd bn bd
  have hF2 := frac_eq 9997 sn sd sn sd
  rw [show (10000 : Nat) = 9999 + 1 from rfl, run_equalIn_agg w 9999 58 _ _ hS hp]
  simp only [Program.fieldsOf, Try.underlying58]
  simp only [beq_self_eq_true, Bool.and_self] at hE1 hE2 hF1 hF2
  go_simp

theorem Num.kind_three (p : Num.Lp) (h : p.may = true) : Num.kindN p = 3 ↔ ¬ ∃ a, Num.Good p a p.rows.length p.costs.length := by
  rcases Num.kindN_is p h with ⟨e, t, ht⟩ | ⟨e, _, g, hg⟩ | ⟨e, hn⟩
  · rw [e]
    exact ⟨fun h => absurd h (by decide), fun hn => absurd ⟨t, ht.toGood⟩ hn⟩
  · rw [e]
    exact ⟨fun h => absurd h (by decide), fun hn => absurd ⟨g, hg⟩ hn⟩
  · rw [e]
    exact ⟨fun _ => hn, fun _ => rfl⟩

set_option maxRecDepth 4000 in
set_option maxHeartbeats 1600000 in
theorem rsame_any (a : Option Addr) (c : Nat) (v : Value) (L : List Num.Pc) (w : World) (h1 : PcsAt w a L.length L) (h2 : PcsV w v L) (hlen : L.length ≤ 1000) :
    Calls Try.prog 22 #[.slice a L.length c, v] w fun e w' => e = .returned (.bool true) ∧ Below w.heap.size w w' := by
  rcases h2 with ⟨rfl, rfl⟩ | ⟨g2, c2, rfl, hg2, hh2, hne, _⟩
  · go_enter Try.func22, Try.ntmps22
    go_wp2_with fail
    go_loopw [5] (fun i wr => i = .int .i64 0 ∧ wr = w) (fun _ _ => 0)
    case atStart => exact ⟨rfl, rfl⟩
    case round =>
      obtain ⟨rfl, rfl⟩ := hrel
      go_wp2_with fail
      go_ret
      exact ⟨rfl, Below.refl _ _⟩
  · have hl0 : 0 < L.length := List.length_pos_iff.2 hne
    rcases h1.2 with h | ⟨g1, rfl, hg1, hh1⟩
    · omega
    have HH1 : Hid (HoldsPc w g1 L) := hh1
    have HH2 : Hid (HoldsPc w g2 L) := hh2
    clear h1 hh1 hh2 hne
    generalize hn : L.length = n at *
    have HN : Hid (L.length = n) := hn
    clear hn
    go_enter Try.func22, Try.ntmps22
    go_wp2_with fail
    go_loopw [5] (fun i wr => ∃ k : Nat, k ≤ n ∧ i = .int .i64 k ∧ Below w.heap.size w wr) (fun i _ => n - (intOf i).toNat)
    case atStart => exact ⟨0, Nat.zero_le _, rfl, Below.refl _ _⟩
    case round =>
      obtain ⟨k, hk, rfl, hbl⟩ := hrel
      by_cases hlt : k < n
      · obtain ⟨y, hy⟩ : ∃ y, L[k]? = some y := ⟨_, List.getElem?_eq_getElem (by have := HN.out; omega)⟩
        obtain ⟨fo, fn, fd, tt, tn, td, bn, bd, sn, sd, rfl⟩ := pieces_are y
        have hten1 := (HoldsPc.below HH1.out hbl hg1).ten hy
        obtain ⟨c0, c1, c2, c3, c4, c5, c6, c7, c8, c9⟩ := hten1
        have hten2 := (HoldsPc.below HH2.out hbl hg2).ten hy
        obtain ⟨e0, e1, e2, e3, e4, e5, e6, e7, e8, e9⟩ := hten2
        have hE := piece_eq fo fn fd tt tn td bn bd sn sd
        clear hy
        go_wp2_with fail
        go_region
        go_wp2_with fail
        go_roundw
        case rel => first | exact ⟨k + 1, hlt, by go_num, hbl.drew⟩ | ((repeat apply Exists.intro); refine ⟨?_, rfl⟩; exact ⟨k + 1, hlt, by go_num, hbl.drew⟩)
        case measure => simp [intOf]; omega
      · have hke : k = n := by omega
        subst hke
        go_wp2_with fail
        go_ret
        exact ⟨rfl, hbl⟩

set_option maxHeartbeats 1600000 in
theorem rwrong_any (ca : Option Addr) (cl cc : Nat) (ra : Option Addr) (rl rc : Nat) (p : Num.Lp) (w : World) (hc : Ints w ca cl p.costs) (hcl : cl ≤ 9223372036854775807) (hr : RowsAt w ra rl p.rows) (hrl : rl ≤ 9223372036854775807)
    (ba : Option Addr) (bl bc : Nat) (b : List Int) (hb : Ints w ba bl b) (hbl : bl ≤ 9223372036854775807) :
    Calls Try.prog 21 #[.agg #[.slice ca cl cc, .slice ra rl rc], .slice ba bl bc] w fun e w' => Below w.heap.size w w' ∧
      ((p.may = false ∧ e = .returned (.int .i64 2)) ∨
       (p.may = true ∧ (Num.withC p b).may = false ∧ e = .returned (.int .i64 1)) ∨
       (p.may = true ∧ (Num.withC p b).may = true ∧ (¬ ∃ a, Num.Good p a rl cl) ∧ e = .returned (.int .i64 4)) ∨
       (p.may = true ∧ (Num.withC p b).may = true ∧ (∃ a, Num.Good p a rl cl) ∧ e = .returned (.int .i64 0))) := by
  have HC : Hid (Ints w ca cl p.costs) := hc
  have HR : Hid (RowsAt w ra rl p.rows) := hr
  have HBB : Hid (Ints w ba bl b) := hb
  have HCN : Hid (cl = p.costs.length) := hc.1
  have HRN : Hid (rl = p.rows.length) := hr.1
  have HBN : Hid (bl = b.length) := hb.1
  clear hc hr hb
  have hB0 : Bx w.heap.size [.slice ca cl cc, .slice ra rl rc] (w.alloc (.cells #[.slice ca cl cc, .slice ra rl rc] 25)) := Bx.new rfl _ _
  have hBel0 := balloc w (.cells #[.slice ca cl cc, .slice ra rl rc] 25)
  go_enter Try.func21, Try.ntmps21
  go_wp2_with fail
  refine (r2may_any ca cl cc ra rl rc p _ (Ints.below HC.out hBel0 (Nat.le_refl _)) hcl (RowsAt.below HR.out hBel0 (Nat.le_refl _)) hrl).mono ?_
  rintro e w1 ⟨rfl, hb1⟩
  have hB1 := hB0.step hb1
  have HBel1 : Hid (Below w.heap.size w w1) := bstep hBel0 hb1
  obtain ⟨a0, a1, -⟩ := hB1.all2
  have hz1 : w.heap.size < w1.heap.size := hB1.lt
  clear hB0 hBel0 hb1
  cases hm : p.may with
  | false =>
    go_wp2_with fail
    go_ret
    exact ⟨HBel1.out, Or.inl ⟨hm, rfl⟩⟩
  | true =>
    have HM : Hid (p.may = true) := hm
    clear hm
    go_wp2_with fail
    refine (small_any 400 cl ba bl bc b _ (Ints.below HBB.out HBel1.out (Nat.le_refl _)) hbl hcl (by omega) (by omega)).mono ?_
    rintro e w2 ⟨rfl, rfl⟩
    have HSM : Hid ((decide (bl = cl) && Num.withinB 400 b) = (Num.withC p b).may) := by
      show _ = _
      cases hcm : (Num.withC p b).may with
      | true =>
        obtain ⟨h1, h2⟩ := Num.withC_len p b HM.out hcm
        rw [h2, decide_eq_true (by rw [HBN.out, h1, HCN.out]), Bool.and_true]
      | false =>
        cases hs : (decide (bl = cl) && Num.withinB 400 b) with
        | false => rfl
        | true =>
          rw [Bool.and_eq_true, decide_eq_true_eq] at hs
          rw [Num.withC_may p b (by rw [← HBN.out, ← HCN.out]; exact hs.1) HM.out hs.2] at hcm
          cases hcm
    rw [HSM.out]
    cases hcm : (Num.withC p b).may with
    | false =>
      go_wp2_with fail
      go_ret
      exact ⟨HBel1.out, Or.inr (Or.inl ⟨HM.out, hcm, rfl⟩)⟩
    | true =>
      have HCM : Hid ((Num.withC p b).may = true) := hcm
      clear hcm
      go_wp2_with fail
      refine (kind_any ca cl cc ra rl rc p _ (Ints.below HC.out HBel1.out (Nat.le_refl _)) (RowsAt.below HR.out HBel1.out (Nat.le_refl _)) HM.out).mono ?_
      rintro e w3 ⟨rfl, hb3⟩
      have HBel3 : Hid (Below w.heap.size w w3) := bstep HBel1.out hb3
      have HKN : Hid (Num.kindN p = 3 ↔ ¬ ∃ a, Num.Good p a rl cl) := by
        show _ ↔ _
        rw [HRN.out, HCN.out]
        exact Num.kind_three p HM.out
      by_cases hk : Num.kindN p = 3
      · have hng := HKN.out.1 hk
        rw [hk]
        have HNG : Hid _ := hng
        clear hng
        go_wp2_with fail
        go_ret
        exact ⟨HBel3.out, Or.inr (Or.inr (Or.inl ⟨HM.out, HCM.out, HNG.out, rfl⟩))⟩
      · have HYG : Hid (∃ a, Num.Good p a rl cl) := by
          show ∃ a, _
          exact Classical.byContradiction fun h => hk (HKN.out.2 h)
        have hk' : (Num.kindN p == 3) = false := by simpa using hk
        generalize Num.kindN p = kn at *
        go_wp2_with fail
        go_ret
        exact ⟨HBel3.out, Or.inr (Or.inr (Or.inr ⟨HM.out, HCM.out, HYG.out, rfl⟩))⟩

theorem sweep_len (p : Num.Lp) (b : List Int) (rl cl : Nat) (cx : Num.Ctx p b rl cl) : (Num.sweepN (Num.linesN p b rl cl (Num.allC rl (cl + rl)))).length ≤ 1000 := by
  have h1 := (Num.all_len rl cl cx.h1 cx.h4 cx.n1 cx.n4).1
  have h2 := Num.lines_len p b rl cl (Num.allC rl (cl + rl))
  generalize Num.linesN p b rl cl (Num.allC rl (cl + rl)) = L at *
  have h3 := Num.out_len L L.length
  rw [List.take_length] at h3
  unfold Num.sweepN
  split
  · simp
  · omega

set_option maxRecDepth 4000 in
set_option maxHeartbeats 1600000 in
theorem sweepTells.walk (ca : Option Addr) (cl cc : Nat) (ra : Option Addr) (rl rc : Nat) (p : Num.Lp) (w : World) (hc : Ints w ca cl p.costs) (hcl : cl ≤ 9223372036854775807) (hr : RowsAt w ra rl p.rows) (hrl : rl ≤ 9223372036854775807)
    (ba : Option Addr) (bl bc : Nat) (b : List Int) (hb : Ints w ba bl b) (hbl : bl ≤ 9223372036854775807) :
    Calls Try.prog 5 #[.agg #[.slice ca cl cc, .slice ra rl rc], .slice ba bl bc] w fun e w' => e = .returned (.bool true) ∧ Below w.heap.size w w' := by
  have HC : Hid (Ints w ca cl p.costs) := hc
  have HR : Hid (RowsAt w ra rl p.rows) := hr
  have HBB : Hid (Ints w ba bl b) := hb
  have HCN : Hid (cl = p.costs.length) := hc.1
  have HRN : Hid (rl = p.rows.length) := hr.1
  clear hc hr hb
  have hB0 : Bx w.heap.size [.slice ca cl cc, .slice ra rl rc] (w.alloc (.cells #[.slice ca cl cc, .slice ra rl rc] 25)) := Bx.new rfl _ _
  have hBel0 := balloc w (.cells #[.slice ca cl cc, .slice ra rl rc] 25)
  go_enter Try.func5, Try.ntmps5
  go_wp2_with fail
  refine (sweep_any ca cl cc ra rl rc p _ (Ints.below HC.out hBel0 (Nat.le_refl _)) hcl (RowsAt.below HR.out hBel0 (Nat.le_refl _)) hrl ba bl bc b (Ints.below HBB.out hBel0 (Nat.le_refl _)) hbl).mono ?_
  rintro e w1 ⟨hb1, hcase⟩
  have hB1 := hB0.step hb1
  have HBel1 : Hid (Below w.heap.size w w1) := bstep hBel0 hb1
  obtain ⟨a0, a1, -⟩ := hB1.all2
  have HB1 : Hid (Bx w.heap.size [.slice ca cl cc, .slice ra rl rc] w1) := hB1
  have hz1 : w.heap.size < w1.heap.size := hB1.lt
  clear hB0 hBel0 hb1 hB1
  have KW : Hid (Calls Try.prog 21 #[.agg #[.slice ca cl cc, .slice ra rl rc], .slice ba bl bc] w1 fun e w' => Below w1.heap.size w1 w' ∧
      ((p.may = false ∧ e = .returned (.int .i64 2)) ∨
       (p.may = true ∧ (Num.withC p b).may = false ∧ e = .returned (.int .i64 1)) ∨
       (p.may = true ∧ (Num.withC p b).may = true ∧ (¬ ∃ a, Num.Good p a rl cl) ∧ e = .returned (.int .i64 4)) ∨
       (p.may = true ∧ (Num.withC p b).may = true ∧ (∃ a, Num.Good p a rl cl) ∧ e = .returned (.int .i64 0)))) := rwrong_any ca cl cc ra rl rc p w1 (Ints.below HC.out HBel1.out (Nat.le_refl _)) hcl (RowsAt.below HR.out HBel1.out (Nat.le_refl _)) hrl ba bl bc b (Ints.below HBB.out HBel1.out (Nat.le_refl _)) hbl
  rcases hcase with ⟨hm, rfl⟩ | ⟨hm, hcm, rfl⟩ | ⟨hm, hcm, hg, rfl⟩ | ⟨hm, hcm, hg, a, c, rfl, hpa⟩
  · have HM : Hid _ := hm
    clear hm
    go_wp2_with fail
    refine KW.out.mono ?_
    rintro e w2 ⟨hb2, hcase⟩
    have HB2 : Hid (Below w.heap.size w w2) := bstep HBel1.out hb2
    rcases hcase with ⟨_, rfl⟩ | ⟨h, _⟩ | ⟨h, _⟩ | ⟨h, _⟩
    · clear hb2 KW
      go_wp2_with fail
      go_ret
      exact ⟨rfl, HB2.out⟩
    all_goals (rw [HM.out] at h; cases h)
  · have HM : Hid _ := hm
    have HCM : Hid _ := hcm
    clear hm hcm
    go_wp2_with fail
    refine KW.out.mono ?_
    rintro e w2 ⟨hb2, hcase⟩
    have HB2 : Hid (Below w.heap.size w w2) := bstep HBel1.out hb2
    rcases hcase with ⟨h, _⟩ | ⟨_, _, rfl⟩ | ⟨_, h, _⟩ | ⟨_, h, _⟩
    · rw [HM.out] at h; cases h
    · clear hb2 KW
      go_wp2_with fail
      go_ret
      exact ⟨rfl, HB2.out⟩
    all_goals (rw [HCM.out] at h; cases h)
  · have HM : Hid _ := hm
    have HCM : Hid _ := hcm
    have HG : Hid (¬ ∃ a, Num.Good p a rl cl) := hg
    clear hm hcm hg
    go_wp2_with fail
    refine KW.out.mono ?_
    rintro e w2 ⟨hb2, hcase⟩
    have HB2 : Hid (Below w.heap.size w w2) := bstep HBel1.out hb2
    rcases hcase with ⟨h, _⟩ | ⟨_, h, _⟩ | ⟨_, _, _, rfl⟩ | ⟨_, _, h, _⟩
    · rw [HM.out] at h; cases h
    · rw [HCM.out] at h; cases h
    · clear hb2 KW
      go_wp2_with fail
      go_ret
      exact ⟨rfl, HB2.out⟩
    · exact absurd h HG.out
  · have HM : Hid _ := hm
    have HCM : Hid _ := hcm
    have HG : Hid (∃ a, Num.Good p a rl cl) := hg
    have CX : Hid (Num.Ctx p b rl cl) := ⟨HRN.out, HCN.out, (Num.withC_len p b hm hcm).1.trans HCN.out.symm, hm, hcm⟩
    have hln := sweep_len p b rl cl CX.out
    have HPA : Hid (PcsAt w1 a (Num.sweepN (Num.linesN p b rl cl (Num.allC rl (cl + rl)))).length (Num.sweepN (Num.linesN p b rl cl (Num.allC rl (cl + rl))))) := hpa
    clear hm hcm hg hpa
    have KR : Hid (∀ w', Below w.heap.size w w' → Calls Try.prog 23 #[.agg #[.slice ca cl cc, .slice ra rl rc], .slice ba bl bc] w' fun e w'' => ∃ v, e = .returned v ∧ PcsV w'' v (Num.sweepN (Num.linesN p b rl cl (Num.allC rl (cl + rl)))) ∧ Below w'.heap.size w' w'') := fun w' h => rsweep_any ca cl cc ra rl rc p w' (Ints.below HC.out h (Nat.le_refl _)) (RowsAt.below HR.out h (Nat.le_refl _)) ba bl bc b (Ints.below HBB.out h (Nat.le_refl _)) CX.out
    generalize Num.sweepN (Num.linesN p b rl cl (Num.allC rl (cl + rl))) = L at *
    have HLN : Hid (L.length ≤ 1000) := hln
    clear hln
    generalize hn : L.length = n at *
    have HN : Hid (L.length = n) := hn
    clear hn
    go_wp2_with fail
    refine KW.out.mono ?_
    rintro e w2 ⟨hb2, hcase⟩
    have HB2 : Hid (Below w.heap.size w w2) := bstep HBel1.out hb2
    have HBX2 : Hid (Bx w.heap.size [.slice ca cl cc, .slice ra rl rc] w2) := HB1.out.step hb2
    have HPA2 : Hid (PcsAt w2 a n L) := PcsAt.below HPA.out hb2
    rcases hcase with ⟨h, _⟩ | ⟨_, h, _⟩ | ⟨_, _, h, _⟩ | ⟨_, _, _, rfl⟩
    · rw [HM.out] at h; cases h
    · rw [HCM.out] at h; cases h
    · exact absurd HG.out h
    · clear KW a0 a1 hz1 HB1 HPA hb2
      obtain ⟨a0, a1, -⟩ := HBX2.out.all2
      have hz1 : w.heap.size < w2.heap.size := HBX2.out.lt
      go_wp2_with fail
      refine (KR.out _ HB2.out).mono ?_
      rintro e w3 ⟨v, rfl, hpv, hb3⟩
      have HPV : Hid (PcsV w3 v L) := hpv
      have HPA3 : Hid (PcsAt w3 a n L) := PcsAt.below HPA2.out hb3
      have HB3 : Hid (Below w.heap.size w w3) := bstep HB2.out hb3
      have KS : Hid (Calls Try.prog 22 #[.slice a n c, v] w3 fun e w' => e = .returned (.bool true) ∧ Below w3.heap.size w3 w') := by
        have h := HPA3.out
        rw [← HN.out] at h ⊢
        exact rsame_any a c v L w3 h HPV.out (by have := HLN.out; have := HN.out; omega)
      clear hpv hb3 a0 a1 hz1
      go_wp2_with fail
      refine KS.out.mono ?_
      rintro e w4 ⟨rfl, hb4⟩
      have HB4 : Hid (Below w.heap.size w w4) := bstep HB3.out hb4
      clear hb4
      go_wp2_with fail
      go_ret
      exact ⟨rfl, HB4.out⟩

end Go.Proofs.Ytipcbhodlgoflab
