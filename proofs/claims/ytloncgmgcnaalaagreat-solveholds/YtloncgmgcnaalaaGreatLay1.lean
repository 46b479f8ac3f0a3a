/- What layout.Together, layout.below and the document's Dot do. -/
import Derived.Test.YtloncgmgcnaalaaGreatRef1
import Derived.Test.YtloncgmgcnaalaaGreatNum
namespace Go.Proofs.YtloncgmgcnaalaaGreat
open Go.RowKit

set_option maxHeartbeats 400000 in
theorem dot_any (a b : Option Addr) (la ca lb cb : Nat) (l m : List Int) (w : World) (A B : Int) (hl : Ints w a la l) (hm : Ints w b lb m) (hle : la ≤ lb) (hlen : lb ≤ 9223372036854775807)
    (hA : ∀ j : Nat, -A ≤ l[j]?.getD 0 ∧ l[j]?.getD 0 ≤ A) (hB : ∀ j : Nat, -B ≤ m[j]?.getD 0 ∧ m[j]?.getD 0 ≤ B) (hAB : A * B * la ≤ 4611686018427387904) :
    Calls Tryz.prog 18 #[.slice a la ca, .slice b lb cb] w fun e w' => e = .returned (.int .i64 (Num.dotN l m la)) ∧ ∃ n, w' = w.drewN n := by
  have HD : Hid (∀ k : Nat, k ≤ la → -4611686018427387904 ≤ Num.dotN l m k ∧ Num.dotN l m k ≤ 4611686018427387904) := by
    intro k hk
    have h0 : 0 ≤ A * B := Int.mul_nonneg (by have := hA 0; omega) (by have := hB 0; omega)
    have h1 : A * B * k ≤ A * B * la := Int.mul_le_mul_of_nonneg_left (by omega) h0
    have := Num.dotN_bd l m A B hA hB k
    omega
  have HP : Hid (∀ k : Nat, k < la → -4611686018427387904 ≤ l[k]?.getD 0 * m[k]?.getD 0 ∧ l[k]?.getD 0 * m[k]?.getD 0 ≤ 4611686018427387904) := by
    intro k hk
    have h0 : 0 ≤ A * B := Int.mul_nonneg (by have := hA 0; omega) (by have := hB 0; omega)
    have h1 : A * B * (1 : Int) ≤ A * B * la := Int.mul_le_mul_of_nonneg_left (by omega) h0
    have := Num.mul_bd2 _ _ _ _ (hA k) (hB k)
    omega
  clear hA hB hAB
  obtain ⟨hll, hl⟩ := hl
  obtain ⟨hml, hm⟩ := hm
  have HL : Hid (la = l.length) := hll
  have HM : Hid (lb = m.length) := hml
  clear hll hml
  go_enter Tryz.func18, Tryz.ntmps18
  go_wp2
  go_loopw [5, 6] (fun c i wr => ∃ (k : Nat), k ≤ la ∧ i = .int .i64 k ∧ c = .int .i64 (Num.dotN l m k) ∧ ∃ n, wr = w.drewN n) (fun _ i _ => la - (intOf i).toNat)
  case atStart => exact ⟨0, Nat.zero_le _, rfl, rfl, 0, rfl⟩
  case round =>
    obtain ⟨k, hk, rfl, rfl, n, rfl⟩ := hrel
    by_cases hlt : k < la
    · rcases hl with h | ⟨b1, o1, ha, hb1, hc1⟩
      · omega
      rcases hm with h | ⟨b2, o2, hb, hb2, hc2⟩
      · omega
      have hck := hc1 k hlt
      have hck2 := hc2 k (by omega)
      clear hc1 hc2
      have hp := HP.out k hlt
      have hs0 := HD.out k hk
      have hs1 := HD.out (k + 1) hlt
      have he : Num.dotN l m (k + 1) = Num.dotN l m k + l[k]?.getD 0 * m[k]?.getD 0 := rfl
      rw [he] at hs1
      have HE : Hid _ := he
      clear he
      generalize Num.dotN l m k = s at *
      generalize l[k]?.getD 0 = x at *
      generalize m[k]?.getD 0 = y at *
      generalize hpp : x * y = p at *
      have HPP : Hid _ := hpp
      clear hpp
      subst ha hb
      go_wp2
      go_region
      go_wp2
      go_roundw
      case rel => exact ⟨k + 1, hlt, by go_num, by rw [HE.out, HPP.out, IntWalk.wrap64_in p (by omega), IntWalk.wrap64_in _ (by omega)], n + 1, rfl⟩
      case measure => simp [intOf]; omega
    · go_wp2
      go_ret
      have hke : k = la := by omega
      subst hke
      exact ⟨rfl, n, rfl⟩

set_option maxHeartbeats 400000 in
theorem together_any (a b : Option Addr) (la ca lb cb : Nat) (l m : List Int) (w : World) (A B : Int) (hl : Ints w a la l) (hm : Ints w b lb m) (hle : la = lb) (hlen : lb ≤ 9223372036854775807)
    (hA : ∀ j : Nat, -A ≤ l[j]?.getD 0 ∧ l[j]?.getD 0 ≤ A) (hB : ∀ j : Nat, -B ≤ m[j]?.getD 0 ∧ m[j]?.getD 0 ≤ B) (hAB : A * B * la ≤ 4611686018427387904) :
    Calls Tryz.prog 61 #[.slice a la ca, .slice b lb cb] w fun e w' => e = .returned (.int .i64 (Num.dotN l m la)) ∧ ∃ n, w' = w.drewN n := by
  have HD : Hid (∀ k : Nat, k ≤ la → -4611686018427387904 ≤ Num.dotN l m k ∧ Num.dotN l m k ≤ 4611686018427387904) := by
    intro k hk
    have h0 : 0 ≤ A * B := Int.mul_nonneg (by have := hA 0; omega) (by have := hB 0; omega)
    have h1 : A * B * k ≤ A * B * la := Int.mul_le_mul_of_nonneg_left (by omega) h0
    have := Num.dotN_bd l m A B hA hB k
    omega
  have HP : Hid (∀ k : Nat, k < la → -4611686018427387904 ≤ l[k]?.getD 0 * m[k]?.getD 0 ∧ l[k]?.getD 0 * m[k]?.getD 0 ≤ 4611686018427387904) := by
    intro k hk
    have h0 : 0 ≤ A * B := Int.mul_nonneg (by have := hA 0; omega) (by have := hB 0; omega)
    have h1 : A * B * (1 : Int) ≤ A * B * la := Int.mul_le_mul_of_nonneg_left (by omega) h0
    have := Num.mul_bd2 _ _ _ _ (hA k) (hB k)
    omega
  clear hA hB hAB
  obtain ⟨hll, hl⟩ := hl
  obtain ⟨hml, hm⟩ := hm
  have HL : Hid (la = l.length) := hll
  have HM : Hid (lb = m.length) := hml
  clear hll hml
  subst hle
  go_enter Tryz.func61, Tryz.ntmps61
  go_wp2
  go_loopw [5, 12] (fun c i wr => ∃ (k : Nat), k ≤ la ∧ i = .int .i64 k ∧ c = .int .i64 (Num.dotN l m k) ∧ ∃ n, wr = w.drewN n) (fun _ i _ => la - (intOf i).toNat)
  case atStart => exact ⟨0, Nat.zero_le _, rfl, rfl, 0, rfl⟩
  case round =>
    obtain ⟨k, hk, rfl, rfl, n, rfl⟩ := hrel
    by_cases hlt : k < la
    · rcases hl with h | ⟨b1, o1, ha, hb1, hc1⟩
      · omega
      rcases hm with h | ⟨b2, o2, hb, hb2, hc2⟩
      · omega
      have hck := hc1 k hlt
      have hck2 := hc2 k (by omega)
      clear hc1 hc2
      have hp := HP.out k hlt
      have hs0 := HD.out k hk
      have hs1 := HD.out (k + 1) hlt
      have he : Num.dotN l m (k + 1) = Num.dotN l m k + l[k]?.getD 0 * m[k]?.getD 0 := rfl
      rw [he] at hs1
      have HE : Hid _ := he
      clear he
      generalize Num.dotN l m k = s at *
      generalize l[k]?.getD 0 = x at *
      generalize m[k]?.getD 0 = y at *
      generalize hpp : x * y = p at *
      have HPP : Hid _ := hpp
      clear hpp
      subst ha hb
      go_wp2
      go_region
      go_wp2
      go_roundw
      case rel => exact ⟨k + 1, hlt, by go_num, by rw [HE.out, HPP.out, IntWalk.wrap64_in p (by omega), IntWalk.wrap64_in _ (by omega)], n + 1, rfl⟩
      case measure => simp [intOf]; omega
    · go_wp2
      go_ret
      have hke : k = la := by omega
      subst hke
      exact ⟨rfl, n, rfl⟩

set_option maxHeartbeats 400000 in
theorem below_any (a : Option Addr) (len cap : Nat) (l : List Int) (w : World) (hi : Ints w a len l) (hlen : len ≤ 9223372036854775807) :
    Calls Tryz.prog 10 #[.int .i64 0, .slice a len cap] w fun e w' => e = .returned (.bool (Num.anyNeg l)) ∧ w' = w := by
  obtain ⟨hll, hi⟩ := hi
  have HL : Hid (len = l.length) := hll
  clear hll
  go_enter Tryz.func10, Tryz.ntmps10
  go_wp2
  go_loop [9] (fun i => ∃ k : Nat, k ≤ len ∧ i = .int .i64 k ∧ Num.anyNeg (l.take k) = false) (fun i => len - (intOf i).toNat)
  case atStart => exact ⟨0, Nat.zero_le _, rfl, rfl⟩
  case round =>
    obtain ⟨k, hk, rfl, hw⟩ := hrel
    have HW : Hid _ := hw
    clear hw
    by_cases hlt : k < len
    · rcases hi with hi | ⟨b, off, ha, hb, hc⟩
      · omega
      have hck := hc k hlt
      clear hc
      have hs := Num.anyNeg_take_succ l k (by have := HL.out; omega)
      have hf := Num.anyNeg_of l k (by have := HL.out; omega)
      generalize l[k]?.getD 0 = x at hck hs hf
      have HS : Hid _ := hs
      have HF : Hid _ := hf
      clear hs hf
      subst ha
      by_cases hx1 : x < 0
      · go_wp2
        go_ret
        exact ⟨ret_bool (HF.out hx1).symm, rfl⟩
      go_wp2
      go_round
      case rel => exact ⟨k + 1, by omega, by go_num, by rw [HS.out, HW.out]; simp; omega⟩
      case measure => simp [intOf]; omega
    · go_wp2
      go_ret
      have hke : k = l.length := by have := HL.out; omega
      refine ⟨ret_bool ?_, rfl⟩
      have := HW.out
      rw [hke, List.take_length] at this
      exact this.symm

end Go.Proofs.YtloncgmgcnaalaaGreat

/- What layout.May does, for every program. -/
namespace Go.Proofs.YtloncgmgcnaalaaGreat
open Go.RowKit

/-- A slice of rows, each with a slice of numbers and a number. -/
def RowsAt (w : World) (a : Option Addr) (len : Nat) (rs : List (List Int × Int)) : Prop :=
  len = rs.length ∧ (len = 0 ∨ ∃ b off, a = some ⟨b, off, none⟩ ∧ b < w.heap.size ∧ ∀ j, j < len → ∃ ra rl rc, w.cell? ⟨b, off + j * 2, none⟩ = some (.slice ra rl rc) ∧
    w.cell? ⟨b, off + j * 2 + 1, none⟩ = some (.int .i64 (rs[j]?.getD ([], 0)).2) ∧ Ints w ra rl (rs[j]?.getD ([], 0)).1 ∧ rl ≤ 9223372036854775807)

theorem RowsAt.below {w w' : World} {B : Nat} {a : Option Addr} {len : Nat} {l : List (List Int × Int)} (h : RowsAt w a len l) (hb : Below B w w') (hB : w.heap.size ≤ B) : RowsAt w' a len l := by
  obtain ⟨h1, h2⟩ := h
  refine ⟨h1, ?_⟩
  rcases h2 with h2 | ⟨b, off, ha, hs, hc⟩
  · exact Or.inl h2
  · refine Or.inr ⟨b, off, ha, Nat.lt_of_lt_of_le hs hb.size, fun j hj => ?_⟩
    obtain ⟨ra, rl, rc, c0, c1, hi, hr⟩ := hc j hj
    refine ⟨ra, rl, rc, ?_, ?_, hi.below hb hB, hr⟩
    · rw [hb.cell (p := ⟨b, off + j * 2, none⟩) (Nat.lt_of_lt_of_le hs hB)]; exact c0
    · rw [hb.cell (p := ⟨b, off + j * 2 + 1, none⟩) (Nat.lt_of_lt_of_le hs hB)]; exact c1

/-- A program's value: its costs and its rows. -/
def ProgAt (w : World) (v : Value) (p : Num.Lp) : Prop :=
  ∃ ca cl cc ra rl rc, v = .agg #[.slice ca cl cc, .slice ra rl rc] ∧ Ints w ca cl p.costs ∧ cl ≤ 9223372036854775807 ∧ RowsAt w ra rl p.rows ∧ rl ≤ 9223372036854775807

theorem ProgAt.below {w w' : World} {B : Nat} {v : Value} {p : Num.Lp} (h : ProgAt w v p) (hb : Below B w w') (hB : w.heap.size ≤ B) : ProgAt w' v p := by
  obtain ⟨ca, cl, cc, ra, rl, rc, h1, h2, h3, h4, h5⟩ := h
  exact ⟨ca, cl, cc, ra, rl, rc, h1, h2.below hb hB, h3, h4.below hb hB, h5⟩

theorem balloc (w : World) (o : Obj) : Below w.heap.size w (w.alloc o) := (Below.refl _ _).alloc (Nat.le_refl _) o

set_option maxHeartbeats 800000 in
theorem lmay_any (ca : Option Addr) (cl cc : Nat) (ra : Option Addr) (rl rc : Nat) (p : Num.Lp) (w : World) (hc : Ints w ca cl p.costs) (hcl : cl ≤ 9223372036854775807) (hr : RowsAt w ra rl p.rows) (hrl : rl ≤ 9223372036854775807) :
    Calls Tryz.prog 8 #[.agg #[.slice ca cl cc, .slice ra rl rc]] w fun e w' => e = .returned (.bool p.may) ∧ Below w.heap.size w w' := by
  have HC : Hid (Ints w ca cl p.costs) := hc
  have HL : Hid (cl = p.costs.length) := hc.1
  have HR : Hid (rl = p.rows.length) := hr.1
  have HRW : Hid (RowsAt w ra rl p.rows) := hr
  clear hc hr
  by_cases h1 : (cl : Int) < 1
  · have HF : Hid (p.may = false) := p.may_c1 cl HL.out h1
    go_enter Tryz.func8, Tryz.ntmps8
    go_wp2_with fail
    go_ret
    exact ⟨ret_bool HF.out.symm, balloc _ _⟩
  by_cases h2 : 4 < (cl : Int)
  · have HF : Hid (p.may = false) := p.may_c4 cl HL.out h2
    have h1' : decide ((cl : Int) < 1) = false := by simpa using h1
    go_enter Tryz.func8, Tryz.ntmps8
    go_wp2_with fail
    go_ret
    exact ⟨ret_bool HF.out.symm, balloc _ _⟩
  have h1' : decide ((cl : Int) < 1) = false := by simpa using h1
  have h2' : decide (4 < (cl : Int)) = false := by simpa using h2
  cases h3 : Num.withinB 400 p.costs with
  | false =>
    have HF : Hid (p.may = false) := p.may_w h3
    go_enter Tryz.func8, Tryz.ntmps8
    go_wp2_with fail
    refine (within_any _ _ _ _ p.costs _ (Ints.below HC.out (balloc _ _) (Nat.le_refl _)) (by omega) (by omega) (by omega)).mono ?_
    rintro e w' ⟨rfl, rfl⟩
    rw [h3]
    go_wp2_with fail
    go_ret
    exact ⟨ret_bool HF.out.symm, balloc _ _⟩
  | true =>
  by_cases h4 : (rl : Int) < 1
  · have HF : Hid (p.may = false) := p.may_r1 rl HR.out h4
    go_enter Tryz.func8, Tryz.ntmps8
    go_wp2_with fail
    refine (within_any _ _ _ _ p.costs _ (Ints.below HC.out (balloc _ _) (Nat.le_refl _)) (by omega) (by omega) (by omega)).mono ?_
    rintro e w' ⟨rfl, rfl⟩
    rw [h3]
    go_wp2_with fail
    go_ret
    exact ⟨ret_bool HF.out.symm, balloc _ _⟩
  have h4' : decide ((rl : Int) < 1) = false := by simpa using h4
  by_cases h5 : 4 < (rl : Int)
  · have HF : Hid (p.may = false) := p.may_r4 rl HR.out h5
    go_enter Tryz.func8, Tryz.ntmps8
    go_wp2_with fail
    refine (within_any _ _ _ _ p.costs _ (Ints.below HC.out (balloc _ _) (Nat.le_refl _)) (by omega) (by omega) (by omega)).mono ?_
    rintro e w' ⟨rfl, rfl⟩
    rw [h3]
    go_wp2_with fail
    go_ret
    exact ⟨ret_bool HF.out.symm, balloc _ _⟩
  have h5' : decide (4 < (rl : Int)) = false := by simpa using h5
  have HF : Hid (p.may = p.rows.all (Num.rowB cl)) := p.may_rows cl rl HL.out HR.out (by omega) (by omega) h3 (by omega) (by omega)
  go_enter Tryz.func8, Tryz.ntmps8
  go_wp2_with fail
  refine (within_any _ _ _ _ p.costs _ (Ints.below HC.out (balloc _ _) (Nat.le_refl _)) (by omega) (by omega) (by omega)).mono ?_
  rintro e w' ⟨rfl, rfl⟩
  rw [h3]
  go_wp2_with fail
  go_loopw [34] (fun i wr => ∃ k : Nat, k ≤ rl ∧ i = .int .i64 k ∧ (p.rows.take k).all (Num.rowB cl) = true ∧ Below (w.alloc (.cells #[.slice ca cl cc, .slice ra rl rc] 25)).heap.size (w.alloc (.cells #[.slice ca cl cc, .slice ra rl rc] 25)) wr) (fun i _ => rl - (intOf i).toNat)
  case atStart => exact ⟨0, Nat.zero_le _, rfl, rfl, Below.refl _ _⟩
  case round =>
    obtain ⟨k, hk, rfl, hw, hbl⟩ := hrel
    have HW : Hid _ := hw
    clear hw
    have HB : Hid (Below w.heap.size w wr) := binto hbl
    by_cases hlt : k < rl
    · rcases (RowsAt.below HRW.out HB.out (Nat.le_refl _)).2 with h | ⟨b, off, ha, hbs, hc⟩
      · omega
      obtain ⟨xa, xl, xc, c0, c1, hx, hxl⟩ := hc k hlt
      clear hc
      have e0 : wr.cell? ⟨w.heap.size, 0, none⟩ = some (.slice ca cl cc) := by rw [hbl.cell (by simp)]; go_simp
      have hsz : w.heap.size < wr.heap.size := by have := hbl.size; simp at this; omega
      have HS : Hid ((p.rows.take (k + 1)).all (Num.rowB cl) = ((p.rows.take k).all (Num.rowB cl) && Num.rowB cl (p.rows[k]?.getD ([], 0)))) := Num.all_take_succ (Num.rowB cl) p.rows k (by have := HR.out; omega) ([], 0)
      have HN : Hid (Num.rowB cl (p.rows[k]?.getD ([], 0)) = false → p.rows.all (Num.rowB cl) = false) := Num.all_false_of (Num.rowB cl) p.rows k (by have := HR.out; omega) ([], 0)
      generalize (p.rows[k]?.getD ([], 0)) = r at *
      obtain ⟨r1, r2⟩ := r
      dsimp only at *
      have HX : Hid (Ints wr xa xl r1) := hx
      have HXL : Hid (xl = r1.length) := hx.1
      clear hx
      subst ha
      by_cases t1 : xl = cl
      · subst t1
        cases t2 : Num.withinB 12 r1 with
        | false =>
          go_wp2_with fail
          refine (within_any _ _ _ _ r1 _ (Ints.below HX.out (balloc _ _) (Nat.le_refl _)) (by omega) (by omega) (by omega)).mono ?_
          rintro e w' ⟨rfl, rfl⟩
          rw [t2]
          go_wp2_with fail
          go_ret
          refine ⟨ret_bool ?_, (binto hbl).alloc (by omega) _⟩
          rw [HF.out]
          exact (HN.out (Num.rowB_w _ _ _ t2)).symm
        | true =>
          go_wp2_with fail
          refine (within_any _ _ _ _ r1 _ (Ints.below HX.out (balloc _ _) (Nat.le_refl _)) (by omega) (by omega) (by omega)).mono ?_
          rintro e w' ⟨rfl, rfl⟩
          rw [t2]
          go_wp2_with fail
          refine (within_any _ _ _ _ [r2] _ (Ints.newAt (by simp) _ _) (by omega) (by omega) (by omega)).mono ?_
          rintro e w' ⟨rfl, rfl⟩
          cases t3 : Num.withinB 12 [r2] with
          | false =>
            go_wp2_with fail
            go_ret
            refine ⟨ret_bool ?_, ((binto hbl).alloc (by omega) _).alloc (by simp; omega) _⟩
            rw [HF.out]
            exact (HN.out (Num.rowB_m _ _ _ t3)).symm
          | true =>
            go_wp2_with fail
            go_roundw
            case rel => exact ⟨k + 1, hlt, by go_num, by rw [HS.out, HW.out, Num.rowB_ok _ _ _ _ HXL.out rfl t2 t3]; rfl, (hbl.alloc hbl.size _).alloc (by have := hbl.size; simp at this ⊢; omega) _⟩
            case measure => simp [intOf]; omega
      · have t1' : ((xl : Int) == (cl : Int)) = false := by simp; omega
        go_wp2_with fail
        go_ret
        refine ⟨ret_bool ?_, (binto hbl).alloc (by omega) _⟩
        rw [HF.out]
        exact (HN.out (Num.rowB_len _ _ _ _ HXL.out t1)).symm
    · go_wp2_with fail
      go_ret
      have hke : k = p.rows.length := by have := HR.out; omega
      refine ⟨ret_bool ?_, HB.out⟩
      rw [HF.out]
      exact (Num.all_full _ _ _ hke HW.out).symm

end Go.Proofs.YtloncgmgcnaalaaGreat
