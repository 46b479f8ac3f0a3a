/- What layout.Together, layout.below and the document's Dot do. -/
import Derived.Test.YtjpliphobnflpaaRef1W4
import Derived.Test.YtjpliphobnflpaaLay0
namespace Go.Proofs.Ytjpliphobnflpaa
open Go.RowKit

set_option maxHeartbeats 400000 in
theorem dot_any (a b : Option Addr) (la ca lb cb : Nat) (l m : List Int) (w : World) (A B : Int) (hl : Ints w a la l) (hm : Ints w b lb m) (hle : la ≤ lb) (hlen : lb ≤ 9223372036854775807)
    (hA : ∀ j : Nat, -A ≤ l[j]?.getD 0 ∧ l[j]?.getD 0 ≤ A) (hB : ∀ j : Nat, -B ≤ m[j]?.getD 0 ∧ m[j]?.getD 0 ≤ B) (hAB : A * B * la ≤ 4611686018427387904) :
    Calls Try.prog 28 #[.slice a la ca, .slice b lb cb] w fun e w' => e = .returned (.int .i64 (Num.dotN l m la)) ∧ ∃ n, w' = w.drewN n := by
  have HD : Hid (∀ k : Nat, k ≤ la → -4611686018427387904 ≤ Num.dotN l m k ∧ Num.dotN l m k ≤ 4611686018427387904) := by
    intro k hk
    have h0 : 0 ≤ A * B := Int.mul_nonneg (by have := hA 0; omega) (by have := hB 0; omega)
    have h1 : A * B * k ≤ A * B * la := Int.mul_le_mul_of_nonneg_left (by omega) h0
    have := Num.dotN_bd l m A B hA hB k
    omega
  have HP : Hid (∀ k : Nat, k < la → -4611686018427387904 ≤ l[k]?.getD 0 * m[k]?.getD 0 ∧ l[k]?.getD 0 * m[k]?.getD 0 ≤ 4611686018427387904) := by
    intro k hk
    have h0 : 0 ≤ A * B := Int.mul_nonneg (by have := hA 0; omega) (by have := hB 0; omega)
    have h1 : A * B * (1 : Int) ≤ A * B * la := Int.mul_le_mul_of_nonneg_left (by omega) h0
    have := Num.mul_bd2 _ _ _ _ (hA k) (hB k)
    omega
  clear hA hB hAB
  obtain ⟨hll, hl⟩ := hl
  obtain ⟨hml, hm⟩ := hm
  have HL : Hid (la = l.length) := hll
  have HM : Hid (lb = m.length) := hml
  clear hll hml
  go_enter Try.func28, Try.ntmps28
  go_wp2
  go_loopw [5, 6] (fun c i wr => ∃ (k : Nat), k ≤ la ∧ i = .int .i64 k ∧ c = .int .i64 (Num.dotN l m k) ∧ ∃ n, wr = w.drewN n) (fun _ i _ => la - (intOf i).toNat)
  case atStart => exact ⟨0, Nat.zero_le _, rfl, rfl, 0, rfl⟩
  case round =>
    obtain ⟨k, hk, rfl, rfl, n, rfl⟩ := hrel
    by_cases hlt : k < la
    · rcases hl with h | ⟨b1, o1, ha, hb1, hc1⟩
      · omega
      rcases hm with h | ⟨b2, o2, hb, hb2, hc2⟩
      · omega
      have hck := hc1 k hlt
      have hck2 := hc2 k (by omega)
      clear hc1 hc2
      have hp := HP.out k hlt
      have hs0 := HD.out k hk
      have hs1 := HD.out (k + 1) hlt
      have he : Num.dotN l m (k + 1) = Num.dotN l m k + l[k]?.getD 0 * m[k]?.getD 0 := rfl
      rw [he] at hs1
      have HE : Hid _ := he
      clear he
      generalize Num.dotN l m k = s at *
      generalize l[k]?.getD 0 = x at *
      generalize m[k]?.getD 0 = y at *
      generalize hpp : x * y = p at *
      have HPP : Hid _ := hpp
      clear hpp
      subst ha hb
      go_wp2
      go_region
      go_wp2
      go_roundw
      case rel => exact ⟨k + 1, hlt, by go_num, by rw [HE.out, HPP.out, IntWalk.wrap64_in p (by omega), IntWalk.wrap64_in _ (by omega)], n + 1, rfl⟩
      case measure => simp [intOf]; omega
    · go_wp2
      go_ret
      have hke : k = la := by omega
      subst hke
      exact ⟨rfl, n, rfl⟩

set_option maxHeartbeats 400000 in
theorem together_any (a b : Option Addr) (la ca lb cb : Nat) (l m : List Int) (w : World) (A B : Int) (hl : Ints w a la l) (hm : Ints w b lb m) (hle : la = lb) (hlen : lb ≤ 9223372036854775807)
    (hA : ∀ j : Nat, -A ≤ l[j]?.getD 0 ∧ l[j]?.getD 0 ≤ A) (hB : ∀ j : Nat, -B ≤ m[j]?.getD 0 ∧ m[j]?.getD 0 ≤ B) (hAB : A * B * la ≤ 4611686018427387904) :
    Calls Try.prog 50 #[.slice a la ca, .slice b lb cb] w fun e w' => e = .returned (.int .i64 (Num.dotN l m la)) ∧ ∃ n, w' = w.drewN n := by
  have HD : Hid (∀ k : Nat, k ≤ la → -4611686018427387904 ≤ Num.dotN l m k ∧ Num.dotN l m k ≤ 4611686018427387904) := by
    intro k hk
    have h0 : 0 ≤ A * B := Int.mul_nonneg (by have := hA 0; omega) (by have := hB 0; omega)
    have h1 : A * B * k ≤ A * B * la := Int.mul_le_mul_of_nonneg_left (by omega) h0
    have := Num.dotN_bd l m A B hA hB k
    omega
  have HP : Hid (∀ k : Nat, k < la → -4611686018427387904 ≤ l[k]?.getD 0 * m[k]?.getD 0 ∧ l[k]?.getD 0 * m[k]?.getD 0 ≤ 4611686018427387904) := by
    intro k hk
    have h0 : 0 ≤ A * B := Int.mul_nonneg (by have := hA 0; omega) (by have := hB 0; omega)
    have h1 : A * B * (1 : Int) ≤ A * B * la := Int.mul_le_mul_of_nonneg_left (by omega) h0
    have := Num.mul_bd2 _ _ _ _ (hA k) (hB k)
    omega
  clear hA hB hAB
  obtain ⟨hll, hl⟩ := hl
  obtain ⟨hml, hm⟩ := hm
  have HL : Hid (la = l.length) := hll
  have HM : Hid (lb = m.length) := hml
  clear hll hml
  subst hle
  go_enter Try.func50, Try.ntmps50
  go_wp2
  go_loopw [5, 12] (fun c i wr => ∃ (k : Nat), k ≤ la ∧ i = .int .i64 k ∧ c = .int .i64 (Num.dotN l m k) ∧ ∃ n, wr = w.drewN n) (fun _ i _ => la - (intOf i).toNat)
  case atStart => exact ⟨0, Nat.zero_le _, rfl, rfl, 0, rfl⟩
  case round =>
    obtain ⟨k, hk, rfl, rfl, n, rfl⟩ := hrel
    by_cases hlt : k < la
    · rcases hl with h | ⟨b1, o1, ha, hb1, hc1⟩
      · omega
      rcases hm with h | ⟨b2, o2, hb, hb2, hc2⟩
      · omega
      have hck := hc1 k hlt
      have hck2 := hc2 k (by omega)
      clear hc1 hc2
      have hp := HP.out k hlt
      have hs0 := HD.out k hk
      have hs1 := HD.out (k + 1) hlt
      have he : Num.dotN l m (k + 1) = Num.dotN l m k + l[k]?.getD 0 * m[k]?.getD 0 := rfl
      rw [he] at hs1
      have HE : Hid _ := he
      clear he
      generalize Num.dotN l m k = s at *
      generalize l[k]?.getD 0 = x at *
      generalize m[k]?.getD 0 = y at *
      generalize hpp : x * y = p at *
      have HPP : Hid _ := hpp
      clear hpp
      subst ha hb
      go_wp2
      go_region
      go_wp2
      go_roundw
      case rel => exact ⟨k + 1, hlt, by go_num, by rw [HE.out, HPP.out, IntWalk.wrap64_in p (by omega), IntWalk.wrap64_in _ (by omega)], n + 1, rfl⟩
      case measure => simp [intOf]; omega
    · go_wp2
      go_ret
      have hke : k = la := by omega
      subst hke
      exact ⟨rfl, n, rfl⟩

set_option maxHeartbeats 400000 in
theorem below_any (a : Option Addr) (len cap : Nat) (l : List Int) (w : World) (hi : Ints w a len l) (hlen : len ≤ 9223372036854775807) :
    Calls Try.prog 49 #[.int .i64 0, .slice a len cap] w fun e w' => e = .returned (.bool (Num.anyNeg l)) ∧ w' = w := by
  obtain ⟨hll, hi⟩ := hi
  have HL : Hid (len = l.length) := hll
  clear hll
  go_enter Try.func49, Try.ntmps49
  go_wp2
  go_loop [9] (fun i => ∃ k : Nat, k ≤ len ∧ i = .int .i64 k ∧ Num.anyNeg (l.take k) = false) (fun i => len - (intOf i).toNat)
  case atStart => exact ⟨0, Nat.zero_le _, rfl, rfl⟩
  case round =>
    obtain ⟨k, hk, rfl, hw⟩ := hrel
    have HW : Hid _ := hw
    clear hw
    by_cases hlt : k < len
    · rcases hi with hi | ⟨b, off, ha, hb, hc⟩
      · omega
      have hck := hc k hlt
      clear hc
      have hs := Num.anyNeg_take_succ l k (by have := HL.out; omega)
      have hf := Num.anyNeg_of l k (by have := HL.out; omega)
      generalize l[k]?.getD 0 = x at hck hs hf
      have HS : Hid _ := hs
      have HF : Hid _ := hf
      clear hs hf
      subst ha
      by_cases hx1 : x < 0
      · go_wp2
        go_ret
        exact ⟨ret_bool (HF.out hx1).symm, rfl⟩
      go_wp2
      go_round
      case rel => exact ⟨k + 1, by omega, by go_num, by rw [HS.out, HW.out]; simp; omega⟩
      case measure => simp [intOf]; omega
    · go_wp2
      go_ret
      have hke : k = l.length := by have := HL.out; omega
      refine ⟨ret_bool ?_, rfl⟩
      have := HW.out
      rw [hke, List.take_length] at this
      exact this.symm

end Go.Proofs.Ytjpliphobnflpaa
