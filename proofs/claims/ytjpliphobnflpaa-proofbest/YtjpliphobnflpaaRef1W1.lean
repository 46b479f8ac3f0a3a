/- What the document's own size, common, All and within do. -/
import Derived.Test.YtjpliphobnflpaaFracW4
namespace Go.Proofs.Ytjpliphobnflpaa
open Go.RowKit

set_option maxHeartbeats 400000 in
theorem size_any (x : Int) (w : World) (h : -9223372036854775807 ≤ x ∧ x ≤ 9223372036854775807) :
    Calls Try.prog 43 #[.int .i64 x] w fun e w' => e = .returned (.int .i64 (x.natAbs : Int)) ∧ w' = w := by
  by_cases h0 : x < 0
  · go_enter Try.func43, Try.ntmps43
    go_wp2
    go_ret
    exact ⟨ret_int (by omega), rfl⟩
  · go_enter Try.func43, Try.ntmps43
    go_wp2
    go_ret
    exact ⟨ret_int (by omega), rfl⟩

set_option maxHeartbeats 400000 in
theorem common_any (k : Nat) : ∀ (a b : Int) (w : World), 0 ≤ a → a ≤ 9223372036854775807 → 0 ≤ b → b ≤ 9223372036854775807 → b.toNat ≤ k →
    Calls Try.prog 81 #[.int .i64 a, .int .i64 b] w fun e w' => e = .returned (.int .i64 (Nat.gcd a.toNat b.toNat : Int)) ∧ w' = w := by
  induction k with
  | zero =>
    intro a b w ha0 ha1 hb0 hb1 hk
    have hb : b = 0 := by omega
    subst hb
    go_enter Try.func81, Try.ntmps81
    go_wp2_with fail
    go_ret
    exact ⟨ret_int (by simp; omega), rfl⟩
  | succ k ih =>
    intro a b w ha0 ha1 hb0 hb1 hk
    by_cases hb : b = 0
    · subst hb
      go_enter Try.func81, Try.ntmps81
      go_wp2_with fail
      go_ret
      exact ⟨ret_int (by simp; omega), rfl⟩
    · have hb' : (b == 0) = false := by simpa using hb
      have IH := ih
      have HI : Hid _ := IH
      clear ih IH
      have hm1 : 0 ≤ a % b := Int.emod_nonneg _ hb
      have hm2 : a % b < b := Int.emod_lt_of_pos _ (by omega)
      have hg : (Nat.gcd b.toNat (a % b).toNat : Nat) = Nat.gcd a.toNat b.toNat := by
        have e : (a % b).toNat = a.toNat % b.toNat := by
          rw [Int.toNat_emod ha0 hb0]
        rw [e, Nat.gcd_comm b.toNat, ← Nat.gcd_rec, Nat.gcd_comm]
      have HG : Hid _ := hg
      clear hg
      have hb1' : 1 ≤ b := by omega
      go_enter Try.func81, Try.ntmps81
      go_wp2_with fail
      refine (HI.out _ _ _ (by omega) (by omega) (by omega) (by omega) (by omega)).mono ?_
      rintro e w' ⟨rfl, rfl⟩
      go_wp2_with fail
      go_ret
      exact ⟨ret_int (by rw [HG.out]), rfl⟩

set_option maxHeartbeats 400000 in
theorem all_any (d : Int) (a : Option Addr) (len cap : Nat) (l : List Int) (w : World) (hi : Ints w a len l) (hlen : len ≤ 9223372036854775807)
    (hd : 0 ≤ d ∧ d ≤ 4611686018427387904) (hl : ∀ j : Nat, -4611686018427387904 ≤ l[j]?.getD 0 ∧ l[j]?.getD 0 ≤ 4611686018427387904) :
    Calls Try.prog 44 #[.slice a len cap, .int .i64 d] w fun e w' => e = .returned (.int .i64 (Num.gl d l)) ∧ w' = w := by
  obtain ⟨hll, hi⟩ := hi
  have HL : Hid (len = l.length) := hll
  have HB : Hid (∀ j : Nat, -4611686018427387904 ≤ l[j]?.getD 0 ∧ l[j]?.getD 0 ≤ 4611686018427387904) := hl
  clear hll hl
  go_enter Try.func44, Try.ntmps44
  go_wp2_with fail
  go_loop [5, 6] (fun c i => ∃ (k : Nat) (x : Int), k ≤ len ∧ i = .int .i64 k ∧ c = .int .i64 x ∧ x = Num.gl d (l.take k) ∧ 0 ≤ x ∧ x ≤ 4611686018427387904) (fun _ i => len - (intOf i).toNat)
  case atStart => exact ⟨0, d, Nat.zero_le _, rfl, rfl, by simp [Num.gl]; omega, hd.1, hd.2⟩
  case round =>
    obtain ⟨k, x, hk, rfl, rfl, hx, hx1, hx2⟩ := hrel
    have HX : Hid (x = Num.gl d (l.take k)) := hx
    clear hx
    by_cases hlt : k < len
    · rcases hi with hi | ⟨b, off, ha, hb, hc⟩
      · omega
      have hck := hc k hlt
      clear hc
      have hs := Num.gl_take_succ d l k (by have := HL.out; omega)
      have hy := HB.out k
      generalize l[k]?.getD 0 = y at hck hs hy
      have hgx : Num.gl d (l.take k) = x.toNat := by have := HX.out; omega
      rw [hgx] at hs
      have hle : Nat.gcd x.toNat y.natAbs ≤ 4611686018427387904 := by
        by_cases hx0 : x.toNat = 0
        · rw [hx0, Nat.gcd_zero_left]; omega
        · have := Nat.gcd_le_left (n := y.natAbs) (m := x.toNat) (by omega); omega
      have HS : Hid _ := hs
      clear hs hgx
      subst ha
      go_wp2_with fail
      refine (size_any _ _ (by omega)).mono ?_
      rintro e w' ⟨rfl, rfl⟩
      go_wp2_with fail
      refine (common_any (y.natAbs) _ _ _ (by omega) (by omega) (by omega) (by omega) (by omega)).mono ?_
      rintro e w' ⟨rfl, rfl⟩
      rw [Int.toNat_natCast]
      go_wp2_with fail
      go_round
      case rel => exact ⟨k + 1, _, by omega, by go_num, rfl, by rw [HS.out], by omega, by omega⟩
      case measure => simp [intOf]; omega
    · go_wp2_with fail
      go_ret
      refine ⟨ret_int ?_, rfl⟩
      have hke : k = l.length := by have := HL.out; omega
      have := HX.out
      rw [hke, List.take_length] at this
      exact this

set_option maxHeartbeats 400000 in
theorem rwithin_any (m : Int) (a : Option Addr) (len cap : Nat) (l : List Int) (w : World) (hi : Ints w a len l) (hlen : len ≤ 9223372036854775807)
    (hm0 : 0 ≤ m) (hm : m ≤ 4611686018427387904) :
    Calls Try.prog 42 #[.slice a len cap, .int .i64 m] w fun e w' => e = .returned (.bool (Num.withinB m l)) ∧ w' = w := by
  obtain ⟨hll, hi⟩ := hi
  have HL : Hid (len = l.length) := hll
  clear hll
  go_enter Try.func42, Try.ntmps42
  go_wp2
  go_loop [5] (fun i => ∃ k : Nat, k ≤ len ∧ i = .int .i64 k ∧ Num.withinB m (l.take k) = true) (fun i => len - (intOf i).toNat)
  case atStart => exact ⟨0, Nat.zero_le _, rfl, rfl⟩
  case round =>
    obtain ⟨k, hk, rfl, hw⟩ := hrel
    have HW : Hid (Num.withinB m (l.take k) = true) := hw
    clear hw
    by_cases hlt : k < len
    · rcases hi with hi | ⟨b, off, ha, hb, hc⟩
      · omega
      have hck := hc k hlt
      clear hc
      have hs := Num.withinB_take_succ m l k (by have := HL.out; omega)
      have hf := Num.withinB_false_of m l k (by have := HL.out; omega)
      generalize l[k]?.getD 0 = x at hck hs hf
      have HS : Hid _ := hs
      have HF : Hid _ := hf
      clear hs hf
      subst ha
      by_cases hx1 : x < -m
      · go_wp2
        go_ret
        exact ⟨ret_bool (HF.out (Or.inl hx1)).symm, rfl⟩
      by_cases hx2 : m < x
      · go_wp2
        go_ret
        exact ⟨ret_bool (HF.out (Or.inr hx2)).symm, rfl⟩
      go_wp2
      go_round
      case rel => exact ⟨k + 1, by omega, by go_num, by rw [HS.out, HW.out]; simp; omega⟩
      case measure => simp [intOf]; omega
    · go_wp2
      go_ret
      have hke : k = l.length := by have := HL.out; omega
      refine ⟨ret_bool ?_, rfl⟩
      have := HW.out
      rw [hke, List.take_length] at this
      exact this.symm

end Go.Proofs.Ytjpliphobnflpaa
