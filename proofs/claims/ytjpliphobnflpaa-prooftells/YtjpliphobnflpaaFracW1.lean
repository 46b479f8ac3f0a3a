/- What frac.within and frac.divisor do, for every slice of numbers. -/
import Derived.Test.YtjpliphobnflpaaRows
import Derived.Test.YtjpliphobnflpaaBase
namespace Go.Proofs.Ytjpliphobnflpaa
open Go.RowKit

set_option maxHeartbeats 400000 in
theorem within_any (m : Int) (a : Option Addr) (len cap : Nat) (l : List Int) (w : World) (hi : Ints w a len l) (hlen : len ≤ 9223372036854775807)
    (hm0 : 0 ≤ m) (hm : m ≤ 4611686018427387904) :
    Calls Try.prog 47 #[.int .i64 m, .slice a len cap] w fun e w' => e = .returned (.bool (Num.withinB m l)) ∧ w' = w := by
  obtain ⟨hll, hi⟩ := hi
  have HL : Hid (len = l.length) := hll
  clear hll
  go_enter Try.func47, Try.ntmps47
  go_wp2
  go_loop [9] (fun i => ∃ k : Nat, k ≤ len ∧ i = .int .i64 k ∧ Num.withinB m (l.take k) = true) (fun i => len - (intOf i).toNat)
  case atStart => exact ⟨0, Nat.zero_le _, rfl, rfl⟩
  case round =>
    obtain ⟨k, hk, rfl, hw⟩ := hrel
    have HW : Hid (Num.withinB m (l.take k) = true) := hw
    clear hw
    by_cases hlt : k < len
    · rcases hi with hi | ⟨b, off, ha, hb, hc⟩
      · omega
      have hck := hc k hlt
      clear hc
      have hs := Num.withinB_take_succ m l k (by have := HL.out; omega)
      have hf := Num.withinB_false_of m l k (by have := HL.out; omega)
      generalize l[k]?.getD 0 = x at hck hs hf
      have HS : Hid _ := hs
      have HF : Hid _ := hf
      clear hs hf
      subst ha
      by_cases hx1 : x < -m
      · go_wp2
        go_ret
        exact ⟨ret_bool (HF.out (Or.inl hx1)).symm, rfl⟩
      by_cases hx2 : m < x
      · go_wp2
        go_ret
        exact ⟨ret_bool (HF.out (Or.inr hx2)).symm, rfl⟩
      go_wp2
      go_round
      case rel => exact ⟨k + 1, by omega, by go_num, by rw [HS.out, HW.out]; simp; omega⟩
      case measure => simp [intOf]; omega
    · go_wp2
      go_ret
      have hke : k = l.length := by have := HL.out; omega
      refine ⟨ret_bool ?_, rfl⟩
      have := HW.out
      rw [hke, List.take_length] at this
      exact this.symm


set_option maxHeartbeats 400000 in
theorem divisor_any (d : Int) (a : Option Addr) (len cap : Nat) (l : List Int) (w : World) (hi : Ints w a len l) (hlen : len ≤ 9223372036854775807)
    (hd : -4611686018427387904 ≤ d ∧ d ≤ 4611686018427387904) (hl : ∀ j : Nat, -4611686018427387904 ≤ l[j]?.getD 0 ∧ l[j]?.getD 0 ≤ 4611686018427387904) :
    Calls Try.prog 80 #[.int .i64 d, .slice a len cap] w fun e w' => e = .returned (.int .i64 (Num.gl d l)) ∧ ∃ n, w' = w.drewN n := by
  obtain ⟨hll, hi⟩ := hi
  have HL : Hid (len = l.length) := hll
  have HB : Hid (∀ j : Nat, -4611686018427387904 ≤ l[j]?.getD 0 ∧ l[j]?.getD 0 ≤ 4611686018427387904) := hl
  clear hll hl
  go_enter Try.func80, Try.ntmps80
  go_wp2
  go_loopw [5, 11] (fun c i wr => ∃ (k : Nat) (x : Int), k ≤ len ∧ i = .int .i64 k ∧ c = .int .i64 x ∧ x.natAbs = Num.gl d (l.take k) ∧ -4611686018427387904 ≤ x ∧ x ≤ 4611686018427387904 ∧ ∃ n, wr = w.drewN n) (fun _ i _ => len - (intOf i).toNat)
  case atStart => exact ⟨0, d, Nat.zero_le _, rfl, rfl, by simp [Num.gl], hd.1, hd.2, 0, rfl⟩
  case round =>
    obtain ⟨k, x, hk, rfl, rfl, hx, hx1, hx2, n, rfl⟩ := hrel
    have HX : Hid (x.natAbs = Num.gl d (l.take k)) := hx
    clear hx
    by_cases hlt : k < len
    · rcases hi with hi | ⟨b, off, ha, hb, hc⟩
      · omega
      have hck := hc k hlt
      clear hc
      have hs := Num.gl_take_succ d l k (by have := HL.out; omega)
      have hy := HB.out k
      generalize l[k]?.getD 0 = y at hck hs hy
      rw [← HX.out] at hs
      have HS : Hid _ := hs
      clear hs
      subst ha
      go_wp2
      go_loopw [5, 7] (fun c i wr => ∃ (p q : Int), c = .int .i64 p ∧ i = .int .i64 q ∧ Nat.gcd p.natAbs q.natAbs = Num.gl d (l.take (k + 1)) ∧ -4611686018427387904 ≤ p ∧ p ≤ 4611686018427387904 ∧ -4611686018427387904 ≤ q ∧ q ≤ 4611686018427387904 ∧ ∃ n, wr = w.drewN n) (fun _ i _ => (intOf i).natAbs)
      case atStart => exact ⟨x, y, rfl, rfl, HS.out.symm, hx1, hx2, hy.1, hy.2, n, rfl⟩
      case round =>
        obtain ⟨p, q, rfl, rfl, hpq, hp1, hp2, hq1, hq2, n', rfl⟩ := hrel
        have HG : Hid _ := hpq
        clear hpq
        by_cases hq0 : q = 0
        · subst hq0
          go_wp2
          go_roundw
          case rel => exact ⟨k + 1, p, by omega, by go_num, rfl, by rw [← HG.out]; simp, hp1, hp2, n', rfl⟩
          case measure => simp [intOf]; omega
        · have hq : (q != 0) = true := by simpa using hq0
          have hqe : (q == 0) = false := by simpa using hq0
          have hbd := Num.tmod_bd p q hq0
          have heu := Num.euclid p q
          have HE : Hid _ := heu
          have HBd : Hid _ := hbd
          clear heu hbd
          go_wp2
          go_region
          go_wp2
          go_roundw
          case rel => exact ⟨q, p.tmod q, rfl, by go_num, by rw [HE.out]; exact HG.out, hq1, hq2, by have := HBd.out; omega, by have := HBd.out; omega, n' + 1, rfl⟩
          case measure => have := HBd.out; simp only [intOf]; omega
    · go_wp2
      all_goals
        go_ret
        refine ⟨ret_int ?_, n, rfl⟩
        have hke : k = l.length := by have := HL.out; omega
        have := HX.out
        rw [hke, List.take_length] at this
        rw [← this]; omega

end Go.Proofs.Ytjpliphobnflpaa
