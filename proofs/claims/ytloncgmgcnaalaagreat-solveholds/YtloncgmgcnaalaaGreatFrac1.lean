/- What frac.within and frac.divisor do, for every slice of numbers. -/
import Derived.Test.YtloncgmgcnaalaaGreatRows
import Derived.Test.YtloncgmgcnaalaaGreatBase
import Derived.Test.YtloncgmgcnaalaaGreatNum
namespace Go.Proofs.YtloncgmgcnaalaaGreat
open Go.RowKit

set_option maxHeartbeats 400000 in
theorem within_any (m : Int) (a : Option Addr) (len cap : Nat) (l : List Int) (w : World) (hi : Ints w a len l) (hlen : len ≤ 9223372036854775807)
    (hm0 : 0 ≤ m) (hm : m ≤ 4611686018427387904) :
    Calls Tryz.prog 24 #[.int .i64 m, .slice a len cap] w fun e w' => e = .returned (.bool (Num.withinB m l)) ∧ w' = w := by
  obtain ⟨hll, hi⟩ := hi
  have HL : Hid (len = l.length) := hll
  clear hll
  go_enter Tryz.func24, Tryz.ntmps24
  go_wp2
  go_loop [9] (fun i => ∃ k : Nat, k ≤ len ∧ i = .int .i64 k ∧ Num.withinB m (l.take k) = true) (fun i => len - (intOf i).toNat)
  case atStart => exact ⟨0, Nat.zero_le _, rfl, rfl⟩
  case round =>
    obtain ⟨k, hk, rfl, hw⟩ := hrel
    have HW : Hid (Num.withinB m (l.take k) = true) := hw
    clear hw
    by_cases hlt : k < len
    · rcases hi with hi | ⟨b, off, ha, hb, hc⟩
      · omega
      have hck := hc k hlt
      clear hc
      have hs := Num.withinB_take_succ m l k (by have := HL.out; omega)
      have hf := Num.withinB_false_of m l k (by have := HL.out; omega)
      generalize l[k]?.getD 0 = x at hck hs hf
      have HS : Hid _ := hs
      have HF : Hid _ := hf
      clear hs hf
      subst ha
      by_cases hx1 : x < -m
      · go_wp2
        go_ret
        exact ⟨ret_bool (HF.out (Or.inl hx1)).symm, rfl⟩
      by_cases hx2 : m < x
      · go_wp2
        go_ret
        exact ⟨ret_bool (HF.out (Or.inr hx2)).symm, rfl⟩
      go_wp2
      go_round
      case rel => exact ⟨k + 1, by omega, by go_num, by rw [HS.out, HW.out]; simp; omega⟩
      case measure => simp [intOf]; omega
    · go_wp2
      go_ret
      have hke : k = l.length := by have := HL.out; omega
      refine ⟨ret_bool ?_, rfl⟩
      have := HW.out
      rw [hke, List.take_length] at this
      exact this.symm


set_option maxHeartbeats 400000 in
theorem divisor_any (d : Int) (a : Option Addr) (len cap : Nat) (l : List Int) (w : World) (hi : Ints w a len l) (hlen : len ≤ 9223372036854775807)
    (hd : -4611686018427387904 ≤ d ∧ d ≤ 4611686018427387904) (hl : ∀ j : Nat, -4611686018427387904 ≤ l[j]?.getD 0 ∧ l[j]?.getD 0 ≤ 4611686018427387904) :
    Calls Tryz.prog 76 #[.int .i64 d, .slice a len cap] w fun e w' => e = .returned (.int .i64 (Num.gl d l)) ∧ ∃ n, w' = w.drewN n := by
  obtain ⟨hll, hi⟩ := hi
  have HL : Hid (len = l.length) := hll
  have HB : Hid (∀ j : Nat, -4611686018427387904 ≤ l[j]?.getD 0 ∧ l[j]?.getD 0 ≤ 4611686018427387904) := hl
  clear hll hl
  go_enter Tryz.func76, Tryz.ntmps76
  go_wp2
  go_loopw [5, 11] (fun c i wr => ∃ (k : Nat) (x : Int), k ≤ len ∧ i = .int .i64 k ∧ c = .int .i64 x ∧ x.natAbs = Num.gl d (l.take k) ∧ -4611686018427387904 ≤ x ∧ x ≤ 4611686018427387904 ∧ ∃ n, wr = w.drewN n) (fun _ i _ => len - (intOf i).toNat)
  case atStart => exact ⟨0, d, Nat.zero_le _, rfl, rfl, by simp [Num.gl], hd.1, hd.2, 0, rfl⟩
  case round =>
    obtain ⟨k, x, hk, rfl, rfl, hx, hx1, hx2, n, rfl⟩ := hrel
    have HX : Hid (x.natAbs = Num.gl d (l.take k)) := hx
    clear hx
    by_cases hlt : k < len
    · rcases hi with hi | ⟨b, off, ha, hb, hc⟩
      · omega
      have hck := hc k hlt
      clear hc
      have hs := Num.gl_take_succ d l k (by have := HL.out; omega)
      have hy := HB.out k
      generalize l[k]?.getD 0 = y at hck hs hy
      rw [← HX.out] at hs
      have HS : Hid _ := hs
      clear hs
      subst ha
      go_wp2
      go_loopw [5, 7] (fun c i wr => ∃ (p q : Int), c = .int .i64 p ∧ i = .int .i64 q ∧ Nat.gcd p.natAbs q.natAbs = Num.gl d (l.take (k + 1)) ∧ -4611686018427387904 ≤ p ∧ p ≤ 4611686018427387904 ∧ -4611686018427387904 ≤ q ∧ q ≤ 4611686018427387904 ∧ ∃ n, wr = w.drewN n) (fun _ i _ => (intOf i).natAbs)
      case atStart => exact ⟨x, y, rfl, rfl, HS.out.symm, hx1, hx2, hy.1, hy.2, n, rfl⟩
      case round =>
        obtain ⟨p, q, rfl, rfl, hpq, hp1, hp2, hq1, hq2, n', rfl⟩ := hrel
        have HG : Hid _ := hpq
        clear hpq
        by_cases hq0 : q = 0
        · subst hq0
          go_wp2
          go_roundw
          case rel => exact ⟨k + 1, p, by omega, by go_num, rfl, by rw [← HG.out]; simp, hp1, hp2, n', rfl⟩
          case measure => simp [intOf]; omega
        · have hq : (q != 0) = true := by simpa using hq0
          have hqe : (q == 0) = false := by simpa using hq0
          have hbd := Num.tmod_bd p q hq0
          have heu := Num.euclid p q
          have HE : Hid _ := heu
          have HBd : Hid _ := hbd
          clear heu hbd
          go_wp2
          go_region
          go_wp2
          go_roundw
          case rel => exact ⟨q, p.tmod q, rfl, by go_num, by rw [HE.out]; exact HG.out, hq1, hq2, by have := HBd.out; omega, by have := HBd.out; omega, n' + 1, rfl⟩
          case measure => have := HBd.out; simp only [intOf]; omega
    · go_wp2
      all_goals
        go_ret
        refine ⟨ret_int ?_, n, rfl⟩
        have hke : k = l.length := by have := HL.out; omega
        have := HX.out
        rw [hke, List.take_length] at this
        rw [← this]; omega

end Go.Proofs.YtloncgmgcnaalaaGreat

/- What frac.lowering does, for every slice of numbers. -/
namespace Go.Proofs.YtloncgmgcnaalaaGreat
open Go.RowKit

set_option maxHeartbeats 400000 in
theorem lowering_bad (d : Int) (a : Option Addr) (len cap : Nat) (l : List Int) (w : World) (hi : Ints w a len l) (hlen : len ≤ 9223372036854775807)
    (hbad : d = 0 ∨ Num.withinB 4611686018427387904 [d] = false ∨ Num.withinB 4611686018427387904 l = false) :
    Calls Tryz.prog 55 #[.int .i64 d, .slice a len cap] w fun e w' => e = .returned (.tuple #[.int .i64 0, .int .i64 3]) ∧ Below w.heap.size w w' := by
  by_cases hd0 : d = 0
  · subst hd0
    go_enter Tryz.func55, Tryz.ntmps55
    go_wp2_with fail
    go_ret2
    exact ⟨rfl, Below.refl _ _⟩
  have hd0' : (d == 0) = false := by simpa using hd0
  by_cases hd1 : Num.withinB 4611686018427387904 [d] = false
  · go_enter Tryz.func55, Tryz.ntmps55
    go_wp2_with fail
    refine (within_any _ _ _ _ [d] _ (Ints.new _ _ _) (by omega) (by omega) (by omega)).mono ?_
    rintro e w' ⟨rfl, rfl⟩
    go_wp2_with fail
    go_ret2
    exact ⟨rfl, (Below.refl _ _).alloc (Nat.le_refl _) _⟩
  have hd1' : Num.withinB 4611686018427387904 [d] = true := by simpa using hd1
  have hl1 : Num.withinB 4611686018427387904 l = false := by
    rcases hbad with h | h | h
    · exact absurd h hd0
    · exact absurd h hd1
    · exact h
  clear hd1 hbad
  go_enter Tryz.func55, Tryz.ntmps55
  go_wp2_with fail
  refine (within_any _ _ _ _ [d] _ (Ints.new _ _ _) (by omega) (by omega) (by omega)).mono ?_
  rintro e w' ⟨rfl, rfl⟩
  go_wp2_with fail
  refine (within_any _ _ _ _ l _ (hi.below (B := w.heap.size) ((Below.refl _ _).alloc (Nat.le_refl _) _) (Nat.le_refl _)) (by omega) (by omega) (by omega)).mono ?_
  rintro e w' ⟨rfl, rfl⟩
  go_wp2_with fail
  go_ret2
  exact ⟨rfl, (Below.refl _ _).alloc (Nat.le_refl _) _⟩

set_option maxHeartbeats 400000 in
theorem lowering_long (d : Int) (a : Option Addr) (len cap : Nat) (l : List Int) (w : World) (hi : Ints w a len l) (hlen : len ≤ 9223372036854775807)
    (hd0 : (d == 0) = false) (hd1 : Num.withinB 4611686018427387904 [d] = true) (hl1 : Num.withinB 4611686018427387904 l = true) (hlong : 8 < len) :
    Calls Tryz.prog 55 #[.int .i64 d, .slice a len cap] w fun e w' => e = .returned (.tuple #[.int .i64 0, .int .i64 1]) ∧ Below w.heap.size w w' := by
  go_enter Tryz.func55, Tryz.ntmps55
  go_wp2_with fail
  refine (within_any _ _ _ _ [d] _ (Ints.new _ _ _) (by omega) (by omega) (by omega)).mono ?_
  rintro e w' ⟨rfl, rfl⟩
  go_wp2_with fail
  refine (within_any _ _ _ _ l _ (hi.below (B := w.heap.size) ((Below.refl _ _).alloc (Nat.le_refl _) _) (Nat.le_refl _)) (by omega) (by omega) (by omega)).mono ?_
  rintro e w' ⟨rfl, rfl⟩
  go_wp2_with fail
  go_ret2
  exact ⟨rfl, (Below.refl _ _).alloc (Nat.le_refl _) _⟩

set_option maxHeartbeats 800000 in
theorem lowering_pos (d : Int) (a : Option Addr) (len cap : Nat) (l : List Int) (w : World) (hi : Ints w a len l) (hlen : len ≤ 8)
    (hd0 : (d == 0) = false) (hd1 : Num.withinB 4611686018427387904 [d] = true) (hl1 : Num.withinB 4611686018427387904 l = true) (hneg : 0 < d) :
    Calls Tryz.prog 55 #[.int .i64 d, .slice a len cap] w fun e w' => e = .returned (.tuple #[.int .i64 (Num.low d l).1, .int .i64 (Num.low d l).2]) ∧ Below w.heap.size w w' := by
  have hdb := Num.withinB_iff _ _ hd1 (by omega) 0
  have hlb := Num.withinB_iff _ _ hl1 (by omega)
  have HLB : Hid _ := hlb
  simp only [List.length_singleton, Nat.lt_one_iff, getElem?_pos, List.getElem_cons_zero, Option.getD_some] at hdb
  obtain ⟨hdb1, hdb2⟩ := hdb
  have hg0 := Num.gl_pos d l (by omega)
  have hg1 := Num.gl_le d l (by omega)
  have HLOW : Hid _ := Num.low_of d l ((Num.gl d l : Int)) (by unfold Num.byOf; rw [if_neg (by omega)]) (by omega) hd1 hl1 (by have := hi.1; omega)
  clear hlb
  go_enter Tryz.func55, Tryz.ntmps55
  go_wp2_with fail
  refine (within_any _ _ _ _ [d] _ (Ints.new _ _ _) (by omega) (by omega) (by omega)).mono ?_
  rintro e w' ⟨rfl, rfl⟩
  go_wp2_with fail
  refine (within_any _ _ _ _ l _ (hi.below (B := w.heap.size) ((Below.refl _ _).alloc (Nat.le_refl _) _) (Nat.le_refl _)) (by omega) (by omega) (by omega)).mono ?_
  rintro e w' ⟨rfl, rfl⟩
  go_wp2_with fail
  refine (divisor_any d _ _ _ l _ (hi.below (B := w.heap.size) ((Below.refl _ _).alloc (Nat.le_refl _) _) (Nat.le_refl _)) (by omega) ⟨hdb1, hdb2⟩ HLB.out).mono ?_
  rintro e w' ⟨rfl, n, rfl⟩
  generalize Num.gl d l = g at *
  have hq := Num.tdiv_abs d g
  go_wp2_with fail
  · go_ret2
    refine ⟨?_, bdrewN ((Below.refl _ _).alloc (Nat.le_refl _) _) _⟩
    rw [HLOW.out.1 (by first | assumption | (rw [Int.tdiv_eq_ediv_of_nonneg (by omega)]; assumption) | (rw [Int.tdiv_neg]; assumption))]
    rfl
  have HQ : Hid (d.tdiv (g) ≤ 1073741824) := by first | assumption | (rw [Int.tdiv_eq_ediv_of_nonneg (by omega)]; assumption) | (rw [Int.tdiv_neg]; assumption)
  obtain ⟨hll, hi⟩ := hi
  have HL : Hid (len = l.length) := hll
  clear hll hq
  go_loopw [38] (fun i wr => ∃ k : Nat, k ≤ len ∧ i = .int .i64 k ∧ Num.withinB 1073741824 ((l.map fun n => n.tdiv (g)).take k) = true ∧ Below w.heap.size w wr) (fun i _ => len - (intOf i).toNat)
  case atStart => exact ⟨0, Nat.zero_le _, rfl, rfl, bdrewN ((Below.refl _ _).alloc (Nat.le_refl _) _) _⟩
  case round =>
    obtain ⟨k, hk, rfl, hw, hbl⟩ := hrel
    have HW : Hid _ := hw
    clear hw
    by_cases hlt : k < len
    · rcases hi with hi | ⟨b, off, ha, hb, hc⟩
      · omega
      have hck := hc k hlt
      clear hc
      rw [← hbl.cell (p := ⟨b, off + k, none⟩) hb] at hck
      have hs := Num.withinB_take_succ 1073741824 (l.map fun n => n.tdiv (g)) k (by have := HL.out; simp; omega)
      have hf := Num.withinB_false_of 1073741824 (l.map fun n => n.tdiv (g)) k (by have := HL.out; simp; omega)
      rw [Num.map_getD _ (by simp)] at hs hf
      have hx := HLB.out k
      generalize l[k]?.getD 0 = x at hck hs hf hx
      have HS : Hid _ := hs
      have HF : Hid _ := hf
      clear hs hf
      subst ha
      have hq := Num.tdiv_abs x g
      go_wp2_with fail
      refine (within_any _ _ _ _ [x.tdiv g] _ (Ints.new _ _ _) (by omega) (by omega) (by omega)).mono ?_
      rintro e w' ⟨rfl, rfl⟩
      rw [Num.withinB_one]
      by_cases hin : -1073741824 ≤ x.tdiv g ∧ x.tdiv g ≤ 1073741824
      · have hb1 : (decide (-1073741824 ≤ x.tdiv g) && decide (x.tdiv g ≤ 1073741824)) = true := by simp; omega
        rw [hb1]
        go_wp2_with fail
        go_roundw
        case rel => exact ⟨k + 1, by omega, by go_num, by rw [HS.out, HW.out]; simp; omega, hbl.alloc hbl.size _⟩
        case measure => simp [intOf]; omega
      · have hb1 : (decide (-1073741824 ≤ x.tdiv g) && decide (x.tdiv g ≤ 1073741824)) = false := by simp; omega
        rw [hb1]
        go_wp2_with fail
        go_ret2
        refine ⟨?_, hbl.alloc hbl.size _⟩
        rw [HLOW.out.2.1 HQ.out (HF.out (by first | omega | (simp; omega)))]
        rfl
    · go_wp2_with fail
      go_ret2
      have hke : k = l.length := by have := HL.out; omega
      refine ⟨?_, hbl⟩
      rw [HLOW.out.2.2 HQ.out (by have := HW.out; rw [hke, List.take_of_length_le (by simp)] at this; exact this)]
      rfl

set_option maxHeartbeats 800000 in
theorem lowering_neg (d : Int) (a : Option Addr) (len cap : Nat) (l : List Int) (w : World) (hi : Ints w a len l) (hlen : len ≤ 8)
    (hd0 : (d == 0) = false) (hd1 : Num.withinB 4611686018427387904 [d] = true) (hl1 : Num.withinB 4611686018427387904 l = true) (hneg : d < 0) :
    Calls Tryz.prog 55 #[.int .i64 d, .slice a len cap] w fun e w' => e = .returned (.tuple #[.int .i64 (Num.low d l).1, .int .i64 (Num.low d l).2]) ∧ Below w.heap.size w w' := by
  have hdb := Num.withinB_iff _ _ hd1 (by omega) 0
  have hlb := Num.withinB_iff _ _ hl1 (by omega)
  have HLB : Hid _ := hlb
  simp only [List.length_singleton, Nat.lt_one_iff, getElem?_pos, List.getElem_cons_zero, Option.getD_some] at hdb
  obtain ⟨hdb1, hdb2⟩ := hdb
  have hg0 := Num.gl_pos d l (by omega)
  have hg1 := Num.gl_le d l (by omega)
  have HLOW : Hid _ := Num.low_of d l (-(Num.gl d l : Int)) (by unfold Num.byOf; rw [if_pos (by omega)]) (by omega) hd1 hl1 (by have := hi.1; omega)
  clear hlb
  go_enter Tryz.func55, Tryz.ntmps55
  go_wp2_with fail
  refine (within_any _ _ _ _ [d] _ (Ints.new _ _ _) (by omega) (by omega) (by omega)).mono ?_
  rintro e w' ⟨rfl, rfl⟩
  go_wp2_with fail
  refine (within_any _ _ _ _ l _ (hi.below (B := w.heap.size) ((Below.refl _ _).alloc (Nat.le_refl _) _) (Nat.le_refl _)) (by omega) (by omega) (by omega)).mono ?_
  rintro e w' ⟨rfl, rfl⟩
  go_wp2_with fail
  refine (divisor_any d _ _ _ l _ (hi.below (B := w.heap.size) ((Below.refl _ _).alloc (Nat.le_refl _) _) (Nat.le_refl _)) (by omega) ⟨hdb1, hdb2⟩ HLB.out).mono ?_
  rintro e w' ⟨rfl, n, rfl⟩
  generalize Num.gl d l = g at *
  have hq := Num.tdiv_abs d g
  have hwr : wrap64 (-d.tdiv ↑g) = -d.tdiv ↑g := IntWalk.wrap64_in _ (by omega)
  go_wp2_with fail
  · go_ret2
    refine ⟨?_, bdrewN ((Below.refl _ _).alloc (Nat.le_refl _) _) _⟩
    rw [HLOW.out.1 (by first | assumption | (rw [Int.tdiv_eq_ediv_of_nonneg (by omega)]; assumption) | (rw [Int.tdiv_neg]; assumption))]
    rfl
  have HQ : Hid (d.tdiv (-g) ≤ 1073741824) := by first | assumption | (rw [Int.tdiv_eq_ediv_of_nonneg (by omega)]; assumption) | (rw [Int.tdiv_neg]; assumption)
  obtain ⟨hll, hi⟩ := hi
  have HL : Hid (len = l.length) := hll
  clear hll hq
  go_loopw [38] (fun i wr => ∃ k : Nat, k ≤ len ∧ i = .int .i64 k ∧ Num.withinB 1073741824 ((l.map fun n => n.tdiv (-g)).take k) = true ∧ Below w.heap.size w wr) (fun i _ => len - (intOf i).toNat)
  case atStart => exact ⟨0, Nat.zero_le _, rfl, rfl, bdrewN ((Below.refl _ _).alloc (Nat.le_refl _) _) _⟩
  case round =>
    obtain ⟨k, hk, rfl, hw, hbl⟩ := hrel
    have HW : Hid _ := hw
    clear hw
    by_cases hlt : k < len
    · rcases hi with hi | ⟨b, off, ha, hb, hc⟩
      · omega
      have hck := hc k hlt
      clear hc
      rw [← hbl.cell (p := ⟨b, off + k, none⟩) hb] at hck
      have hs := Num.withinB_take_succ 1073741824 (l.map fun n => n.tdiv (-g)) k (by have := HL.out; simp; omega)
      have hf := Num.withinB_false_of 1073741824 (l.map fun n => n.tdiv (-g)) k (by have := HL.out; simp; omega)
      rw [Num.map_getD _ (by simp)] at hs hf
      have hx := HLB.out k
      generalize l[k]?.getD 0 = x at hck hs hf hx
      have HS : Hid _ := hs
      have HF : Hid _ := hf
      clear hs hf
      subst ha
      have hq := Num.tdiv_abs x g
      have hwr2 : wrap64 (-x.tdiv ↑g) = -x.tdiv ↑g := IntWalk.wrap64_in _ (by omega)
      go_wp2_with fail
      refine (within_any _ _ _ _ [-x.tdiv g] _ (Ints.new _ _ _) (by omega) (by omega) (by omega)).mono ?_
      rintro e w' ⟨rfl, rfl⟩
      rw [Num.withinB_one]
      by_cases hin : -1073741824 ≤ x.tdiv g ∧ x.tdiv g ≤ 1073741824
      · have hb1 : (decide (-1073741824 ≤ -x.tdiv g) && decide (-x.tdiv g ≤ 1073741824)) = true := by simp; omega
        rw [hb1]
        go_wp2_with fail
        go_roundw
        case rel => exact ⟨k + 1, by omega, by go_num, by rw [HS.out, HW.out]; simp; omega, hbl.alloc hbl.size _⟩
        case measure => simp [intOf]; omega
      · have hb1 : (decide (-1073741824 ≤ -x.tdiv g) && decide (-x.tdiv g ≤ 1073741824)) = false := by simp; omega
        rw [hb1]
        go_wp2_with fail
        go_ret2
        refine ⟨?_, hbl.alloc hbl.size _⟩
        rw [HLOW.out.2.1 HQ.out (HF.out (by first | omega | (simp; omega)))]
        rfl
    · go_wp2_with fail
      go_ret2
      have hke : k = l.length := by have := HL.out; omega
      refine ⟨?_, hbl⟩
      rw [HLOW.out.2.2 HQ.out (by have := HW.out; rw [hke, List.take_of_length_le (by simp)] at this; exact this)]
      rfl

/-- frac.lowering: for all numbers and every slice of numbers. -/
theorem lowering_any (d : Int) (a : Option Addr) (len cap : Nat) (l : List Int) (w : World) (hi : Ints w a len l) (hlen : len ≤ 9223372036854775807) :
    Calls Tryz.prog 55 #[.int .i64 d, .slice a len cap] w fun e w' => e = .returned (.tuple #[.int .i64 (Num.low d l).1, .int .i64 (Num.low d l).2]) ∧ Below w.heap.size w w' := by
  by_cases hbad : d = 0 ∨ Num.withinB 4611686018427387904 [d] = false ∨ Num.withinB 4611686018427387904 l = false
  · have e : Num.low d l = (0, 3) := by unfold Num.low; rw [if_pos hbad]
    rw [e]
    exact lowering_bad d a len cap l w hi hlen hbad
  · have hbad' := hbad
    simp only [not_or, Bool.not_eq_false] at hbad'
    obtain ⟨h0, h1, h2⟩ := hbad'
    have h0' : (d == 0) = false := by simpa using h0
    by_cases hlong : 8 < len
    · have e : Num.low d l = (0, 1) := by unfold Num.low; rw [if_neg hbad, if_pos (by have := hi.1; omega)]
      rw [e]
      exact lowering_long d a len cap l w hi hlen h0' h1 h2 hlong
    · by_cases hneg : d < 0
      · exact lowering_neg d a len cap l w hi (by omega) h0' h1 h2 hneg
      · exact lowering_pos d a len cap l w hi (by omega) h0' h1 h2 (by omega)

end Go.Proofs.YtloncgmgcnaalaaGreat

/- What frac.Make, frac.mayParts, frac.May and frac.Less do. -/
namespace Go.Proofs.YtloncgmgcnaalaaGreat
open Go.RowKit

theorem below2 {w w' : World} {o1 o2 : Obj} (hb : Below ((w.alloc o1).alloc o2).heap.size ((w.alloc o1).alloc o2) w') : Below w.heap.size w w' :=
  (((Below.refl _ _).alloc (Nat.le_refl _) _).alloc (by simp) _).trans (hb.mono (by simp; omega))

set_option maxHeartbeats 400000 in
theorem make_bad (n d : Int) (w : World) (h : ((Num.low d [n]).2 == 0) = false) :
    Calls Tryz.prog 60 #[.int .i64 n, .int .i64 d] w fun e w' => e = .returned (.tuple #[.agg #[.int .i64 0, .int .i64 0], .int .i64 (Num.low d [n]).2]) ∧ Below w.heap.size w w' := by
  have h' : ((Num.low d [n]).2 != 0) = true := by simpa using h
  generalize hx : (Num.low d [n]).2 = x at *
  have HX : Hid _ := hx
  clear hx
  go_enter Tryz.func60, Tryz.ntmps60
  go_wp2_with fail
  refine (lowering_any d _ _ _ [n] _ (Ints.newAt (by simp) _ _) (by omega)).mono ?_
  rintro e w' ⟨rfl, hb⟩
  rw [HX.out]
  generalize (Num.low d [n]).1 = y at *
  obtain ⟨hc, hf⟩ := bcell hb
  have hz := hb.size
  simp at hz
  have c0 : w'.cell? ⟨w.heap.size, 0, none⟩ = some (.int .i64 0) := by rw [hb.cell (by simp; omega)]; go_simp
  have c1 : w'.cell? ⟨w.heap.size, 1, none⟩ = some (.int .i64 0) := by rw [hb.cell (by simp; omega)]; go_simp
  go_wp2_with fail
  exact bodyPost_ret (v := .tuple #[.agg #[.int .i64 0, .int .i64 0], .int .i64 x]) (by simp [results, Tryz.results60, go_sem, c0, c1]) rfl ⟨rfl, ((below2 hb).setCell (Nat.le_refl _) _).setCell (Nat.le_refl _) _⟩

set_option maxHeartbeats 400000 in
theorem make_ok (n d : Int) (w : World) (h : (Num.low d [n]).2 = 0) :
    Calls Tryz.prog 60 #[.int .i64 n, .int .i64 d] w fun e w' => e = .returned (.tuple #[.agg #[.int .i64 (n.tdiv (Num.byOf d [n])), .int .i64 (d.tdiv (Num.byOf d [n]))], .int .i64 0]) ∧ Below w.heap.size w w' := by
  obtain ⟨e1, h0, ⟨hd1, hd2⟩, hl, _, _⟩ := Num.low_ok d [n] h
  have hy := Num.byOf_bd d [n] h0 hd1 hd2
  have hn := Num.withinB_iff _ _ hl (by omega) 0
  simp only [List.length_singleton, Nat.lt_one_iff, getElem?_pos, List.getElem_cons_zero, Option.getD_some] at hn
  have HX : Hid _ := h
  have HE : Hid _ := e1
  clear h e1 hl
  generalize Num.byOf d [n] = y at *
  have hy0 : (y == 0) = false := by simpa using hy.1
  have q1 := Num.tdiv_abs n y
  have q2 := Num.tdiv_abs d y
  have hw1 : wrap64 (n.tdiv y) = n.tdiv y := IntWalk.wrap64_in _ (by omega)
  have hw2 : wrap64 (d.tdiv y) = d.tdiv y := IntWalk.wrap64_in _ (by omega)
  clear q1 q2
  obtain ⟨_, hy1, hy2⟩ := hy
  go_enter Tryz.func60, Tryz.ntmps60
  go_wp2_with fail
  refine (lowering_any d _ _ _ [n] _ (Ints.newAt (by simp) _ _) (by omega)).mono ?_
  rintro e w' ⟨rfl, hb⟩
  rw [HX.out, HE.out]
  obtain ⟨hc, hf⟩ := bcell hb
  have hz := hb.size
  simp at hz
  have c0 : w'.cell? ⟨w.heap.size, 0, none⟩ = some (.int .i64 0) := by rw [hb.cell (by simp; omega)]; go_simp
  have c1 : w'.cell? ⟨w.heap.size, 1, none⟩ = some (.int .i64 0) := by rw [hb.cell (by simp; omega)]; go_simp
  go_wp2_with fail
  go_region
  go_wp2_with fail
  exact bodyPost_ret (v := .tuple #[.agg #[.int .i64 (n.tdiv y), .int .i64 (d.tdiv y)], .int .i64 0]) (by simp [results, Tryz.results60, go_sem, c0, c1]) rfl ⟨rfl, (((below2 hb).setCell (Nat.le_refl _) _).setCell (Nat.le_refl _) _).drew⟩

end Go.Proofs.YtloncgmgcnaalaaGreat

/- What frac.mayParts, frac.May and frac.Less do. -/
namespace Go.Proofs.YtloncgmgcnaalaaGreat
open Go.RowKit

set_option maxHeartbeats 400000 in
theorem mayParts_any (d : Int) (a : Option Addr) (len cap : Nat) (l : List Int) (w : World) (hi : Ints w a len l) (hlen : len ≤ 9223372036854775807) :
    Calls Tryz.prog 86 #[.int .i64 d, .slice a len cap] w fun e w' => e = .returned (.bool (Num.mayB d l)) ∧ Below w.heap.size w w' := by
  by_cases h0 : 1 ≤ d
  · by_cases h1 : Num.withinB 1073741824 [d] = false
    · have HF : Hid _ := Num.mayB_d d l h1
      go_enter Tryz.func86, Tryz.ntmps86
      go_wp2_with fail
      refine (within_any _ _ _ _ [d] _ (Ints.newAt (by simp) _ _) (by omega) (by omega) (by omega)).mono ?_
      rintro e w' ⟨rfl, rfl⟩
      go_wp2_with fail
      go_ret
      exact ⟨ret_bool HF.out.symm, (Below.refl _ _).alloc (Nat.le_refl _) _⟩
    · have h1' : Num.withinB 1073741824 [d] = true := by simpa using h1
      by_cases h2 : Num.withinB 1073741824 l = false
      · have HF : Hid _ := Num.mayB_l d l h2
        clear h1
        go_enter Tryz.func86, Tryz.ntmps86
        go_wp2_with fail
        refine (within_any _ _ _ _ [d] _ (Ints.newAt (by simp) _ _) (by omega) (by omega) (by omega)).mono ?_
        rintro e w' ⟨rfl, rfl⟩
        go_wp2_with fail
        refine (within_any _ _ _ _ l _ (hi.below (B := w.heap.size) ((Below.refl _ _).alloc (Nat.le_refl _) _) (Nat.le_refl _)) (by omega) (by omega) (by omega)).mono ?_
        rintro e w' ⟨rfl, rfl⟩
        go_wp2_with fail
        go_ret
        exact ⟨ret_bool HF.out.symm, (Below.refl _ _).alloc (Nat.le_refl _) _⟩
      · have h2' : Num.withinB 1073741824 l = true := by simpa using h2
        have HF : Hid _ := Num.mayB_g d l h0 h1' h2'
        have hd := Num.withinB_iff _ _ h1' (by omega) 0
        simp only [List.length_singleton, Nat.lt_one_iff, getElem?_pos, List.getElem_cons_zero, Option.getD_some] at hd
        have hl := Num.withinB_iff _ _ h2' (by omega)
        have HLB : Hid _ := hl
        clear h1 h2 hl
        go_enter Tryz.func86, Tryz.ntmps86
        go_wp2_with fail
        refine (within_any _ _ _ _ [d] _ (Ints.newAt (by simp) _ _) (by omega) (by omega) (by omega)).mono ?_
        rintro e w' ⟨rfl, rfl⟩
        go_wp2_with fail
        refine (within_any _ _ _ _ l _ (hi.below (B := w.heap.size) ((Below.refl _ _).alloc (Nat.le_refl _) _) (Nat.le_refl _)) (by omega) (by omega) (by omega)).mono ?_
        rintro e w' ⟨rfl, rfl⟩
        go_wp2_with fail
        refine (divisor_any d _ _ _ l _ (hi.below (B := w.heap.size) ((Below.refl _ _).alloc (Nat.le_refl _) _) (Nat.le_refl _)) (by omega) (by omega) (fun j => by have := HLB.out j; omega)).mono ?_
        rintro e w' ⟨rfl, n, rfl⟩
        go_wp2_with fail
        go_ret
        exact ⟨ret_bool HF.out.symm, bdrewN ((Below.refl _ _).alloc (Nat.le_refl _) _) _⟩
  · have HF : Hid _ := Num.mayB_lo d l h0
    have h0' : decide (1 ≤ d) = false := by simpa using h0
    go_enter Tryz.func86, Tryz.ntmps86
    go_wp2_with fail
    go_ret
    exact ⟨ret_bool HF.out.symm, Below.refl _ _⟩

/-- frac.Make: for all numbers. -/
theorem make_any (n d : Int) (w : World) (x y z : Int) (h : Num.mk n d = (x, y, z)) :
    Calls Tryz.prog 60 #[.int .i64 n, .int .i64 d] w fun e w' => e = .returned (.tuple #[.agg #[.int .i64 x, .int .i64 y], .int .i64 z]) ∧ Below w.heap.size w w' := by
  unfold Num.mk at h
  by_cases h0 : (Num.low d [n]).2 = 0
  · rw [if_pos h0] at h
    simp only [Prod.mk.injEq] at h
    obtain ⟨rfl, rfl, rfl⟩ := h
    exact make_ok n d w h0
  · rw [if_neg h0] at h
    simp only [Prod.mk.injEq] at h
    obtain ⟨rfl, rfl, rfl⟩ := h
    exact make_bad n d w (by simpa using h0)

end Go.Proofs.YtloncgmgcnaalaaGreat
