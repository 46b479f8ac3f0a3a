/- What frac.lowering does, for every slice of numbers. -/
import Derived.Test.YtjpliphobnflpaaFracW1
namespace Go.Proofs.Ytjpliphobnflpaa
open Go.RowKit

set_option maxHeartbeats 400000 in
theorem lowering_bad (d : Int) (a : Option Addr) (len cap : Nat) (l : List Int) (w : World) (hi : Ints w a len l) (hlen : len ≤ 9223372036854775807)
    (hbad : d = 0 ∨ Num.withinB 4611686018427387904 [d] = false ∨ Num.withinB 4611686018427387904 l = false) :
    Calls Try.prog 41 #[.int .i64 d, .slice a len cap] w fun e w' => e = .returned (.tuple #[.int .i64 0, .int .i64 3]) ∧ Below w.heap.size w w' := by
  by_cases hd0 : d = 0
  · subst hd0
    go_enter Try.func41, Try.ntmps41
    go_wp2_with fail
    go_ret2
    exact ⟨rfl, Below.refl _ _⟩
  have hd0' : (d == 0) = false := by simpa using hd0
  by_cases hd1 : Num.withinB 4611686018427387904 [d] = false
  · go_enter Try.func41, Try.ntmps41
    go_wp2_with fail
    refine (within_any _ _ _ _ [d] _ (Ints.new _ _ _) (by omega) (by omega) (by omega)).mono ?_
    rintro e w' ⟨rfl, rfl⟩
    go_wp2_with fail
    go_ret2
    exact ⟨rfl, (Below.refl _ _).alloc (Nat.le_refl _) _⟩
  have hd1' : Num.withinB 4611686018427387904 [d] = true := by simpa using hd1
  have hl1 : Num.withinB 4611686018427387904 l = false := by
    rcases hbad with h | h | h
    · exact absurd h hd0
    · exact absurd h hd1
    · exact h
  clear hd1 hbad
  go_enter Try.func41, Try.ntmps41
  go_wp2_with fail
  refine (within_any _ _ _ _ [d] _ (Ints.new _ _ _) (by omega) (by omega) (by omega)).mono ?_
  rintro e w' ⟨rfl, rfl⟩
  go_wp2_with fail
  refine (within_any _ _ _ _ l _ (hi.below (B := w.heap.size) ((Below.refl _ _).alloc (Nat.le_refl _) _) (Nat.le_refl _)) (by omega) (by omega) (by omega)).mono ?_
  rintro e w' ⟨rfl, rfl⟩
  go_wp2_with fail
  go_ret2
  exact ⟨rfl, (Below.refl _ _).alloc (Nat.le_refl _) _⟩

set_option maxHeartbeats 400000 in
theorem lowering_long (d : Int) (a : Option Addr) (len cap : Nat) (l : List Int) (w : World) (hi : Ints w a len l) (hlen : len ≤ 9223372036854775807)
    (hd0 : (d == 0) = false) (hd1 : Num.withinB 4611686018427387904 [d] = true) (hl1 : Num.withinB 4611686018427387904 l = true) (hlong : 8 < len) :
    Calls Try.prog 41 #[.int .i64 d, .slice a len cap] w fun e w' => e = .returned (.tuple #[.int .i64 0, .int .i64 1]) ∧ Below w.heap.size w w' := by
  go_enter Try.func41, Try.ntmps41
  go_wp2_with fail
  refine (within_any _ _ _ _ [d] _ (Ints.new _ _ _) (by omega) (by omega) (by omega)).mono ?_
  rintro e w' ⟨rfl, rfl⟩
  go_wp2_with fail
  refine (within_any _ _ _ _ l _ (hi.below (B := w.heap.size) ((Below.refl _ _).alloc (Nat.le_refl _) _) (Nat.le_refl _)) (by omega) (by omega) (by omega)).mono ?_
  rintro e w' ⟨rfl, rfl⟩
  go_wp2_with fail
  go_ret2
  exact ⟨rfl, (Below.refl _ _).alloc (Nat.le_refl _) _⟩

set_option maxHeartbeats 800000 in
theorem lowering_pos (d : Int) (a : Option Addr) (len cap : Nat) (l : List Int) (w : World) (hi : Ints w a len l) (hlen : len ≤ 8)
    (hd0 : (d == 0) = false) (hd1 : Num.withinB 4611686018427387904 [d] = true) (hl1 : Num.withinB 4611686018427387904 l = true) (hneg : 0 < d) :
    Calls Try.prog 41 #[.int .i64 d, .slice a len cap] w fun e w' => e = .returned (.tuple #[.int .i64 (Num.low d l).1, .int .i64 (Num.low d l).2]) ∧ Below w.heap.size w w' := by
  have hdb := Num.withinB_iff _ _ hd1 (by omega) 0
  have hlb := Num.withinB_iff _ _ hl1 (by omega)
  have HLB : Hid _ := hlb
  simp only [List.length_singleton, Nat.lt_one_iff, getElem?_pos, List.getElem_cons_zero, Option.getD_some] at hdb
  obtain ⟨hdb1, hdb2⟩ := hdb
  have hg0 := Num.gl_pos d l (by omega)
  have hg1 := Num.gl_le d l (by omega)
  have HLOW : Hid _ := Num.low_of d l ((Num.gl d l : Int)) (by unfold Num.byOf; rw [if_neg (by omega)]) (by omega) hd1 hl1 (by have := hi.1; omega)
  clear hlb
  go_enter Try.func41, Try.ntmps41
  go_wp2_with fail
  refine (within_any _ _ _ _ [d] _ (Ints.new _ _ _) (by omega) (by omega) (by omega)).mono ?_
  rintro e w' ⟨rfl, rfl⟩
  go_wp2_with fail
  refine (within_any _ _ _ _ l _ (hi.below (B := w.heap.size) ((Below.refl _ _).alloc (Nat.le_refl _) _) (Nat.le_refl _)) (by omega) (by omega) (by omega)).mono ?_
  rintro e w' ⟨rfl, rfl⟩
  go_wp2_with fail
  refine (divisor_any d _ _ _ l _ (hi.below (B := w.heap.size) ((Below.refl _ _).alloc (Nat.le_refl _) _) (Nat.le_refl _)) (by omega) ⟨hdb1, hdb2⟩ HLB.out).mono ?_
  rintro e w' ⟨rfl, n, rfl⟩
  generalize Num.gl d l = g at *
  have hq := Num.tdiv_abs d g
  go_wp2_with fail
  · go_ret2
    refine ⟨?_, bdrewN ((Below.refl _ _).alloc (Nat.le_refl _) _) _⟩
    rw [HLOW.out.1 (by first | assumption | (rw [Int.tdiv_eq_ediv_of_nonneg (by omega)]; assumption) | (rw [Int.tdiv_neg]; assumption))]
    rfl
  have HQ : Hid (d.tdiv (g) ≤ 1073741824) := by first | assumption | (rw [Int.tdiv_eq_ediv_of_nonneg (by omega)]; assumption) | (rw [Int.tdiv_neg]; assumption)
  obtain ⟨hll, hi⟩ := hi
  have HL : Hid (len = l.length) := hll
  clear hll hq
  go_loopw [38] (fun i wr => ∃ k : Nat, k ≤ len ∧ i = .int .i64 k ∧ Num.withinB 1073741824 ((l.map fun n => n.tdiv (g)).take k) = true ∧ Below w.heap.size w wr) (fun i _ => len - (intOf i).toNat)
  case atStart => exact ⟨0, Nat.zero_le _, rfl, rfl, bdrewN ((Below.refl _ _).alloc (Nat.le_refl _) _) _⟩
  case round =>
    obtain ⟨k, hk, rfl, hw, hbl⟩ := hrel
    have HW : Hid _ := hw
    clear hw
    by_cases hlt : k < len
    · rcases hi with hi | ⟨b, off, ha, hb, hc⟩
      · omega
      have hck := hc k hlt
      clear hc
      rw [← hbl.cell (p := ⟨b, off + k, none⟩) hb] at hck
      have hs := Num.withinB_take_succ 1073741824 (l.map fun n => n.tdiv (g)) k (by have := HL.out; simp; omega)
      have hf := Num.withinB_false_of 1073741824 (l.map fun n => n.tdiv (g)) k (by have := HL.out; simp; omega)
      rw [Num.map_getD _ (by simp)] at hs hf
      have hx := HLB.out k
      generalize l[k]?.getD 0 = x at hck hs hf hx
      have HS : Hid _ := hs
      have HF : Hid _ := hf
      clear hs hf
      subst ha
      have hq := Num.tdiv_abs x g
      go_wp2_with fail
      refine (within_any _ _ _ _ [x.tdiv g] _ (Ints.new _ _ _) (by omega) (by omega) (by omega)).mono ?_
      rintro e w' ⟨rfl, rfl⟩
      rw [Num.withinB_one]
      by_cases hin : -1073741824 ≤ x.tdiv g ∧ x.tdiv g ≤ 1073741824
      · have hb1 : (decide (-1073741824 ≤ x.tdiv g) && decide (x.tdiv g ≤ 1073741824)) = true := by simp; omega
        rw [hb1]
        go_wp2_with fail
        go_roundw
        case rel => exact ⟨k + 1, by omega, by go_num, by rw [HS.out, HW.out]; simp; omega, hbl.alloc hbl.size _⟩
        case measure => simp [intOf]; omega
      · have hb1 : (decide (-1073741824 ≤ x.tdiv g) && decide (x.tdiv g ≤ 1073741824)) = false := by simp; omega
        rw [hb1]
        go_wp2_with fail
        go_ret2
        refine ⟨?_, hbl.alloc hbl.size _⟩
        rw [HLOW.out.2.1 HQ.out (HF.out (by first | omega | (simp; omega)))]
        rfl
    · go_wp2_with fail
      go_ret2
      have hke : k = l.length := by have := HL.out; omega
      refine ⟨?_, hbl⟩
      rw [HLOW.out.2.2 HQ.out (by have := HW.out; rw [hke, List.take_of_length_le (by simp)] at this; exact this)]
      rfl

set_option maxHeartbeats 800000 in
theorem lowering_neg (d : Int) (a : Option Addr) (len cap : Nat) (l : List Int) (w : World) (hi : Ints w a len l) (hlen : len ≤ 8)
    (hd0 : (d == 0) = false) (hd1 : Num.withinB 4611686018427387904 [d] = true) (hl1 : Num.withinB 4611686018427387904 l = true) (hneg : d < 0) :
    Calls Try.prog 41 #[.int .i64 d, .slice a len cap] w fun e w' => e = .returned (.tuple #[.int .i64 (Num.low d l).1, .int .i64 (Num.low d l).2]) ∧ Below w.heap.size w w' := by
  have hdb := Num.withinB_iff _ _ hd1 (by omega) 0
  have hlb := Num.withinB_iff _ _ hl1 (by omega)
  have HLB : Hid _ := hlb
  simp only [List.length_singleton, Nat.lt_one_iff, getElem?_pos, List.getElem_cons_zero, Option.getD_some] at hdb
  obtain ⟨hdb1, hdb2⟩ := hdb
  have hg0 := Num.gl_pos d l (by omega)
  have hg1 := Num.gl_le d l (by omega)
  have HLOW : Hid _ := Num.low_of d l (-(Num.gl d l : Int)) (by unfold Num.byOf; rw [if_pos (by omega)]) (by omega) hd1 hl1 (by have := hi.1; omega)
  clear hlb
  go_enter Try.func41, Try.ntmps41
  go_wp2_with fail
  refine (within_any _ _ _ _ [d] _ (Ints.new _ _ _) (by omega) (by omega) (by omega)).mono ?_
  rintro e w' ⟨rfl, rfl⟩
  go_wp2_with fail
  refine (within_any _ _ _ _ l _ (hi.below (B := w.heap.size) ((Below.refl _ _).alloc (Nat.le_refl _) _) (Nat.le_refl _)) (by omega) (by omega) (by omega)).mono ?_
  rintro e w' ⟨rfl, rfl⟩
  go_wp2_with fail
  refine (divisor_any d _ _ _ l _ (hi.below (B := w.heap.size) ((Below.refl _ _).alloc (Nat.le_refl _) _) (Nat.le_refl _)) (by omega) ⟨hdb1, hdb2⟩ HLB.out).mono ?_
  rintro e w' ⟨rfl, n, rfl⟩
  generalize Num.gl d l = g at *
  have hq := Num.tdiv_abs d g
  have hwr : wrap64 (-d.tdiv ↑g) = -d.tdiv ↑g := IntWalk.wrap64_in _ (by omega)
  go_wp2_with fail
  · go_ret2
    refine ⟨?_, bdrewN ((Below.refl _ _).alloc (Nat.le_refl _) _) _⟩
    rw [HLOW.out.1 (by first | assumption | (rw [Int.tdiv_eq_ediv_of_nonneg (by omega)]; assumption) | (rw [Int.tdiv_neg]; assumption))]
    rfl
  have HQ : Hid (d.tdiv (-g) ≤ 1073741824) := by first | assumption | (rw [Int.tdiv_eq_ediv_of_nonneg (by omega)]; assumption) | (rw [Int.tdiv_neg]; assumption)
  obtain ⟨hll, hi⟩ := hi
  have HL : Hid (len = l.length) := hll
  clear hll hq
  go_loopw [38] (fun i wr => ∃ k : Nat, k ≤ len ∧ i = .int .i64 k ∧ Num.withinB 1073741824 ((l.map fun n => n.tdiv (-g)).take k) = true ∧ Below w.heap.size w wr) (fun i _ => len - (intOf i).toNat)
  case atStart => exact ⟨0, Nat.zero_le _, rfl, rfl, bdrewN ((Below.refl _ _).alloc (Nat.le_refl _) _) _⟩
  case round =>
    obtain ⟨k, hk, rfl, hw, hbl⟩ := hrel
    have HW : Hid _ := hw
    clear hw
    by_cases hlt : k < len
    · rcases hi with hi | ⟨b, off, ha, hb, hc⟩
      · omega
      have hck := hc k hlt
      clear hc
      rw [← hbl.cell (p := ⟨b, off + k, none⟩) hb] at hck
      have hs := Num.withinB_take_succ 1073741824 (l.map fun n => n.tdiv (-g)) k (by have := HL.out; simp; omega)
      have hf := Num.withinB_false_of 1073741824 (l.map fun n => n.tdiv (-g)) k (by have := HL.out; simp; omega)
      rw [Num.map_getD _ (by simp)] at hs hf
      have hx := HLB.out k
      generalize l[k]?.getD 0 = x at hck hs hf hx
      have HS : Hid _ := hs
      have HF : Hid _ := hf
      clear hs hf
      subst ha
      have hq := Num.tdiv_abs x g
      have hwr2 : wrap64 (-x.tdiv ↑g) = -x.tdiv ↑g := IntWalk.wrap64_in _ (by omega)
      go_wp2_with fail
      refine (within_any _ _ _ _ [-x.tdiv g] _ (Ints.new _ _ _) (by omega) (by omega) (by omega)).mono ?_
      rintro e w' ⟨rfl, rfl⟩
      rw [Num.withinB_one]
      by_cases hin : -1073741824 ≤ x.tdiv g ∧ x.tdiv g ≤ 1073741824
      · have hb1 : (decide (-1073741824 ≤ -x.tdiv g) && decide (-x.tdiv g ≤ 1073741824)) = true := by simp; omega
        rw [hb1]
        go_wp2_with fail
        go_roundw
        case rel => exact ⟨k + 1, by omega, by go_num, by rw [HS.out, HW.out]; simp; omega, hbl.alloc hbl.size _⟩
        case measure => simp [intOf]; omega
      · have hb1 : (decide (-1073741824 ≤ -x.tdiv g) && decide (-x.tdiv g ≤ 1073741824)) = false := by simp; omega
        rw [hb1]
        go_wp2_with fail
        go_ret2
        refine ⟨?_, hbl.alloc hbl.size _⟩
        rw [HLOW.out.2.1 HQ.out (HF.out (by first | omega | (simp; omega)))]
        rfl
    · go_wp2_with fail
      go_ret2
      have hke : k = l.length := by have := HL.out; omega
      refine ⟨?_, hbl⟩
      rw [HLOW.out.2.2 HQ.out (by have := HW.out; rw [hke, List.take_of_length_le (by simp)] at this; exact this)]
      rfl

/-- frac.lowering: for all numbers and every slice of numbers. -/
theorem lowering_any (d : Int) (a : Option Addr) (len cap : Nat) (l : List Int) (w : World) (hi : Ints w a len l) (hlen : len ≤ 9223372036854775807) :
    Calls Try.prog 41 #[.int .i64 d, .slice a len cap] w fun e w' => e = .returned (.tuple #[.int .i64 (Num.low d l).1, .int .i64 (Num.low d l).2]) ∧ Below w.heap.size w w' := by
  by_cases hbad : d = 0 ∨ Num.withinB 4611686018427387904 [d] = false ∨ Num.withinB 4611686018427387904 l = false
  · have e : Num.low d l = (0, 3) := by unfold Num.low; rw [if_pos hbad]
    rw [e]
    exact lowering_bad d a len cap l w hi hlen hbad
  · have hbad' := hbad
    simp only [not_or, Bool.not_eq_false] at hbad'
    obtain ⟨h0, h1, h2⟩ := hbad'
    have h0' : (d == 0) = false := by simpa using h0
    by_cases hlong : 8 < len
    · have e : Num.low d l = (0, 1) := by unfold Num.low; rw [if_neg hbad, if_pos (by have := hi.1; omega)]
      rw [e]
      exact lowering_long d a len cap l w hi hlen h0' h1 h2 hlong
    · by_cases hneg : d < 0
      · exact lowering_neg d a len cap l w hi (by omega) h0' h1 h2 hneg
      · exact lowering_pos d a len cap l w hi (by omega) h0' h1 h2 (by omega)

end Go.Proofs.Ytjpliphobnflpaa
