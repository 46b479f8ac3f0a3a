/- What the document's own MayPoint, May and Cmp do, and frac.Less. -/
import Derived.Test.YtjpliphobnflpaaRef1W1
namespace Go.Proofs.Ytjpliphobnflpaa
open Go.RowKit

theorem binto {w w' : World} {o : Obj} (hb : Below (w.alloc o).heap.size (w.alloc o) w') : Below w.heap.size w w' :=
  ((Below.refl _ _).alloc (Nat.le_refl _) _).trans (hb.mono (by simp))

set_option maxHeartbeats 400000 in
theorem mayPoint_any (d : Int) (a : Option Addr) (len cap : Nat) (l : List Int) (w : World) (hi : Ints w a len l) (hlen : len ≤ 9223372036854775807) :
    Calls Try.prog 45 #[.agg #[.slice a len cap, .int .i64 d]] w fun e w' => e = .returned (.bool (Num.mayPB d l)) ∧ Below w.heap.size w w' := by
  have HLEN : Hid (len = l.length) := hi.1
  by_cases h0 : 1 ≤ d
  · by_cases h1 : d ≤ 1073741824
    · have h1' : Num.withinB 1073741824 [d] = true := by rw [Num.withinB_one]; simp; omega
      by_cases h2 : Num.withinB 1073741824 l = true
      · by_cases h3 : len ≤ 8
        · have HF : Hid (Num.mayPB d l = ((Num.gl d l : Int) == 1)) := by
            show _ = _
            unfold Num.mayPB; rw [Num.mayB_g d l h0 h1' h2]; have hl : l.length ≤ 8 := (by have := HLEN.out; omega); simp [hl]
          have HLB : Hid _ := Num.withinB_iff _ _ h2 (by omega)
          clear h1'
          go_enter Try.func45, Try.ntmps45
          go_wp2_with fail
          refine (rwithin_any _ _ _ _ l _ (hi.below (B := w.heap.size) ((Below.refl _ _).alloc (Nat.le_refl _) _) (Nat.le_refl _)) (by omega) (by omega) (by omega)).mono ?_
          rintro e w' ⟨rfl, rfl⟩
          go_wp2_with fail
          refine (all_any d _ _ _ l _ (hi.below (B := w.heap.size) ((Below.refl _ _).alloc (Nat.le_refl _) _) (Nat.le_refl _)) (by omega) (by omega) (fun j => by have := HLB.out j; omega)).mono ?_
          rintro e w' ⟨rfl, rfl⟩
          go_wp2_with fail
          go_ret
          exact ⟨ret_bool HF.out.symm, (Below.refl _ _).alloc (Nat.le_refl _) _⟩
        · have HF : Hid (Num.mayPB d l = false) := by
            show _ = _
            unfold Num.mayPB; have hl : ¬ l.length ≤ 8 := (by have := HLEN.out; omega); simp [hl]
          clear h1'
          go_enter Try.func45, Try.ntmps45
          go_wp2_with fail
          refine (rwithin_any _ _ _ _ l _ (hi.below (B := w.heap.size) ((Below.refl _ _).alloc (Nat.le_refl _) _) (Nat.le_refl _)) (by omega) (by omega) (by omega)).mono ?_
          rintro e w' ⟨rfl, rfl⟩
          have h3' : decide ((len : Int) ≤ 8) = false := by simp; omega
          go_wp2_with fail
          go_ret
          exact ⟨ret_bool HF.out.symm, (Below.refl _ _).alloc (Nat.le_refl _) _⟩
      · have h2' : Num.withinB 1073741824 l = false := by simpa using h2
        have HF : Hid (Num.mayPB d l = false) := by unfold Num.mayPB; rw [Num.mayB_l d l h2']; rfl
        clear h1' h2
        go_enter Try.func45, Try.ntmps45
        go_wp2_with fail
        refine (rwithin_any _ _ _ _ l _ (hi.below (B := w.heap.size) ((Below.refl _ _).alloc (Nat.le_refl _) _) (Nat.le_refl _)) (by omega) (by omega) (by omega)).mono ?_
        rintro e w' ⟨rfl, rfl⟩
        go_wp2_with fail
        go_ret
        exact ⟨ret_bool HF.out.symm, (Below.refl _ _).alloc (Nat.le_refl _) _⟩
    · have HF : Hid (Num.mayPB d l = false) := by
        unfold Num.mayPB; rw [Num.mayB_d d l (by rw [Num.withinB_one]; simp; omega)]; rfl
      have h1' : decide (d ≤ 1073741824) = false := by simpa using h1
      go_enter Try.func45, Try.ntmps45
      go_wp2_with fail
      go_ret
      exact ⟨ret_bool HF.out.symm, (Below.refl _ _).alloc (Nat.le_refl _) _⟩
  · have HF : Hid (Num.mayPB d l = false) := by unfold Num.mayPB; rw [Num.mayB_lo d l h0]; rfl
    have h0' : decide (1 ≤ d) = false := by simpa using h0
    go_enter Try.func45, Try.ntmps45
    go_wp2_with fail
    go_ret
    exact ⟨ret_bool HF.out.symm, (Below.refl _ _).alloc (Nat.le_refl _) _⟩

set_option maxHeartbeats 400000 in
theorem rmay_any (n d : Int) (w : World) :
    Calls Try.prog 19 #[.agg #[.int .i64 n, .int .i64 d]] w fun e w' => e = .returned (.bool (Num.mayB d [n])) ∧ Below w.heap.size w w' := by
  have HF : Hid (Num.mayPB d [n] = Num.mayB d [n]) := by show Num.mayPB d [n] = _; unfold Num.mayPB; simp
  go_enter Try.func19, Try.ntmps19
  go_wp2_with fail
  refine (mayPoint_any d _ _ _ [n] _ (Ints.newAt (by simp) _ _) (by omega)).mono ?_
  rintro e w' ⟨rfl, hb⟩
  rw [HF.out]
  go_wp2_with fail
  go_ret
  exact ⟨rfl, below2 hb⟩

set_option maxHeartbeats 400000 in
theorem cmp_any (an ad bn bd : Int) (w : World) (h1 : -1073741824 ≤ an ∧ an ≤ 1073741824) (h2 : -1073741824 ≤ ad ∧ ad ≤ 1073741824) (h3 : -1073741824 ≤ bn ∧ bn ≤ 1073741824) (h4 : -1073741824 ≤ bd ∧ bd ≤ 1073741824) :
    Calls Try.prog 21 #[.agg #[.int .i64 an, .int .i64 ad], .agg #[.int .i64 bn, .int .i64 bd]] w fun e w' => e = .returned (.int .i64 (an * bd - bn * ad)) ∧ Below w.heap.size w w' := by
  have b1 := Num.mul_bd an bd 1073741824 h1 h4 (by omega)
  have b2 := Num.mul_bd bn ad 1073741824 h3 h2 (by omega)
  simp only [show (1073741824 : Int) * 1073741824 = 1152921504606846976 from rfl] at b1 b2
  generalize hp : an * bd = p at *
  generalize hq : bn * ad = q at *
  have HP : Hid _ := hp
  have HQ : Hid _ := hq
  go_enter Try.func21, Try.ntmps21
  go_wp2
  go_ret
  exact ⟨rfl, ((Below.refl _ _).alloc (Nat.le_refl _) _).alloc (by simp) _⟩

set_option maxHeartbeats 400000 in
theorem less_any (an ad bn bd : Int) (w : World) :
    Calls Try.prog 20 #[.agg #[.int .i64 an, .int .i64 ad], .agg #[.int .i64 bn, .int .i64 bd]] w fun e w' => e = .returned (.bool (Num.mayB ad [an] && (Num.mayB bd [bn] && decide (an * bd < bn * ad)))) ∧ Below w.heap.size w w' := by
  by_cases ha : Num.mayB ad [an] = true
  · by_cases hb : Num.mayB bd [bn] = true
    · have A := Num.mayB_bd _ _ ha
      have B := Num.mayB_bd _ _ hb
      rw [Num.withinB_one] at A B
      simp only [Bool.and_eq_true, decide_eq_true_eq] at A B
      have b1 := Num.mul_bd an bd 1073741824 (by omega) (by omega) (by omega)
      have b2 := Num.mul_bd bn ad 1073741824 (by omega) (by omega) (by omega)
      simp only [show (1073741824 : Int) * 1073741824 = 1152921504606846976 from rfl] at b1 b2
      have HF : Hid ((Num.mayB ad [an] && (Num.mayB bd [bn] && decide (an * bd < bn * ad))) = decide (an * bd < bn * ad)) := by show _ = _; rw [ha, hb]; simp
      generalize hp : an * bd = p at *
      generalize hq : bn * ad = q at *
      have HP : Hid _ := hp
      have HQ : Hid _ := hq
      clear A B
      go_enter Try.func20, Try.ntmps20
      go_wp2_with fail
      refine (may_any _ _ _).mono ?_
      rintro e w1 ⟨rfl, hb1⟩
      have c0 : w1.cell? ⟨w.heap.size, 0, none⟩ = some (.int .i64 an) := by rw [hb1.cell (by simp; omega)]; go_simp
      have c1 : w1.cell? ⟨w.heap.size, 1, none⟩ = some (.int .i64 ad) := by rw [hb1.cell (by simp; omega)]; go_simp
      have c2 : w1.cell? ⟨w.heap.size + 1, 0, none⟩ = some (.int .i64 bn) := by rw [hb1.cell (by simp)]; go_simp
      have c3 : w1.cell? ⟨w.heap.size + 1, 1, none⟩ = some (.int .i64 bd) := by rw [hb1.cell (by simp)]; go_simp
      have hz : w.heap.size + 1 < w1.heap.size := by have := hb1.size; simp at this; omega
      go_wp2_with fail
      refine (may_any _ _ _).mono ?_
      rintro e w2 ⟨rfl, hb2⟩
      have d0 : w2.cell? ⟨w.heap.size, 0, none⟩ = some (.int .i64 an) := by rw [hb2.cell (by show _ < _; simp; omega)]; exact c0
      have d1 : w2.cell? ⟨w.heap.size, 1, none⟩ = some (.int .i64 ad) := by rw [hb2.cell (by show _ < _; simp; omega)]; exact c1
      have d2 : w2.cell? ⟨w.heap.size + 1, 0, none⟩ = some (.int .i64 bn) := by rw [hb2.cell (by show _ < _; simp; omega)]; exact c2
      have d3 : w2.cell? ⟨w.heap.size + 1, 1, none⟩ = some (.int .i64 bd) := by rw [hb2.cell (by show _ < _; simp; omega)]; exact c3
      go_wp2_with fail
      go_ret
      exact ⟨ret_bool HF.out.symm, (below2 hb1).trans (hb2.mono (by omega))⟩
    · have hb' : Num.mayB bd [bn] = false := by simpa using hb
      have HF : Hid ((Num.mayB ad [an] && (Num.mayB bd [bn] && decide (an * bd < bn * ad))) = false) := by show _ = _; rw [ha, hb']; simp
      clear hb
      go_enter Try.func20, Try.ntmps20
      go_wp2_with fail
      refine (may_any _ _ _).mono ?_
      rintro e w1 ⟨rfl, hb1⟩
      have c2 : w1.cell? ⟨w.heap.size + 1, 0, none⟩ = some (.int .i64 bn) := by rw [hb1.cell (by simp)]; go_simp
      have c3 : w1.cell? ⟨w.heap.size + 1, 1, none⟩ = some (.int .i64 bd) := by rw [hb1.cell (by simp)]; go_simp
      have hz : w.heap.size + 1 < w1.heap.size := by have := hb1.size; simp at this; omega
      go_wp2_with fail
      refine (may_any _ _ _).mono ?_
      rintro e w2 ⟨rfl, hb2⟩
      go_wp2_with fail
      go_ret
      exact ⟨ret_bool HF.out.symm, (below2 hb1).trans (hb2.mono (by omega))⟩
  · have ha' : Num.mayB ad [an] = false := by simpa using ha
    have HF : Hid ((Num.mayB ad [an] && (Num.mayB bd [bn] && decide (an * bd < bn * ad))) = false) := by show _ = _; rw [ha']; simp
    clear ha
    go_enter Try.func20, Try.ntmps20
    go_wp2_with fail
    refine (may_any _ _ _).mono ?_
    rintro e w1 ⟨rfl, hb1⟩
    go_wp2_with fail
    go_ret
    exact ⟨ret_bool HF.out.symm, below2 hb1⟩

end Go.Proofs.Ytjpliphobnflpaa
