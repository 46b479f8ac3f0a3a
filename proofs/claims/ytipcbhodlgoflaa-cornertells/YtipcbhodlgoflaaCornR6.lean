/- What the document's Same of corners does. -/
import Derived.Test.YtipcbhodlgoflaaCornL
namespace Go.Proofs.Ytipcbhodlgoflaa
open Go.RowKit

/-- Two boxes of six cells each, in every later world. -/
theorem box66 {w w1 : World} {a0 a1 a2 a3 a4 a5 b0 b1 b2 b3 b4 b5 : Value} {t u : TypeId} (hb : Below ((w.alloc (.cells #[a0, a1, a2, a3, a4, a5] t)).alloc (.cells #[b0, b1, b2, b3, b4, b5] u)).heap.size ((w.alloc (.cells #[a0, a1, a2, a3, a4, a5] t)).alloc (.cells #[b0, b1, b2, b3, b4, b5] u)) w1) :
    (w1.cell? ⟨w.heap.size, 0, none⟩ = some a0 ∧ w1.cell? ⟨w.heap.size, 1, none⟩ = some a1 ∧ w1.cell? ⟨w.heap.size, 2, none⟩ = some a2 ∧ w1.cell? ⟨w.heap.size, 3, none⟩ = some a3 ∧ w1.cell? ⟨w.heap.size, 4, none⟩ = some a4 ∧ w1.cell? ⟨w.heap.size, 5, none⟩ = some a5) ∧
      (w1.cell? ⟨w.heap.size + 1, 0, none⟩ = some b0 ∧ w1.cell? ⟨w.heap.size + 1, 1, none⟩ = some b1 ∧ w1.cell? ⟨w.heap.size + 1, 2, none⟩ = some b2 ∧ w1.cell? ⟨w.heap.size + 1, 3, none⟩ = some b3 ∧ w1.cell? ⟨w.heap.size + 1, 4, none⟩ = some b4 ∧ w1.cell? ⟨w.heap.size + 1, 5, none⟩ = some b5) ∧
      w.heap.size + 1 < w1.heap.size ∧ Below w.heap.size w w1 := by
  refine ⟨⟨?_, ?_, ?_, ?_, ?_, ?_⟩, ⟨?_, ?_, ?_, ?_, ?_, ?_⟩, ?_, ?_⟩
  · rw [hb.cell (by simp; omega)]; go_simp
  · rw [hb.cell (by simp; omega)]; go_simp
  · rw [hb.cell (by simp; omega)]; go_simp
  · rw [hb.cell (by simp; omega)]; go_simp
  · rw [hb.cell (by simp; omega)]; go_simp
  · rw [hb.cell (by simp; omega)]; go_simp
  · rw [hb.cell (by simp)]; go_simp
  · rw [hb.cell (by simp)]; go_simp
  · rw [hb.cell (by simp)]; go_simp
  · rw [hb.cell (by simp)]; go_simp
  · rw [hb.cell (by simp)]; go_simp
  · rw [hb.cell (by simp)]; go_simp
  · have := hb.size; simp at this; omega
  · exact (((Below.refl _ _).alloc (Nat.le_refl _) _).alloc (by simp) _).trans (hb.mono (by simp; omega))

set_option maxHeartbeats 800000 in
theorem same3_any (xa ya ga xb yb gb : Option Addr) (xl xc yl yc gl gc xl' xc' yl' yc' gl' gc' : Nat) (mx my mg mx' my' mg' : List Int) (dx dy dg dx' dy' dg' : Int) (w : World)
    (h1 : Ints w xa xl mx) (h2 : Ints w ya yl my) (h3 : Ints w ga gl mg) (k1 : Ints w xb xl' mx') (k2 : Ints w yb yl' my') (k3 : Ints w gb gl' mg') (hl : xl ≤ 8 ∧ yl ≤ 8 ∧ gl ≤ 8) (hl' : xl' ≤ 8 ∧ yl' ≤ 8 ∧ gl' ≤ 8) :
    Calls Try.prog 31 #[.agg #[.slice xa xl xc, .int .i64 dx, .slice ya yl yc, .int .i64 dy, .slice ga gl gc, .int .i64 dg], .agg #[.slice xb xl' xc', .int .i64 dx', .slice yb yl' yc', .int .i64 dy', .slice gb gl' gc', .int .i64 dg']] w fun e w' =>
      e = .returned (.bool ((dx == dx' && mx == mx') && (dy == dy' && my == my') && (dg == dg' && mg == mg'))) ∧ Below w.heap.size w w' := by
  have H1 : Hid (Ints w xa xl mx) := h1
  have H2 : Hid (Ints w ya yl my) := h2
  have H3 : Hid (Ints w ga gl mg) := h3
  have K1 : Hid (Ints w xb xl' mx') := k1
  have K2 : Hid (Ints w yb yl' my') := k2
  have K3 : Hid (Ints w gb gl' mg') := k3
  obtain ⟨hl1, hl2, hl3⟩ := hl
  obtain ⟨hk1, hk2, hk3⟩ := hl'
  clear h1 h2 h3 k1 k2 k3
  have hb0 := Below.refl ((w.alloc (.cells #[.slice xa xl xc, .int .i64 dx, .slice ya yl yc, .int .i64 dy, .slice ga gl gc, .int .i64 dg] 47)).alloc (.cells #[.slice xb xl' xc', .int .i64 dx', .slice yb yl' yc', .int .i64 dy', .slice gb gl' gc', .int .i64 dg'] 47)).heap.size ((w.alloc (.cells #[.slice xa xl xc, .int .i64 dx, .slice ya yl yc, .int .i64 dy, .slice ga gl gc, .int .i64 dg] 47)).alloc (.cells #[.slice xb xl' xc', .int .i64 dx', .slice yb yl' yc', .int .i64 dy', .slice gb gl' gc', .int .i64 dg'] 47))
  have hB0 := (box66 hb0).2.2.2
  clear hb0
  cases e1 : (dx == dx' && mx == mx') with
  | false =>
    go_enter Try.func31, Try.ntmps31
    go_wp2_with fail
    refine (same_any _ _ _ _ _ _ mx mx' dx dx' _ (Ints.below H1.out hB0 (Nat.le_refl _)) (Ints.below K1.out hB0 (Nat.le_refl _)) (by omega) (by omega)).mono ?_
    rintro e w1 ⟨rfl, hb1⟩
    rw [e1]
    go_wp2_with fail
    go_ret
    exact ⟨rfl, (box66 hb1).2.2.2⟩
  | true =>
    cases e2 : (dy == dy' && my == my') with
    | false =>
      go_enter Try.func31, Try.ntmps31
      go_wp2_with fail
      refine (same_any _ _ _ _ _ _ mx mx' dx dx' _ (Ints.below H1.out hB0 (Nat.le_refl _)) (Ints.below K1.out hB0 (Nat.le_refl _)) (by omega) (by omega)).mono ?_
      rintro e w1 ⟨rfl, hb1⟩
      rw [e1]
      obtain ⟨⟨a0, a1, a2, a3, a4, a5⟩, ⟨b0, b1, b2, b3, b4, b5⟩, hz, hB⟩ := box66 hb1
      go_wp2_with fail
      refine (same_any _ _ _ _ _ _ my my' dy dy' _ (Ints.below H2.out hB (Nat.le_refl _)) (Ints.below K2.out hB (Nat.le_refl _)) (by omega) (by omega)).mono ?_
      rintro e w2 ⟨rfl, hb2⟩
      rw [e2]
      go_wp2_with fail
      go_ret
      exact ⟨rfl, bstep hB hb2⟩
    | true =>
      go_enter Try.func31, Try.ntmps31
      go_wp2_with fail
      refine (same_any _ _ _ _ _ _ mx mx' dx dx' _ (Ints.below H1.out hB0 (Nat.le_refl _)) (Ints.below K1.out hB0 (Nat.le_refl _)) (by omega) (by omega)).mono ?_
      rintro e w1 ⟨rfl, hb1⟩
      rw [e1]
      obtain ⟨⟨a0, a1, a2, a3, a4, a5⟩, ⟨b0, b1, b2, b3, b4, b5⟩, hz, hB⟩ := box66 hb1
      go_wp2_with fail
      refine (same_any _ _ _ _ _ _ my my' dy dy' _ (Ints.below H2.out hB (Nat.le_refl _)) (Ints.below K2.out hB (Nat.le_refl _)) (by omega) (by omega)).mono ?_
      rintro e w2 ⟨rfl, hb2⟩
      rw [e2]
      clear a0 a1 a2 a3 a4 a5 b0 b1 b2 b3 b4 b5
      obtain ⟨⟨a0, a1, a2, a3, a4, a5⟩, ⟨b0, b1, b2, b3, b4, b5⟩, hz2, hB2⟩ := box66 (bstep hb1 hb2)
      go_wp2_with fail
      refine (same_any _ _ _ _ _ _ mg mg' dg dg' _ (Ints.below H3.out hB2 (Nat.le_refl _)) (Ints.below K3.out hB2 (Nat.le_refl _)) (by omega) (by omega)).mono ?_
      rintro e w3 ⟨rfl, hb3⟩
      go_wp2_with fail
      go_ret
      exact ⟨by simp, bstep hB2 hb3⟩

end Go.Proofs.Ytipcbhodlgoflaa
