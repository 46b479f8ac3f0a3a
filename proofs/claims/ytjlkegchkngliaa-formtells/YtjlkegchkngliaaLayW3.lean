/- What frac.MayPoint, layout.fits, layout.Goes and layout.Worth do. -/
import Derived.Test.YtjlkegchkngliaaLay1
import Derived.Deep.RegionHeld3
namespace Go.Proofs.Ytjlkegchkngliaa
open Go.RowKit

/-- Two boxes of two cells each, in every later world. -/
theorem box2 {w w1 : World} {a b c d : Value} {t u : TypeId} (hb : Below ((w.alloc (.cells #[a, b] t)).alloc (.cells #[c, d] u)).heap.size ((w.alloc (.cells #[a, b] t)).alloc (.cells #[c, d] u)) w1) :
    (w1.cell? ⟨w.heap.size, 0, none⟩ = some a ∧ w1.cell? ⟨w.heap.size, 1, none⟩ = some b) ∧ (w1.cell? ⟨w.heap.size + 1, 0, none⟩ = some c ∧ w1.cell? ⟨w.heap.size + 1, 1, none⟩ = some d) ∧ w.heap.size + 1 < w1.heap.size ∧ Below w.heap.size w w1 := by
  refine ⟨⟨?_, ?_⟩, ⟨?_, ?_⟩, ?_, ?_⟩
  · rw [hb.cell (by simp; omega)]; go_simp
  · rw [hb.cell (by simp; omega)]; go_simp
  · rw [hb.cell (by simp)]; go_simp
  · rw [hb.cell (by simp)]; go_simp
  · have := hb.size; simp at this; omega
  · exact (((Below.refl _ _).alloc (Nat.le_refl _) _).alloc (by simp) _).trans (hb.mono (by simp; omega))

theorem box2_refl (w : World) (a b c d : Value) (t u : TypeId) : Below ((w.alloc (.cells #[a, b] t)).alloc (.cells #[c, d] u)).heap.size ((w.alloc (.cells #[a, b] t)).alloc (.cells #[c, d] u)) ((w.alloc (.cells #[a, b] t)).alloc (.cells #[c, d] u)) := Below.refl _ _

theorem bstep {V w1 w2 : World} (h : Below V.heap.size V w1) (k : Below w1.heap.size w1 w2) : Below V.heap.size V w2 := h.trans (k.mono h.size)

set_option maxHeartbeats 400000 in
theorem fmayPoint_any (d : Int) (a : Option Addr) (len cap : Nat) (l : List Int) (w : World) (hi : Ints w a len l) (hlen : len ≤ 9223372036854775807) :
    Calls Try.prog 86 #[.agg #[.slice a len cap, .int .i64 d]] w fun e w' => e = .returned (.bool (Num.mayPB d l)) ∧ Below w.heap.size w w' := by
  have HI : Hid (Ints w a len l) := hi
  have HL : Hid (len = l.length) := hi.1
  clear hi
  by_cases h : (len : Int) ≤ 8
  · have HF : Hid (Num.mayPB d l = Num.mayB d l) := by
      have : l.length ≤ 8 := by have := HL.out; omega
      show Num.mayPB d l = _
      unfold Num.mayPB; simp [this]
    go_enter Try.func86, Try.ntmps86
    go_wp2_with fail
    refine (mayParts_any d _ _ _ l _ (Ints.below HI.out (balloc _ _) (Nat.le_refl _)) (by omega)).mono ?_
    rintro e w' ⟨rfl, hb⟩
    go_wp2_with fail
    go_ret
    exact ⟨ret_bool HF.out.symm, binto hb⟩
  · have HF : Hid (Num.mayPB d l = false) := by
      have : ¬ l.length ≤ 8 := by have := HL.out; omega
      show Num.mayPB d l = _
      unfold Num.mayPB; simp [this]
    have h' : decide ((len : Int) ≤ 8) = false := by simpa using h
    go_enter Try.func86, Try.ntmps86
    go_wp2_with fail
    go_ret
    exact ⟨ret_bool HF.out.symm, balloc _ _⟩

set_option maxHeartbeats 400000 in
theorem fits_any (ca : Option Addr) (cl cc : Nat) (ra : Option Addr) (rl rc : Nat) (p : Num.Lp) (w : World) (hc : Ints w ca cl p.costs) (hcl : cl ≤ 9223372036854775807) (hr : RowsAt w ra rl p.rows) (hrl : rl ≤ 9223372036854775807)
    (xa : Option Addr) (xl xc : Nat) (x : List Int) (d : Int) (hx : Ints w xa xl x) (hxl : xl ≤ 9223372036854775807) :
    Calls Try.prog 50 #[.agg #[.slice ca cl cc, .slice ra rl rc], .agg #[.slice xa xl xc, .int .i64 d]] w fun e w' => e = .returned (.bool (p.fits x d)) ∧ Below w.heap.size w w' := by
  have HC : Hid (Ints w ca cl p.costs) := hc
  have HR : Hid (RowsAt w ra rl p.rows) := hr
  have HX : Hid (Ints w xa xl x) := hx
  have HCL : Hid (cl = p.costs.length) := hc.1
  have HXL : Hid (xl = x.length) := hx.1
  clear hc hr hx
  have HV := box2 (box2_refl w (.slice ca cl cc) (.slice ra rl rc) (.slice xa xl xc) (.int .i64 d) 40 29)
  have HB : Hid _ := HV.2.2.2
  clear HV
  cases h1 : p.may with
  | false =>
    have HF : Hid (p.fits x d = false) := by show p.fits x d = _; unfold Num.Lp.fits; rw [h1]; rfl
    go_enter Try.func50, Try.ntmps50
    go_wp2_with fail
    refine (lmay_any _ _ _ _ _ _ p _ (Ints.below HC.out HB.out (Nat.le_refl _)) hcl (RowsAt.below HR.out HB.out (Nat.le_refl _)) hrl).mono ?_
    rintro e w1 ⟨rfl, hb1⟩
    rw [h1]
    go_wp2_with fail
    go_ret
    exact ⟨ret_bool HF.out.symm, (box2 hb1).2.2.2⟩
  | true =>
    by_cases h2 : xl = cl
    · have HF : Hid (p.fits x d = Num.mayPB d x) := by
        have : x.length = p.costs.length := by have := HCL.out; have := HXL.out; omega
        show p.fits x d = _; unfold Num.Lp.fits; rw [h1, this]; simp
      subst h2
      go_enter Try.func50, Try.ntmps50
      go_wp2_with fail
      refine (lmay_any _ _ _ _ _ _ p _ (Ints.below HC.out HB.out (Nat.le_refl _)) hcl (RowsAt.below HR.out HB.out (Nat.le_refl _)) hrl).mono ?_
      rintro e w1 ⟨rfl, hb1⟩
      rw [h1]
      obtain ⟨⟨c0, c1⟩, ⟨c2, c3⟩, hz, hB⟩ := box2 hb1
      go_wp2_with fail
      refine (fmayPoint_any d _ _ _ x _ (Ints.below HX.out hB (Nat.le_refl _)) hxl).mono ?_
      rintro e w2 ⟨rfl, hb2⟩
      go_wp2_with fail
      go_ret
      exact ⟨ret_bool HF.out.symm, bstep hB hb2⟩
    · have HF : Hid (p.fits x d = false) := by
        have : (x.length == p.costs.length) = false := by have := HCL.out; have := HXL.out; simp; omega
        show p.fits x d = _; unfold Num.Lp.fits; rw [h1, this]; simp
      have h2' : ((xl : Int) == (cl : Int)) = false := by simp; omega
      go_enter Try.func50, Try.ntmps50
      go_wp2_with fail
      refine (lmay_any _ _ _ _ _ _ p _ (Ints.below HC.out HB.out (Nat.le_refl _)) hcl (RowsAt.below HR.out HB.out (Nat.le_refl _)) hrl).mono ?_
      rintro e w1 ⟨rfl, hb1⟩
      rw [h1]
      obtain ⟨⟨c0, c1⟩, ⟨c2, c3⟩, hz, hB⟩ := box2 hb1
      go_wp2_with fail
      go_ret
      exact ⟨ret_bool HF.out.symm, hB⟩

end Go.Proofs.Ytjlkegchkngliaa
