/- What frac.mayParts, frac.May and frac.Less do. -/
import Derived.Test.YtjpliphobnflpaaFracW3
import Derived.Test.YtjpliphobnflpaaNum2
namespace Go.Proofs.Ytjpliphobnflpaa
open Go.RowKit

set_option maxHeartbeats 400000 in
theorem mayParts_any (d : Int) (a : Option Addr) (len cap : Nat) (l : List Int) (w : World) (hi : Ints w a len l) (hlen : len ≤ 9223372036854775807) :
    Calls Try.prog 46 #[.int .i64 d, .slice a len cap] w fun e w' => e = .returned (.bool (Num.mayB d l)) ∧ Below w.heap.size w w' := by
  by_cases h0 : 1 ≤ d
  · by_cases h1 : Num.withinB 1073741824 [d] = false
    · have HF : Hid _ := Num.mayB_d d l h1
      go_enter Try.func46, Try.ntmps46
      go_wp2_with fail
      refine (within_any _ _ _ _ [d] _ (Ints.newAt (by simp) _ _) (by omega) (by omega) (by omega)).mono ?_
      rintro e w' ⟨rfl, rfl⟩
      go_wp2_with fail
      go_ret
      exact ⟨ret_bool HF.out.symm, (Below.refl _ _).alloc (Nat.le_refl _) _⟩
    · have h1' : Num.withinB 1073741824 [d] = true := by simpa using h1
      by_cases h2 : Num.withinB 1073741824 l = false
      · have HF : Hid _ := Num.mayB_l d l h2
        clear h1
        go_enter Try.func46, Try.ntmps46
        go_wp2_with fail
        refine (within_any _ _ _ _ [d] _ (Ints.newAt (by simp) _ _) (by omega) (by omega) (by omega)).mono ?_
        rintro e w' ⟨rfl, rfl⟩
        go_wp2_with fail
        refine (within_any _ _ _ _ l _ (hi.below (B := w.heap.size) ((Below.refl _ _).alloc (Nat.le_refl _) _) (Nat.le_refl _)) (by omega) (by omega) (by omega)).mono ?_
        rintro e w' ⟨rfl, rfl⟩
        go_wp2_with fail
        go_ret
        exact ⟨ret_bool HF.out.symm, (Below.refl _ _).alloc (Nat.le_refl _) _⟩
      · have h2' : Num.withinB 1073741824 l = true := by simpa using h2
        have HF : Hid _ := Num.mayB_g d l h0 h1' h2'
        have hd := Num.withinB_iff _ _ h1' (by omega) 0
        simp only [List.length_singleton, Nat.lt_one_iff, getElem?_pos, List.getElem_cons_zero, Option.getD_some] at hd
        have hl := Num.withinB_iff _ _ h2' (by omega)
        have HLB : Hid _ := hl
        clear h1 h2 hl
        go_enter Try.func46, Try.ntmps46
        go_wp2_with fail
        refine (within_any _ _ _ _ [d] _ (Ints.newAt (by simp) _ _) (by omega) (by omega) (by omega)).mono ?_
        rintro e w' ⟨rfl, rfl⟩
        go_wp2_with fail
        refine (within_any _ _ _ _ l _ (hi.below (B := w.heap.size) ((Below.refl _ _).alloc (Nat.le_refl _) _) (Nat.le_refl _)) (by omega) (by omega) (by omega)).mono ?_
        rintro e w' ⟨rfl, rfl⟩
        go_wp2_with fail
        refine (divisor_any d _ _ _ l _ (hi.below (B := w.heap.size) ((Below.refl _ _).alloc (Nat.le_refl _) _) (Nat.le_refl _)) (by omega) (by omega) (fun j => by have := HLB.out j; omega)).mono ?_
        rintro e w' ⟨rfl, n, rfl⟩
        go_wp2_with fail
        go_ret
        exact ⟨ret_bool HF.out.symm, bdrewN ((Below.refl _ _).alloc (Nat.le_refl _) _) _⟩
  · have HF : Hid _ := Num.mayB_lo d l h0
    have h0' : decide (1 ≤ d) = false := by simpa using h0
    go_enter Try.func46, Try.ntmps46
    go_wp2_with fail
    go_ret
    exact ⟨ret_bool HF.out.symm, Below.refl _ _⟩

set_option maxHeartbeats 400000 in
theorem may_any (n d : Int) (w : World) :
    Calls Try.prog 18 #[.agg #[.int .i64 n, .int .i64 d]] w fun e w' => e = .returned (.bool (Num.mayB d [n])) ∧ Below w.heap.size w w' := by
  go_enter Try.func18, Try.ntmps18
  go_wp2_with fail
  refine (mayParts_any d _ _ _ [n] _ (Ints.newAt (by simp) _ _) (by omega)).mono ?_
  rintro e w' ⟨rfl, hb⟩
  go_wp2_with fail
  go_ret
  exact ⟨rfl, below2 hb⟩

/-- frac.Make: for all numbers. -/
theorem make_any (n d : Int) (w : World) (x y z : Int) (h : Num.mk n d = (x, y, z)) :
    Calls Try.prog 13 #[.int .i64 n, .int .i64 d] w fun e w' => e = .returned (.tuple #[.agg #[.int .i64 x, .int .i64 y], .int .i64 z]) ∧ Below w.heap.size w w' := by
  unfold Num.mk at h
  by_cases h0 : (Num.low d [n]).2 = 0
  · rw [if_pos h0] at h
    simp only [Prod.mk.injEq] at h
    obtain ⟨rfl, rfl, rfl⟩ := h
    exact make_ok n d w h0
  · rw [if_neg h0] at h
    simp only [Prod.mk.injEq] at h
    obtain ⟨rfl, rfl, rfl⟩ := h
    exact make_bad n d w (by simpa using h0)

end Go.Proofs.Ytjpliphobnflpaa
