/- The walk of FormTells: for every program and point it answers true. -/
import Derived.Test.YtipcbhodlgoflaaRef2A
namespace Go.Proofs.Ytipcbhodlgoflaa.formTells
open Go.RowKit

set_option maxHeartbeats 1600000 in
theorem walk (ca : Option Addr) (cl cc : Nat) (ra : Option Addr) (rl rc : Nat) (p : Num.Lp) (w : World) (hc : Ints w ca cl p.costs) (hcl : cl ≤ 9223372036854775807) (hr : RowsAt w ra rl p.rows) (hrl : rl ≤ 9223372036854775807)
    (xa : Option Addr) (xl xc : Nat) (x : List Int) (d : Int) (hx : Ints w xa xl x) (hxl : xl ≤ 9223372036854775807) :
    Calls Try.prog 5 #[.agg #[.slice ca cl cc, .slice ra rl rc], .agg #[.slice xa xl xc, .int .i64 d]] w fun e w' => e = .returned (.bool true) ∧ Below w.heap.size w w' := by
  have HC : Hid (Ints w ca cl p.costs) := hc
  have HR : Hid (RowsAt w ra rl p.rows) := hr
  have HX : Hid (Ints w xa xl x) := hx
  have HCL : Hid (cl = p.costs.length) := hc.1
  have HXL : Hid (xl = x.length) := hx.1
  clear hc hr hx
  obtain ⟨⟨u, v, z⟩, hw⟩ : ∃ t, Num.worth p x d = t := ⟨_, rfl⟩
  have HWT : Hid (Num.worth p x d = (u, v, z)) := hw
  clear hw
  go_enter Try.func5, Try.ntmps5
  go_wp2_with fail
  have hL0 := box2_refl w (.slice ca cl cc) (.slice ra rl rc) (.slice xa xl xc) (.int .i64 d) 40 29
  obtain ⟨⟨c0, c1⟩, ⟨c2, c3⟩, hz, hB⟩ := box2 hL0
  refine (lmay_any _ _ _ _ _ _ p _ (Ints.below HC.out hB (Nat.le_refl _)) hcl (RowsAt.below HR.out hB (Nat.le_refl _)) hrl).mono ?_
  rintro e w1 ⟨rfl, hb1⟩
  clear c0 c1 c2 c3 hz hB
  have hL1 := bstep hL0 hb1
  obtain ⟨⟨c0, c1⟩, ⟨c2, c3⟩, hz, hB⟩ := box2 hL1
  go_wp2_with fail
  refine (goes_any _ _ _ _ _ _ p _ (Ints.below HC.out hB (Nat.le_refl _)) hcl (RowsAt.below HR.out hB (Nat.le_refl _)) hrl _ _ _ x d (Ints.below HX.out hB (Nat.le_refl _)) hxl).mono ?_
  rintro e w2 ⟨rfl, hb2⟩
  clear c0 c1 c2 c3 hz hB
  have hL2 := bstep hL1 hb2
  obtain ⟨⟨c0, c1⟩, ⟨c2, c3⟩, hz, hB⟩ := box2 hL2
  go_wp2_with fail
  refine (worth_any _ _ _ _ _ _ p _ (Ints.below HC.out hB (Nat.le_refl _)) hcl (RowsAt.below HR.out hB (Nat.le_refl _)) hrl _ _ _ x d (Ints.below HX.out hB (Nat.le_refl _)) hxl u v z HWT.out).mono ?_
  rintro e w3 ⟨rfl, hb3⟩
  clear c0 c1 c2 c3 hz hB
  have hL3 := bstep hL2 hb3
  have HL3 : Hid _ := hL3
  obtain ⟨⟨c0, c1⟩, ⟨c2, c3⟩, hz, hB⟩ := box2 hL3
  have hz0 : w.heap.size < w3.heap.size := by omega
  go_wp2_with fail
  have hL4 := bstep hL3 (balloc w3 (.cells #[.int .i64 u, .int .i64 v] 24))
  have hB' := (box2 hL4).2.2.2
  refine (r2may_any _ _ _ _ _ _ p _ (Ints.below HC.out hB' (Nat.le_refl _)) hcl (RowsAt.below HR.out hB' (Nat.le_refl _)) hrl).mono ?_
  rintro e w4 ⟨rfl, hb4⟩
  clear c0 c1 c2 c3 hz hB hB'
  have hL5 := bstep hL4 hb4
  obtain ⟨⟨c0, c1⟩, ⟨c2, c3⟩, hz, hB⟩ := box2 hL5
  have hmm : (p.may == p.may) = true := by simp
  have hgg : (p.goes x d == p.goes x d) = true := by simp
  go_wp2_with fail
  refine (r2goes_any _ _ _ _ _ _ p _ (Ints.below HC.out hB (Nat.le_refl _)) hcl (RowsAt.below HR.out hB (Nat.le_refl _)) hrl _ _ _ x d (Ints.below HX.out hB (Nat.le_refl _)) hxl).mono ?_
  rintro e w5 ⟨rfl, hb5⟩
  clear c0 c1 c2 c3 hz hB
  have hL6 := bstep hL5 hb5
  obtain ⟨⟨c0, c1⟩, ⟨c2, c3⟩, hz, hB⟩ := box2 hL6
  go_wp2_with fail
  refine (r2fits_any _ _ _ _ _ _ p _ (Ints.below HC.out hB (Nat.le_refl _)) hcl (RowsAt.below HR.out hB (Nat.le_refl _)) hrl _ _ _ x d (Ints.below HX.out hB (Nat.le_refl _)) hxl).mono ?_
  rintro e w6 ⟨rfl, hb6⟩
  clear c0 c1 c2 c3 hz hB
  have hL7 := bstep hL6 hb6
  obtain ⟨⟨c0, c1⟩, ⟨c2, c3⟩, hz, hB⟩ := box2 hL7
  have hF := bstep hb4 (bstep (Below.refl _ _) (bstep hb5 hb6))
  have f0 : w6.cell? ⟨w3.heap.size, 0, none⟩ = some (.int .i64 u) := by rw [hF.cell (by simp)]; exact (cell_new2 rfl _ _ _).1
  have f1 : w6.cell? ⟨w3.heap.size, 1, none⟩ = some (.int .i64 v) := by rw [hF.cell (by simp)]; exact (cell_new2 rfl _ _ _).2
  have hz3 : w3.heap.size < w6.heap.size := by have := hF.size; simp at this; omega
  clear hF hL0 hL1 hL2 hL3 hL4 hL5 hL6 hb1 hb2 hb3 hb4 hb5 hb6
  cases h1 : p.fits x d with
  | false =>
    have hv := HWT.out
    unfold Num.worth at hv
    rw [if_neg (by simp [h1])] at hv
    simp only [Prod.mk.injEq] at hv
    obtain ⟨rfl, rfl, rfl⟩ := hv
    go_wp2_with fail
    go_ret
    exact ⟨rfl, hB⟩
  | true =>
    have hv := HWT.out
    unfold Num.worth at hv
    rw [if_pos h1] at hv
    obtain ⟨hm, hxc, hd, hw⟩ := p.fits_of x d h1
    have hc4 := (p.may_of hm).1
    have HWC : Hid (∀ j : Nat, -400 ≤ p.costs[j]?.getD 0 ∧ p.costs[j]?.getD 0 ≤ 400) := Num.withinB_iff _ _ (p.may_of hm).2.1 (by omega)
    have HW : Hid (∀ j : Nat, -1073741824 ≤ x[j]?.getD 0 ∧ x[j]?.getD 0 ≤ 1073741824) := Num.withinB_iff _ _ hw (by omega)
    have hxe : xl = cl := by have := HCL.out; have := HXL.out; omega
    have hc5 : cl ≤ 4 := by have := HCL.out; omega
    subst hxe
    have HE : Hid (Num.mk (Num.dotN p.costs x xl) d = (u, v, z)) := by have := HXL.out; rw [← this] at hv; exact hv
    clear hm hw hc4 hxc hv
    go_wp2_with fail
    have HLF : Hid (∀ w', Below w6.heap.size w6 w' → Below w.heap.size w w') := fun w' h => bstep hB h
    have q0 : ∀ w', Below w6.heap.size w6 w' → w'.cell? ⟨w.heap.size, 0, none⟩ = some (.slice ca xl cc) := fun w' h => by rw [h.cell (by dsimp only; omega)]; exact c0
    have q2 : ∀ w', Below w6.heap.size w6 w' → w'.cell? ⟨w.heap.size + 1, 0, none⟩ = some (.slice xa xl xc) := fun w' h => by rw [h.cell (by dsimp only; omega)]; exact c2
    have q3 : ∀ w', Below w6.heap.size w6 w' → w'.cell? ⟨w.heap.size + 1, 1, none⟩ = some (.int .i64 d) := fun w' h => by rw [h.cell (by dsimp only; omega)]; exact c3
    have HQ0 : Hid (∀ w', Below w6.heap.size w6 w' → w'.cell? ⟨w3.heap.size, 0, none⟩ = some (.int .i64 u)) := fun w' h => by rw [h.cell (by dsimp only; omega)]; exact f0
    have HQ1 : Hid (∀ w', Below w6.heap.size w6 w' → w'.cell? ⟨w3.heap.size, 1, none⟩ = some (.int .i64 v)) := fun w' h => by rw [h.cell (by dsimp only; omega)]; exact f1
    have KT : Hid (∀ w', Below w6.heap.size w6 w' → Calls Try.prog 29 #[.slice ca xl cc, .slice xa xl xc] w' fun e w'' => e = .returned (.int .i64 (Num.dotN p.costs x xl)) ∧ Below w6.heap.size w6 w'' ∧ Below w'.heap.size w' w'') := by
      intro w' h
      have hB := HLF.out w' h
      exact (below_of_drew (dot_any ca xa xl cc xl xc p.costs x w' 400 1073741824 (Ints.below HC.out hB (Nat.le_refl _)) (Ints.below HX.out hB (Nat.le_refl _)) (Nat.le_refl _) (by omega) HWC.out HW.out (by omega))).mono fun _ _ k => ⟨k.1, bstep h k.2, k.2⟩
    have KM : Hid (∀ w', Below w6.heap.size w6 w' → Calls Try.prog 15 #[.int .i64 (Num.dotN p.costs x xl), .int .i64 d] w' fun e w'' => e = .returned (.tuple #[.agg #[.int .i64 u, .int .i64 v], .int .i64 z]) ∧ Below w6.heap.size w6 w'' ∧ Below w'.heap.size w' w'') := by
      intro w' h
      exact (rmake_any _ _ w' _ _ _ HE.out).mono fun _ _ k => ⟨k.1, bstep h k.2, k.2⟩
    clear c0 c1 c2 c3 f0 f1
    go_region_held3 (fun w' => Below w6.heap.size w6 w') (first | assumption | exact (Below.refl _ _).drew | exact ((Below.refl _ _).alloc (Nat.le_refl _) _).drew | (refine Below.alloc ?_ ?_ _ <;> first | assumption | (apply Below.size; assumption)) | (refine Below.setCell (Below.setCell ?_ ?_ _) ?_ _ <;> first | assumption | exact Nat.le_refl _ | (apply Below.size; assumption)))
      (first | (go_at_call 29; refine (KT.out _ ?_).mono ?_; assumption; rintro e v1 ⟨rfl, hb1, hk1⟩; (try (have hz2 := kept2d hk1)))
             | (go_at_call 15; refine (KM.out _ ?_).mono ?_; assumption; rintro e v2 ⟨rfl, hb2, hk2⟩; (first | (have hz2 := carry2 hk2 hz2) | (have hz2 := kept2 hk2) | (have hz2 := kept2d hk2) | skip)))
    · rename_i hfin
      have p0 := HQ0.out v2 hb2
      have p1 := HQ1.out v2 hb2
      have hlt : w3.heap.size < v2.heap.size := by have := hb2.size; omega
      clear q0 q2 q3 KT KM
      go_wp2_with fail
      go_ret
      exact ⟨rfl, HLF.out _ hfin⟩
    · rename_i hfin
      have p0 := HQ0.out v2 hb2
      have p1 := HQ1.out v2 hb2
      have hne : ¬ w3.heap.size = v1.heap.size := by have := hb1.size; omega
      clear q0 q2 q3 KT KM
      obtain ⟨⟨z0, z1⟩, _, _⟩ := hz2
      go_wp2_with fail
      go_ret
      exact ⟨rfl, HLF.out _ hfin⟩
    · rename_i hfin
      have p0 := HQ0.out v2 hb2
      have p1 := HQ1.out v2 hb2
      have hne : ¬ w3.heap.size = w6.heap.size := by omega
      clear q0 q2 q3 KT KM
      obtain ⟨⟨z0, z1⟩, _, _⟩ := hz2
      go_wp2_with fail
      go_ret
      exact ⟨rfl, HLF.out _ hfin⟩

end Go.Proofs.Ytipcbhodlgoflaa.formTells
