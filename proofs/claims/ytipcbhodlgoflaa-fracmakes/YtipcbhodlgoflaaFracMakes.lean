/- For all 32-bit numbers: the fraction that frac.Make answers of them is the same of twice both and of both below 0, and it is theirs (or the error is the same): the statement FracMakes, with no condition. -/
import Derived.Test.YtipcbhodlgoflaaBaseA
import Derived.WalkKit
import Derived.ProofKit
import Derived.OpenShut
import Derived.ShutString
import Derived.ChangeOld
import Derived.Below
namespace Go.Proofs.Ytipcbhodlgoflaa.fracMakes
open Go.ChangeShapes Go.WideShapes Go.ChangeAt Go.RowKit
set_option linter.unusedVariables false      -- a walk need not use every 'w<i>' (that an integer argument fits its kind)

theorem own : ownKnob Try.prog.godebug = none := by kernel_rfl

set_option maxHeartbeats 800000 in
theorem walk (a0 : Int) (a1 : Int) (w0 : (Lit.int .i32 a0).wf = true) (w1 : (Lit.int .i32 a1).wf = true) (w : World) :
    Calls Try.prog 4 #[.int .i32 a0, .int .i32 a1] w fun e w' => e = .returned (.bool true) ∧ Below w.heap.size w w' := by
  have b0 := bounds_i32 w0
  have b1 := bounds_i32 w1
  by_cases h0 : a1 = 0
  · subst h0
    go_enter Try.func4, Try.ntmps4
    go_wp2_with fail
    refine (make_any _ _ _ _ _ _ (Num.mk_zero _)).mono ?_
    rintro e w1 ⟨rfl, hb1⟩
    go_wp2_with fail
    refine (make_any _ _ _ _ _ _ (Num.mk_zero _)).mono ?_
    rintro e w2 ⟨rfl, hb2⟩
    go_wp2_with fail
    refine (make_any _ _ _ _ _ _ (Num.mk_zero _)).mono ?_
    rintro e w3 ⟨rfl, hb3⟩
    go_wp2_with fail
    go_ret
    exact ⟨rfl, (bnext (bnext hb1 hb2) hb3).alloc (bnext (bnext hb1 hb2) hb3).size _⟩
  have h0' : (a1 == 0) = false := by simpa using h0
  have m2 := Num.mk_mul 2 a1 a0 (by omega) h0 (by omega) (by omega) (by omega) (by omega)
  have m3 := Num.mk_mul (-1) a1 a0 (by omega) h0 (by omega) (by omega) (by omega) (by omega)
  rw [Int.neg_one_mul, Int.neg_one_mul] at m3
  by_cases hf : Num.fitsB 1073741824 a1 [a0] = true
  · obtain ⟨x, y, hm, hxy, hy1, hy2, hx1, hx2, hmay⟩ := Num.mk_ok a1 a0 h0 (by omega) (by omega) hf
    rw [hm] at m2 m3
    have M1 : Hid _ := hm
    have M2 : Hid _ := m2
    have M3 : Hid _ := m3
    have HXY : Hid _ := hxy
    clear hf hm m2 m3 hxy
    go_enter Try.func4, Try.ntmps4
    go_wp2_with fail
    refine (make_any _ _ _ _ _ _ M1.out).mono ?_
    rintro e w1 ⟨rfl, hb1⟩
    go_wp2_with fail
    refine (make_any _ _ _ _ _ _ M2.out).mono ?_
    rintro e w2 ⟨rfl, hb2⟩
    go_wp2_with fail
    refine (make_any _ _ _ _ _ _ M3.out).mono ?_
    rintro e w3 ⟨rfl, hb3⟩
    obtain ⟨c10, s1⟩ := bkept2 hb2 hb3 0
    obtain ⟨c11, _⟩ := bkept2 hb2 hb3 1
    obtain ⟨c20, s2⟩ := bkept hb3 0
    obtain ⟨c21, _⟩ := bkept hb3 1
    simp [go_sem] at c10 c11 c20 c21
    have hq : (wrap64 (x * a1) == wrap64 (a0 * y)) = true := by rw [HXY.out]; simp
    go_wp2_with fail
    refine (may_any _ _ _).mono ?_
    rintro e w4 ⟨rfl, hb4⟩
    go_wp2_with fail
    go_ret
    exact ⟨rfl, bnext (bnext (bnext hb1 hb2) hb3) hb4⟩
  · rw [Num.mk_bad a1 a0 h0 (by omega) (by omega) (by simpa using hf)] at m2 m3
    have M1 : Hid _ := Num.mk_bad a1 a0 h0 (by omega) (by omega) (by simpa using hf)
    have M2 : Hid _ := m2
    have M3 : Hid _ := m3
    clear hf m2 m3
    go_enter Try.func4, Try.ntmps4
    go_wp2_with fail
    refine (make_any _ _ _ _ _ _ M1.out).mono ?_
    rintro e w1 ⟨rfl, hb1⟩
    go_wp2_with fail
    refine (make_any _ _ _ _ _ _ M2.out).mono ?_
    rintro e w2 ⟨rfl, hb2⟩
    go_wp2_with fail
    refine (make_any _ _ _ _ _ _ M3.out).mono ?_
    rintro e w3 ⟨rfl, hb3⟩
    go_wp2_with fail
    go_ret
    exact ⟨rfl, (bnext (bnext hb1 hb2) hb3).alloc (bnext (bnext hb1 hb2) hb3).size _⟩

/-! ### THE ROW's STEP: WRITTEN OUT: LEAVE IT -/
set_option maxRecDepth 100000 in
theorem lifted (os : Os) (started : os.Started) (H : Type) (enc : TypeId × Value → H) :
    ReturnsInHanded {} Try.checked os 4 .any (Rows.fracMakesSpec.pre6 enc Try.prog Try.f4 Rows.fracMakesRow.domain false) (Rows.fracMakesSpec.post enc Try.prog Try.f4 false true false false) := by
  refine returnsInHanded_of_change (C := Try.checked) own started (by kernel_rfl) Try.func4
    (ChangeSpec.witness6 (enc := enc) (C := Try.checked) false ⟨#[], #[.int .i32 0, .int .i32 0], []⟩ 8 (by kernel_rfl) (by kernel_rfl) (by kernel_rfl) (by kernel_rfl)) ?_
  intro W base args ds gs before hval0 hW hcnd _
  have hval : ∀ (j : Nat) t v, Try.f4.params[j]? = some t → args[j]? = some v → Value.okWide Try.prog W .any base t v := hval0
  have hW' := hW
  obtain ⟨p, q, hA0, hV, rfl, hfz, hnd⟩ := hW
  have hA : DataW.TrodAll enc Try.prog W 0 (fun _ => true) true Try.f4.params.toList args.toList ds p := hA0
  rw [Try.params4] at hA hval
  obtain ⟨v0, vs0, d0, ds0, p0, q0, hargs, rfl, rfl, h0, r0⟩ := trodAll_cons hA
  obtain ⟨v1, vs1, d1, ds1, p1, q1, rfl, rfl, rfl, h1, r1⟩ := trodAll_cons r0
  obtain ⟨rfl, rfl, rfl⟩ := trodAll_nil r1
  obtain rfl : args = #[v0, v1] := by cases args; simp_all
  obtain ⟨rfl, rfl⟩ := trodVars_none hV
  obtain ⟨a0, rfl, rfl, rfl, w0⟩ := open_int Try.underlying21 (hval 0 21 v0 rfl rfl) h0
  obtain ⟨a1, rfl, rfl, rfl, w1⟩ := open_int Try.underlying21 (hval 1 21 v1 rfl rfl) h1
  clear hA0 hval0
  simp only [List.append_nil] at hW'
  refine (walk a0 a1 w0 w1 W).mono fun e W' ⟨he, hg⟩ => ?_
  subst he
  exact ⟨_, rfl, _, _, _, [], _, [], hW', trodAll_mk1 (shut_bool Try.underlying4 _), (trodAll_cons_mk (shut_int Try.underlying21 w0) (trodAll_cons_mk (shut_int Try.underlying21 w1) trodAll_mk0)), rfl, hg.frame _, fun h => by cases h⟩

theorem over : Rows.fracMakesRow.holds Try.pinned (OpenSpec.ofChange Rows.fracMakesSpec) :=
  OpenClaim.holds_of_wide 4 Try.f4 rfl rfl rfl rfl rfl rfl rfl ⟨rfl, rfl, rfl, rfl, rfl⟩ rfl rfl rfl rfl rfl (by kernel_rfl) Try.func4 (by kernel_rfl)
    (of_decide_eq_true (by kernel_rfl)) (by unfold Func.isWrapper; first | (rw [if_pos (by decide +kernel)]; kernel_rfl) | (rw [if_neg (by decide +kernel)]; exact ⟨rfl, rfl⟩))
    (fun os started H enc _ => lifted os started H enc)

end Go.Proofs.Ytipcbhodlgoflaa.fracMakes
namespace Go.Proofs.Ytipcbhodlgoflaa
theorem fracMakes_holds : Rows.FracMakesSaid := fracMakes.over
#print axioms fracMakes_holds
end Go.Proofs.Ytipcbhodlgoflaa
