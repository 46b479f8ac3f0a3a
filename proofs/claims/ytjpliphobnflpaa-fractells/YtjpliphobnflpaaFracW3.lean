/- What frac.Make, frac.mayParts, frac.May and frac.Less do. -/
import Derived.Test.YtjpliphobnflpaaFracW2
namespace Go.Proofs.Ytjpliphobnflpaa
open Go.RowKit

theorem below2 {w w' : World} {o1 o2 : Obj} (hb : Below ((w.alloc o1).alloc o2).heap.size ((w.alloc o1).alloc o2) w') : Below w.heap.size w w' :=
  (((Below.refl _ _).alloc (Nat.le_refl _) _).alloc (by simp) _).trans (hb.mono (by simp; omega))

set_option maxHeartbeats 400000 in
theorem make_bad (n d : Int) (w : World) (h : ((Num.low d [n]).2 == 0) = false) :
    Calls Try.prog 13 #[.int .i64 n, .int .i64 d] w fun e w' => e = .returned (.tuple #[.agg #[.int .i64 0, .int .i64 0], .int .i64 (Num.low d [n]).2]) ∧ Below w.heap.size w w' := by
  have h' : ((Num.low d [n]).2 != 0) = true := by simpa using h
  generalize hx : (Num.low d [n]).2 = x at *
  have HX : Hid _ := hx
  clear hx
  go_enter Try.func13, Try.ntmps13
  go_wp2_with fail
  refine (lowering_any d _ _ _ [n] _ (Ints.newAt (by simp) _ _) (by omega)).mono ?_
  rintro e w' ⟨rfl, hb⟩
  rw [HX.out]
  generalize (Num.low d [n]).1 = y at *
  obtain ⟨hc, hf⟩ := bcell hb
  have hz := hb.size
  simp at hz
  have c0 : w'.cell? ⟨w.heap.size, 0, none⟩ = some (.int .i64 0) := by rw [hb.cell (by simp; omega)]; go_simp
  have c1 : w'.cell? ⟨w.heap.size, 1, none⟩ = some (.int .i64 0) := by rw [hb.cell (by simp; omega)]; go_simp
  go_wp2_with fail
  exact bodyPost_ret (v := .tuple #[.agg #[.int .i64 0, .int .i64 0], .int .i64 x]) (by simp [results, Try.results13, go_sem, c0, c1]) rfl ⟨rfl, ((below2 hb).setCell (Nat.le_refl _) _).setCell (Nat.le_refl _) _⟩

set_option maxHeartbeats 400000 in
theorem make_ok (n d : Int) (w : World) (h : (Num.low d [n]).2 = 0) :
    Calls Try.prog 13 #[.int .i64 n, .int .i64 d] w fun e w' => e = .returned (.tuple #[.agg #[.int .i64 (n.tdiv (Num.byOf d [n])), .int .i64 (d.tdiv (Num.byOf d [n]))], .int .i64 0]) ∧ Below w.heap.size w w' := by
  obtain ⟨e1, h0, ⟨hd1, hd2⟩, hl, _, _⟩ := Num.low_ok d [n] h
  have hy := Num.byOf_bd d [n] h0 hd1 hd2
  have hn := Num.withinB_iff _ _ hl (by omega) 0
  simp only [List.length_singleton, Nat.lt_one_iff, getElem?_pos, List.getElem_cons_zero, Option.getD_some] at hn
  have HX : Hid _ := h
  have HE : Hid _ := e1
  clear h e1 hl
  generalize Num.byOf d [n] = y at *
  have hy0 : (y == 0) = false := by simpa using hy.1
  have q1 := Num.tdiv_abs n y
  have q2 := Num.tdiv_abs d y
  have hw1 : wrap64 (n.tdiv y) = n.tdiv y := IntWalk.wrap64_in _ (by omega)
  have hw2 : wrap64 (d.tdiv y) = d.tdiv y := IntWalk.wrap64_in _ (by omega)
  clear q1 q2
  obtain ⟨_, hy1, hy2⟩ := hy
  go_enter Try.func13, Try.ntmps13
  go_wp2_with fail
  refine (lowering_any d _ _ _ [n] _ (Ints.newAt (by simp) _ _) (by omega)).mono ?_
  rintro e w' ⟨rfl, hb⟩
  rw [HX.out, HE.out]
  obtain ⟨hc, hf⟩ := bcell hb
  have hz := hb.size
  simp at hz
  have c0 : w'.cell? ⟨w.heap.size, 0, none⟩ = some (.int .i64 0) := by rw [hb.cell (by simp; omega)]; go_simp
  have c1 : w'.cell? ⟨w.heap.size, 1, none⟩ = some (.int .i64 0) := by rw [hb.cell (by simp; omega)]; go_simp
  go_wp2_with fail
  go_region
  go_wp2_with fail
  exact bodyPost_ret (v := .tuple #[.agg #[.int .i64 (n.tdiv y), .int .i64 (d.tdiv y)], .int .i64 0]) (by simp [results, Try.results13, go_sem, c0, c1]) rfl ⟨rfl, (((below2 hb).setCell (Nat.le_refl _) _).setCell (Nat.le_refl _) _).drew⟩

end Go.Proofs.Ytjpliphobnflpaa
