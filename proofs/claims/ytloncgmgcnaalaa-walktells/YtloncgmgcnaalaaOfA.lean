/- What cornerwalkref1.Of does. -/
import Derived.Test.YtloncgmgcnaalaaLayG
import Derived.Test.YtloncgmgcnaalaaCornV
namespace Go.Proofs.Ytloncgmgcnaalaa
open Go.RowKit

theorem two_set5 {w : World} {b : Nat} {a0 a1 : Value} (c0 : w.cell? ⟨b, 0, none⟩ = some a0) (c1 : w.cell? ⟨b, 1, none⟩ = some a1) (u v : Value) (o : Obj) (X : World) (hX : X = ((w.setCell ⟨b, 0, none⟩ u).setCell ⟨b, 1, none⟩ v).alloc o) :
    X.cell? ⟨b, 0, none⟩ = some u ∧ X.cell? ⟨b, 1, none⟩ = some v := by
  subst hX
  have e0 : ((w.setCell ⟨b, 0, none⟩ u).setCell ⟨b, 1, none⟩ v).cell? ⟨b, 0, none⟩ = some u := by rw [cell_set_ne (by decide)]; exact cell_set_eq c0
  have e1 : ((w.setCell ⟨b, 0, none⟩ u).setCell ⟨b, 1, none⟩ v).cell? ⟨b, 1, none⟩ = some v := cell_set_eq (by rw [cell_set_ne (by decide)]; exact c1)
  exact ⟨carry (balloc _ _) e0, carry (balloc _ _) e1⟩

set_option maxHeartbeats 800000 in
theorem of_any (n d : Int) (w : World) (x y z : Int) (h : Num.mk n d = (x, y, z)) :
    Calls Try.prog 41 #[.int .i64 n, .int .i64 d] w fun e w' => e = .returned (.agg #[.int .i64 x, .int .i64 y]) ∧ Below w.heap.size w w' := by
  have HM : Hid _ := h
  clear h
  go_enter Try.func41, Try.ntmps41
  go_wp2_with fail
  refine (rmake_any n d _ x y z HM.out).mono ?_
  rintro e w1 ⟨rfl, hb1⟩
  obtain ⟨⟨c0, c1⟩, f0, f1⟩ := kept2 hb1
  have hz : w.heap.size < w1.heap.size := by have := hb1.size; simp at this; omega
  go_wp2_with fail
  generalize hX : ((w1.setCell ⟨w.heap.size, 0, none⟩ (.int .i64 x)).setCell ⟨w.heap.size, 1, none⟩ (.int .i64 y)).alloc (.cells #[.int .i64 x, .int .i64 y] 24) = X
  have hBX : Below w.heap.size w X := by rw [← hX]; exact bstep (bset (bset (binto hb1) (Nat.le_refl _) _) (Nat.le_refl _) _) (balloc _ _)
  obtain ⟨x0, x1⟩ := two_set5 c0 c1 _ _ _ X hX.symm
  exact bodyPost_ret (v := .agg #[.int .i64 x, .int .i64 y]) (by simp [results, Try.results41, go_sem, x0, x1]) rfl ⟨rfl, hBX⟩

end Go.Proofs.Ytloncgmgcnaalaa
