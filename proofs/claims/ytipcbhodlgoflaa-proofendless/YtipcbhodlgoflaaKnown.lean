/- The answer that is known to hold. -/
import Derived.Test.YtipcbhodlgoflaaPrfAB
namespace Go.Proofs.Ytipcbhodlgoflaa
open Go.RowKit

theorem known_num : Num.holds ⟨[0], [([0], 0)]⟩ ⟨1, [0], 1, [0], 1, [], 0, 0, 1⟩ = true := by decide +kernel

theorem ints_one_at {W : World} {k : Nat} (hc : W.cell? ⟨k, 0, none⟩ = some (.int .i64 0)) : Ints W (some ⟨k, 0, none⟩) 1 [0] := by
  refine ⟨rfl, Or.inr ⟨k, 0, rfl, World.block_lt_of_cell? W _ hc, fun j hj => ?_⟩⟩
  obtain rfl : j = 0 := by omega
  simpa using hc

theorem known_any (w : World) : Calls Try.prog 34 #[.agg #[.slice (some ⟨w.heap.size, 0, none⟩) 1 1, .slice (some ⟨w.heap.size + 1 + 1, 0, none⟩) 1 1], .agg #[.int .i64 1, .slice (some ⟨w.heap.size + 1 + 1 + 1 + 1, 0, none⟩) 1 1, .int .i64 1, .slice (some ⟨w.heap.size + 1 + 1 + 1 + 1 + 1, 0, none⟩) 1 1, .int .i64 1, .slice none 0 0, .int .i64 0, .int .i64 0, .int .i64 1]]
    (((((((w.alloc (.cells #[.int .i64 0] 2)).alloc (.cells #[.int .i64 0] 2)).alloc (.cells #[.slice (some ⟨w.heap.size + 1, 0, none⟩) 1 1, .int .i64 0] 55)).alloc (.cells #[.slice (some ⟨w.heap.size, 0, none⟩) 1 1, .slice (some ⟨w.heap.size + 1 + 1, 0, none⟩) 1 1] 40)).alloc (.cells #[.int .i64 0] 2)).alloc (.cells #[.int .i64 0] 2)).alloc
      (.cells #[.int .i64 1, .slice (some ⟨w.heap.size + 1 + 1 + 1 + 1, 0, none⟩) 1 1, .int .i64 1, .slice (some ⟨w.heap.size + 1 + 1 + 1 + 1 + 1, 0, none⟩) 1 1, .int .i64 1, .slice none 0 0, .int .i64 0, .int .i64 0, .int .i64 1] 57))
    fun e w' => e = .returned (.bool true) ∧ Below w.heap.size w w' := by
  generalize hW : (((((((w.alloc (.cells #[.int .i64 0] 2)).alloc (.cells #[.int .i64 0] 2)).alloc (.cells #[.slice (some ⟨w.heap.size + 1, 0, none⟩) 1 1, .int .i64 0] 55)).alloc (.cells #[.slice (some ⟨w.heap.size, 0, none⟩) 1 1, .slice (some ⟨w.heap.size + 1 + 1, 0, none⟩) 1 1] 40)).alloc (.cells #[.int .i64 0] 2)).alloc (.cells #[.int .i64 0] 2)).alloc
      (.cells #[.int .i64 1, .slice (some ⟨w.heap.size + 1 + 1 + 1 + 1, 0, none⟩) 1 1, .int .i64 1, .slice (some ⟨w.heap.size + 1 + 1 + 1 + 1 + 1, 0, none⟩) 1 1, .int .i64 1, .slice none 0 0, .int .i64 0, .int .i64 0, .int .i64 1] 57)) = W
  have hB : Below w.heap.size w W := by
    rw [← hW]
    exact bstep (bstep (bstep (bstep (bstep (bstep (balloc _ _) (balloc _ _)) (balloc _ _)) (balloc _ _)) (balloc _ _)) (balloc _ _)) (balloc _ _)
  have k0 : W.cell? ⟨w.heap.size, 0, none⟩ = some (.int .i64 0) := by rw [← hW]; clear hW; go_simp
  have k1 : W.cell? ⟨w.heap.size + 1, 0, none⟩ = some (.int .i64 0) := by rw [← hW]; clear hW; go_simp
  have k2 : W.cell? ⟨w.heap.size + 1 + 1, 0, none⟩ = some (.slice (some ⟨w.heap.size + 1, 0, none⟩) 1 1) := by rw [← hW]; clear hW; go_simp
  have k3 : W.cell? ⟨w.heap.size + 1 + 1, 1, none⟩ = some (.int .i64 0) := by rw [← hW]; clear hW; go_simp
  have k4 : W.cell? ⟨w.heap.size + 1 + 1 + 1 + 1, 0, none⟩ = some (.int .i64 0) := by rw [← hW]; clear hW; go_simp
  have k5 : W.cell? ⟨w.heap.size + 1 + 1 + 1 + 1 + 1, 0, none⟩ = some (.int .i64 0) := by rw [← hW]; clear hW; go_simp
  have hrows : RowsAt W (some ⟨w.heap.size + 1 + 1, 0, none⟩) 1 [([0], 0)] := by
    refine ⟨rfl, Or.inr ⟨w.heap.size + 1 + 1, 0, rfl, World.block_lt_of_cell? W _ k2, fun j hj => ?_⟩⟩
    obtain rfl : j = 0 := by omega
    exact ⟨_, _, _, k2, k3, ints_one_at k1, by omega⟩
  refine (holds_any (some ⟨w.heap.size, 0, none⟩) 1 1 (some ⟨w.heap.size + 1 + 1, 0, none⟩) 1 1 ⟨[0], [([0], 0)]⟩ W (ints_one_at k0) (by omega) hrows (by omega) ⟨1, [0], 1, [0], 1, [], 0, 0, 1⟩
    (some ⟨w.heap.size + 1 + 1 + 1 + 1, 0, none⟩) 1 1 (some ⟨w.heap.size + 1 + 1 + 1 + 1 + 1, 0, none⟩) 1 1 none 0 0 (ints_one_at k4) (by omega) (ints_one_at k5) (by omega) ⟨rfl, Or.inl rfl⟩ (by omega)).mono fun e w' ⟨he, hb⟩ => ?_
  rw [known_num] at he
  exact ⟨he, bstep hB hb⟩

end Go.Proofs.Ytipcbhodlgoflaa
