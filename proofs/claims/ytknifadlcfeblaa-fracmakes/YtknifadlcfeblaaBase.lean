/- What the walks lean on: a slice of 64-bit numbers as a list in memory, and what a later world keeps of it. -/
import Derived.WalkKit
import Derived.WalkSpells
import Derived.WalkLawsBesides
import Derived.Deep.QuietTactic
import Derived.BigQuiet
import Derived.Test.YtknifadlcfeblaaNum
namespace Go.Proofs.Ytknifadlcfeblaa
open Go.RowKit

/-- A slice of so many 64-bit numbers, which are those of l. -/
def Ints (w : World) (a : Option Addr) (len : Nat) (l : List Int) : Prop :=
  len = l.length ∧ (len = 0 ∨ ∃ b off, a = some ⟨b, off, none⟩ ∧ b < w.heap.size ∧ ∀ j, j < len → w.cell? ⟨b, off + j, none⟩ = some (.int .i64 (l[j]?.getD 0)))

theorem Ints.below {w w' : World} {B : Nat} {a : Option Addr} {len : Nat} {l : List Int} (h : Ints w a len l) (hb : Below B w w') (hB : w.heap.size ≤ B) : Ints w' a len l := by
  obtain ⟨h1, h2⟩ := h
  refine ⟨h1, ?_⟩
  rcases h2 with h2 | ⟨b, off, ha, hs, hc⟩
  · exact Or.inl h2
  · exact Or.inr ⟨b, off, ha, Nat.lt_of_lt_of_le hs hb.size, fun j hj => by rw [hb.cell (p := ⟨b, off + j, none⟩) (Nat.lt_of_lt_of_le hs hB)]; exact hc j hj⟩

theorem Ints.new (w : World) (x : Int) (t : TypeId) : Ints (w.alloc (.cells #[.int .i64 x] t)) (some ⟨w.heap.size, 0, none⟩) 1 [x] := by
  refine ⟨rfl, Or.inr ⟨w.heap.size, 0, rfl, by simp, fun j hj => ?_⟩⟩
  obtain rfl : j = 0 := by omega
  simp

theorem Ints.newAt {w : World} {k : Nat} (hk : k = w.heap.size) (x : Int) (t : TypeId) : Ints (w.alloc (.cells #[.int .i64 x] t)) (some ⟨k, 0, none⟩) 1 [x] := by
  subst hk; exact Ints.new w x t

theorem bcell {W w1 : World} (hb : Below W.heap.size W w1) : (∀ b o, b < W.heap.size → w1.cell? ⟨b, o, none⟩ = W.cell? ⟨b, o, none⟩) ∧ (∀ b o, b < W.heap.size → w1.frozen? ⟨b, o, none⟩ = W.frozen? ⟨b, o, none⟩) :=
  ⟨fun b o h => hb.cell (p := ⟨b, o, none⟩) h, fun b o h => hb.frozen (p := ⟨b, o, none⟩) h⟩

theorem bnext {w w1 w2 : World} {o : Obj} (h : Below w.heap.size w w1) (k : Below (w1.alloc o).heap.size (w1.alloc o) w2) : Below w.heap.size w w2 :=
  (h.alloc h.size o).trans (k.mono (by have := h.size; simp; omega))

/-- The cells of the block that was laid just ahead of a call are as they were behind it. -/
theorem bkept {w1 w2 : World} {o : Obj} (k : Below (w1.alloc o).heap.size (w1.alloc o) w2) (i : Nat) : w2.cell? ⟨w1.heap.size, i, none⟩ = (w1.alloc o).cell? ⟨w1.heap.size, i, none⟩ ∧ w1.heap.size < w2.heap.size :=
  ⟨k.cell (by simp), by have := k.size; simp at this; omega⟩

theorem bkept2 {w1 w2 w3 : World} {o1 o2 : Obj} (k2 : Below (w1.alloc o1).heap.size (w1.alloc o1) w2) (k3 : Below (w2.alloc o2).heap.size (w2.alloc o2) w3) (i : Nat) :
    w3.cell? ⟨w1.heap.size, i, none⟩ = (w1.alloc o1).cell? ⟨w1.heap.size, i, none⟩ ∧ w1.heap.size < w3.heap.size := by
  obtain ⟨a, b⟩ := bkept k2 i
  have c := k3.size
  simp at c
  refine ⟨?_, by omega⟩
  rw [← a, k3.cell (by simp; omega)]
  exact ((Below.refl _ _).alloc (Nat.le_refl _) _).cell b

theorem ret_int {k : IntKind} {a b : Int} (h : a = b) : Ending.returned (.int k a) = .returned (.int k b) := by rw [h]
theorem ret_bool {a b : Bool} (h : a = b) : Ending.returned (.bool a) = .returned (.bool b) := by rw [h]

theorem bdrewN {B : Nat} {a w : World} (h : Below B a w) (n : Nat) : Below B a (w.drewN n) := below_drewN h n

end Go.Proofs.Ytknifadlcfeblaa
