/- What frac.MayPoint, layout.fits, layout.Goes and layout.Worth do. -/
import Derived.Test.YtloncgmgcnaalabLay1
import Derived.Deep.RegionHeld3
import Derived.Test.YtloncgmgcnaalabHeldA
namespace Go.Proofs.Ytloncgmgcnaalab
open Go.RowKit

/-- Two boxes of two cells each, in every later world. -/
theorem box2 {w w1 : World} {a b c d : Value} {t u : TypeId} (hb : Below ((w.alloc (.cells #[a, b] t)).alloc (.cells #[c, d] u)).heap.size ((w.alloc (.cells #[a, b] t)).alloc (.cells #[c, d] u)) w1) :
    (w1.cell? ⟨w.heap.size, 0, none⟩ = some a ∧ w1.cell? ⟨w.heap.size, 1, none⟩ = some b) ∧ (w1.cell? ⟨w.heap.size + 1, 0, none⟩ = some c ∧ w1.cell? ⟨w.heap.size + 1, 1, none⟩ = some d) ∧ w.heap.size + 1 < w1.heap.size ∧ Below w.heap.size w w1 := by
  refine ⟨⟨?_, ?_⟩, ⟨?_, ?_⟩, ?_, ?_⟩
  · rw [hb.cell (by simp; omega)]; go_simp
  · rw [hb.cell (by simp; omega)]; go_simp
  · rw [hb.cell (by simp)]; go_simp
  · rw [hb.cell (by simp)]; go_simp
  · have := hb.size; simp at this; omega
  · exact (((Below.refl _ _).alloc (Nat.le_refl _) _).alloc (by simp) _).trans (hb.mono (by simp; omega))

theorem box2_refl (w : World) (a b c d : Value) (t u : TypeId) : Below ((w.alloc (.cells #[a, b] t)).alloc (.cells #[c, d] u)).heap.size ((w.alloc (.cells #[a, b] t)).alloc (.cells #[c, d] u)) ((w.alloc (.cells #[a, b] t)).alloc (.cells #[c, d] u)) := Below.refl _ _

theorem bstep {V w1 w2 : World} (h : Below V.heap.size V w1) (k : Below w1.heap.size w1 w2) : Below V.heap.size V w2 := h.trans (k.mono h.size)

end Go.Proofs.Ytloncgmgcnaalab

/- What layout.Goes and layout.Worth do. -/
namespace Go.Proofs.Ytloncgmgcnaalab
open Go.RowKit

theorem below_of_drew {P : Program} {f : FuncId} {args : Array Value} {w : World} {v : Value} (h : Calls P f args w fun e w' => e = .returned v ∧ ∃ n, w' = w.drewN n) : Calls P f args w fun e w' => e = .returned v ∧ Below w.heap.size w w' :=
  h.mono fun _ w' ⟨he, n, hn⟩ => ⟨he, by rw [hn]; exact bdrewN (Below.refl _ _) n⟩

/-- Three boxes of two cells each, in every later world. -/
theorem box3 {w w1 : World} {a b c d e f : Value} {t u v : TypeId} (hb : Below (((w.alloc (.cells #[a, b] t)).alloc (.cells #[c, d] u)).alloc (.cells #[e, f] v)).heap.size (((w.alloc (.cells #[a, b] t)).alloc (.cells #[c, d] u)).alloc (.cells #[e, f] v)) w1) :
    (w1.cell? ⟨w.heap.size, 0, none⟩ = some a ∧ w1.cell? ⟨w.heap.size, 1, none⟩ = some b) ∧ (w1.cell? ⟨w.heap.size + 1, 0, none⟩ = some c ∧ w1.cell? ⟨w.heap.size + 1, 1, none⟩ = some d) ∧
      (w1.cell? ⟨w.heap.size + 1 + 1, 0, none⟩ = some e ∧ w1.cell? ⟨w.heap.size + 1 + 1, 1, none⟩ = some f) ∧ (w1.frozen? ⟨w.heap.size + 1 + 1, 0, none⟩ = false ∧ w1.frozen? ⟨w.heap.size + 1 + 1, 1, none⟩ = false) ∧ w.heap.size + 2 < w1.heap.size ∧ Below w.heap.size w w1 := by
  refine ⟨⟨?_, ?_⟩, ⟨?_, ?_⟩, ⟨?_, ?_⟩, ⟨?_, ?_⟩, ?_, ?_⟩
  · rw [hb.cell (by simp; omega)]; go_simp
  · rw [hb.cell (by simp; omega)]; go_simp
  · rw [hb.cell (by simp)]; go_simp
  · rw [hb.cell (by simp)]; go_simp
  · rw [hb.cell (by simp)]; go_simp
  · rw [hb.cell (by simp)]; go_simp
  · rw [hb.frozen (by simp)]; go_simp
  · rw [hb.frozen (by simp)]; go_simp
  · have := hb.size; simp at this; omega
  · exact ((((Below.refl _ _).alloc (Nat.le_refl _) _).alloc (by simp) _).alloc (by simp; omega) _).trans (hb.mono (by simp; omega))

/-- What a point is worth. -/
def Num.worth (p : Num.Lp) (x : List Int) (d : Int) : Int × Int × Int := if p.fits x d = true then Num.mk (Num.dotN p.costs x x.length) d else (0, 0, 2)

end Go.Proofs.Ytloncgmgcnaalab
