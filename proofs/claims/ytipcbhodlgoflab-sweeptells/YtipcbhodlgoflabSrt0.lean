/- What slices.Clone and slices.Sort do with a short slice of ints. -/
import Derived.Test.YtipcbhodlgoflabCornW
namespace Go.Proofs.Ytipcbhodlgoflab
open Go.RowKit

/-- A slice of ints of the call's own, which are those of l. -/
def OwnI (w : World) (base g n c : Nat) (l : List Int) : Prop := w.ownsRow base 3 1 (.slice (some ⟨g, 0, none⟩) n c) n (l.map (Value.int .i64))

theorem OwnI.len {w : World} {base g n c : Nat} {l : List Int} (h : OwnI w base g n c l) : l.length = n := by simpa using h.1

theorem OwnI.cell {w : World} {base g n c : Nat} {l : List Int} (h : OwnI w base g n c l) (k : Nat) (hk : k < n) : w.cell? ⟨g, k, none⟩ = some (.int .i64 (l[k]?.getD 0)) ∧ w.frozen? ⟨g, k, none⟩ = false := by
  refine ⟨?_, World.ownsRow.frozenAt h k⟩
  have := World.ownsRow.cellAt h k (by omega)
  rw [this, List.getElem?_map, List.getElem?_eq_getElem (by have := h.len; omega)]
  simp

theorem OwnI.store {w : World} {base g n c : Nat} {l : List Int} (h : OwnI w base g n c l) (k : Nat) (v : Int) : OwnI (w.setCell ⟨g, k, none⟩ (.int .i64 v)) base g n c (l.set k v) := by
  unfold OwnI
  rw [List.map_set]
  exact (World.ownsRow.stored h k (.int .i64 v)).1

theorem OwnI.lt {w : World} {base g n c : Nat} {l : List Int} (h : OwnI w base g n c l) : base ≤ g ∧ g < w.heap.size := World.ownsRow.lt h g rfl

theorem OwnI.drew {w : World} {base g n c : Nat} {l : List Int} (h : OwnI w base g n c l) : OwnI w.drew base g n c l := h

theorem OwnI.drewN {w : World} {base g n c : Nat} {l : List Int} (h : OwnI w base g n c l) (q : Nat) : OwnI (w.drewN q) base g n c l := by
  have hb : Below (g + 1) w (w.drewN q) := below_drewN (Below.refl _ _) q
  exact own_below h hb (by omega)

theorem OwnI.ints {w : World} {base g n c : Nat} {l : List Int} (h : OwnI w base g n c l) : Ints w (some ⟨g, 0, none⟩) n l :=
  ⟨h.len.symm, Or.inr ⟨g, 0, rfl, h.lt.2, fun j hj => by rw [Nat.zero_add]; exact (h.cell j hj).1⟩⟩

namespace Num

/-- The first k numbers do not fall. -/
def UpTo (r : List Int) (k : Nat) : Prop := ∀ a b, a < b → b < k → r[a]?.getD 0 ≤ r[b]?.getD 0

/-- The first k + 1 numbers do not fall, but for the one at j, which may be too great a place from its own. -/
def Sink (r : List Int) (k j : Nat) : Prop := ∀ a b, a < b → b ≤ k → b ≠ j → r[a]?.getD 0 ≤ r[b]?.getD 0

theorem Sink.of (r : List Int) (k : Nat) (h : UpTo r k) : Sink r k k := fun a b hab hb hne => h a b hab (by omega)

theorem Sink.zero (r : List Int) (k : Nat) (h : Sink r k 0) : UpTo r (k + 1) := fun a b hab hb => h a b hab (by omega) (by omega)

def swap2 (r : List Int) (q : Nat) : List Int := (r.set (q + 1) (r[q]?.getD 0)).set q (r[q + 1]?.getD 0)

theorem swap2_at (r : List Int) (q i : Nat) (h : q + 1 < r.length) : (swap2 r q)[i]?.getD 0 = if i = q then r[q + 1]?.getD 0 else if i = q + 1 then r[q]?.getD 0 else r[i]?.getD 0 := by
  unfold swap2
  rw [List.getElem?_set]
  by_cases h1 : i = q
  · subst h1
    rw [if_pos rfl, if_pos rfl, if_pos (by rw [List.length_set]; omega)]; rfl
  · rw [if_neg (fun e => h1 e.symm), if_neg h1, List.getElem?_set]
    by_cases h2 : i = q + 1
    · subst h2; rw [if_pos rfl, if_pos rfl, if_pos h]; rfl
    · rw [if_neg (fun e => h2 e.symm), if_neg h2]

theorem Sink.step (r : List Int) (k q : Nat) (hq : q + 1 ≤ k) (hl : q + 1 < r.length) (h : Sink r k (q + 1)) (hlt : r[q + 1]?.getD 0 < r[q]?.getD 0) : Sink (swap2 r q) k q := by
  intro a b hab hb hne
  rw [swap2_at r q a hl, swap2_at r q b hl, if_neg hne]
  by_cases hb1 : b = q + 1
  · subst hb1
    rw [if_pos rfl]
    by_cases ha : a = q
    · subst ha; rw [if_pos rfl]; omega
    · rw [if_neg ha, if_neg (by omega)]; exact h a q (by omega) (by omega) (by omega)
  · rw [if_neg hb1]
    by_cases ha : a = q
    · subst ha; rw [if_pos rfl]; exact h (a + 1) b (by omega) hb hb1
    · rw [if_neg ha]
      by_cases ha1 : a = q + 1
      · subst ha1; rw [if_pos rfl]; exact h q b (by omega) hb hb1
      · rw [if_neg ha1]; exact h a b hab hb hb1

end Num

theorem Try.infoInt : (Try.prog.info? 3).map (fun i => (i.zero, i.size, i.bytes)) = some (some (.int .i64 0), 1, 8) := by kernel_rfl

theorem one_ints (l : List Int) : ∀ u ∈ l.map (Value.int .i64), u.oneCell' = true := by
  intro u hu
  obtain ⟨x, _, rfl⟩ := List.mem_map.1 hu
  rfl

end Go.Proofs.Ytipcbhodlgoflab
