/- What corner.Look does, for every program and columns. -/
import Derived.Test.YtipcbhodlgoflabDoorCornW
namespace Go.Proofs.YtipcbhodlgoflabDoor
open Go.RowKit

/-- The zero corner. -/
def corner0 : Value := .agg #[.slice none 0 0, .int .i64 0, .slice none 0 0, .int .i64 0, .slice none 0 0, .int .i64 0]

/-- A box of two cells, and a box of six, in every later world. -/
theorem box26 {w w1 : World} {a b c d e f g h : Value} {t u : TypeId} (hb : Below ((w.alloc (.cells #[a, b] t)).alloc (.cells #[c, d, e, f, g, h] u)).heap.size ((w.alloc (.cells #[a, b] t)).alloc (.cells #[c, d, e, f, g, h] u)) w1) :
    (w1.cell? ⟨w.heap.size, 0, none⟩ = some a ∧ w1.cell? ⟨w.heap.size, 1, none⟩ = some b) ∧
      (w1.cell? ⟨w.heap.size + 1, 0, none⟩ = some c ∧ w1.cell? ⟨w.heap.size + 1, 1, none⟩ = some d ∧ w1.cell? ⟨w.heap.size + 1, 2, none⟩ = some e ∧ w1.cell? ⟨w.heap.size + 1, 3, none⟩ = some f ∧ w1.cell? ⟨w.heap.size + 1, 4, none⟩ = some g ∧ w1.cell? ⟨w.heap.size + 1, 5, none⟩ = some h) ∧
      (∀ i, w1.frozen? ⟨w.heap.size + 1, i, none⟩ = false) ∧ w.heap.size + 1 < w1.heap.size ∧ Below w.heap.size w w1 := by
  refine ⟨⟨?_, ?_⟩, ⟨?_, ?_, ?_, ?_, ?_, ?_⟩, ?_, ?_, ?_⟩
  · rw [hb.cell (by simp; omega)]; go_simp
  · rw [hb.cell (by simp; omega)]; go_simp
  · rw [hb.cell (by simp)]; go_simp
  · rw [hb.cell (by simp)]; go_simp
  · rw [hb.cell (by simp)]; go_simp
  · rw [hb.cell (by simp)]; go_simp
  · rw [hb.cell (by simp)]; go_simp
  · rw [hb.cell (by simp)]; go_simp
  · intro i; rw [hb.frozen (by simp)]; go_simp
  · have := hb.size; simp at this; omega
  · exact (((Below.refl _ _).alloc (Nat.le_refl _) _).alloc (by simp) _).trans (hb.mono (by simp; omega))

theorem set6 {B : Nat} {a w : World} (h : Below B a w) {g : Nat} (hg : B ≤ g) (u0 u1 u2 u3 u4 u5 : Value) :
    Below B a ((((((w.setCell ⟨g, 0, none⟩ u0).setCell ⟨g, 1, none⟩ u1).setCell ⟨g, 2, none⟩ u2).setCell ⟨g, 3, none⟩ u3).setCell ⟨g, 4, none⟩ u4).setCell ⟨g, 5, none⟩ u5) :=
  bset (bset (bset (bset (bset (bset h hg _) hg _) hg _) hg _) hg _) hg _

end Go.Proofs.YtipcbhodlgoflabDoor

/- What corner.Look answers where the columns have one way. -/
namespace Go.Proofs.YtipcbhodlgoflabDoor
open Go.RowKit

theorem Ints.set6 {w : World} {a : Option Addr} {n b : Nat} {l : List Int} (h : Ints w a n l) (hf : n = 0 ∨ ∃ g, a = some ⟨g, 0, none⟩ ∧ b + 1 ≤ g) (u0 u1 u2 u3 u4 u5 : Value) :
    Ints ((((((w.setCell ⟨b, 0, none⟩ u0).setCell ⟨b, 1, none⟩ u1).setCell ⟨b, 2, none⟩ u2).setCell ⟨b, 3, none⟩ u3).setCell ⟨b, 4, none⟩ u4).setCell ⟨b, 5, none⟩ u5) a n l := by
  have hb : ∀ i, (⟨b, i, none⟩ : Addr).block < b + 1 := fun i => Nat.lt_succ_self b
  exact Ints.set (Ints.set (Ints.set (Ints.set (Ints.set (Ints.set h hf (hb _) _) hf (hb _) _) hf (hb _) _) hf (hb _) _) hf (hb _) _) hf (hb _) _

theorem six_set {w : World} {b : Nat} {a0 a1 a2 a3 a4 a5 : Value} (c0 : w.cell? ⟨b, 0, none⟩ = some a0) (c1 : w.cell? ⟨b, 1, none⟩ = some a1) (c2 : w.cell? ⟨b, 2, none⟩ = some a2) (c3 : w.cell? ⟨b, 3, none⟩ = some a3) (c4 : w.cell? ⟨b, 4, none⟩ = some a4) (c5 : w.cell? ⟨b, 5, none⟩ = some a5)
    (u0 u1 u2 u3 u4 u5 : Value) (o : Obj) (X : World) (hX : X = (((((((w.setCell ⟨b, 0, none⟩ u0).setCell ⟨b, 1, none⟩ u1).setCell ⟨b, 2, none⟩ u2).setCell ⟨b, 3, none⟩ u3).setCell ⟨b, 4, none⟩ u4).setCell ⟨b, 5, none⟩ u5).alloc o)) :
    X.cell? ⟨b, 0, none⟩ = some u0 ∧ X.cell? ⟨b, 1, none⟩ = some u1 ∧ X.cell? ⟨b, 2, none⟩ = some u2 ∧ X.cell? ⟨b, 3, none⟩ = some u3 ∧ X.cell? ⟨b, 4, none⟩ = some u4 ∧ X.cell? ⟨b, 5, none⟩ = some u5 := by
  have hlt : b < w.heap.size := World.block_lt_of_cell? w _ c0
  have hal : ∀ i, X.cell? ⟨b, i, none⟩ = ((((((w.setCell ⟨b, 0, none⟩ u0).setCell ⟨b, 1, none⟩ u1).setCell ⟨b, 2, none⟩ u2).setCell ⟨b, 3, none⟩ u3).setCell ⟨b, 4, none⟩ u4).setCell ⟨b, 5, none⟩ u5).cell? ⟨b, i, none⟩ := fun i => by
    rw [hX]; exact (balloc _ o).cell (p := ⟨b, i, none⟩) (by simpa using hlt)
  have ot : ∀ (v : World) (i j : Nat) (u : Value), i ≠ j → (v.setCell ⟨b, j, none⟩ u).cell? ⟨b, i, none⟩ = v.cell? ⟨b, i, none⟩ := fun v i j u h => World.cell?_setCell_other _ _ _ _ (by simp)
  have sm : ∀ (v : World) (j : Nat) (u a : Value), v.cell? ⟨b, j, none⟩ = some a → (v.setCell ⟨b, j, none⟩ u).cell? ⟨b, j, none⟩ = some u := fun v j u a h => World.cell?_setCell_same' _ _ _ (by rw [h]; rfl)
  refine ⟨?_, ?_, ?_, ?_, ?_, ?_⟩ <;> rw [hal]
  · rw [ot _ 0 5 _ (by decide), ot _ 0 4 _ (by decide), ot _ 0 3 _ (by decide), ot _ 0 2 _ (by decide), ot _ 0 1 _ (by decide)]; exact sm _ _ _ _ c0
  · rw [ot _ 1 5 _ (by decide), ot _ 1 4 _ (by decide), ot _ 1 3 _ (by decide), ot _ 1 2 _ (by decide)]; exact sm _ _ _ _ (by rw [ot _ 1 0 _ (by decide)]; exact c1)
  · rw [ot _ 2 5 _ (by decide), ot _ 2 4 _ (by decide), ot _ 2 3 _ (by decide)]; exact sm _ _ _ _ (by rw [ot _ 2 1 _ (by decide), ot _ 2 0 _ (by decide)]; exact c2)
  · rw [ot _ 3 5 _ (by decide), ot _ 3 4 _ (by decide)]; exact sm _ _ _ _ (by rw [ot _ 3 2 _ (by decide), ot _ 3 1 _ (by decide), ot _ 3 0 _ (by decide)]; exact c3)
  · rw [ot _ 4 5 _ (by decide)]; exact sm _ _ _ _ (by rw [ot _ 4 3 _ (by decide), ot _ 4 2 _ (by decide), ot _ 4 1 _ (by decide), ot _ 4 0 _ (by decide)]; exact c4)
  · exact sm _ _ _ _ (by rw [ot _ 5 4 _ (by decide), ot _ 5 3 _ (by decide), ot _ 5 2 _ (by decide), ot _ 5 1 _ (by decide), ot _ 5 0 _ (by decide)]; exact c5)

theorem Fz.set6 {w : World} {a : Option Addr} (h : Fz w a) (b : Nat) (u0 u1 u2 u3 u4 u5 : Value) :
    Fz ((((((w.setCell ⟨b, 0, none⟩ u0).setCell ⟨b, 1, none⟩ u1).setCell ⟨b, 2, none⟩ u2).setCell ⟨b, 3, none⟩ u3).setCell ⟨b, 4, none⟩ u4).setCell ⟨b, 5, none⟩ u5) a :=
  (((((h.set _ _).set _ _).set _ _).set _ _).set _ _).set _ _

/-- Three slices that are new since the world had B blocks; the second may be written. -/
structure Newly (B : Nat) (w : World) (xa : Option Addr) (xl : Nat) (ya : Option Addr) (yl : Nat) (ga : Option Addr) (gl : Nat) : Prop where
  x : xl = 0 ∨ ∃ g, xa = some ⟨g, 0, none⟩ ∧ B ≤ g
  y : yl = 0 ∨ ∃ g, ya = some ⟨g, 0, none⟩ ∧ B ≤ g
  g : gl = 0 ∨ ∃ g, ga = some ⟨g, 0, none⟩ ∧ B ≤ g
  w : Fz w ya

theorem Newly.nil (B : Nat) (w : World) : Newly B w none 0 none 0 none 0 := ⟨Or.inl rfl, Or.inl rfl, Or.inl rfl, Fz.nil w⟩

/-- A point that lies in a box of two cells, its numbers behind it. -/
structure Landed (V W : World) (bx : Nat) (xa : Option Addr) (xl xc : Nat) (d : Int) (m : List Int) : Prop where
  bel : Below V.heap.size V W
  c0 : W.cell? ⟨bx, 0, none⟩ = some (.slice xa xl xc)
  c1 : W.cell? ⟨bx, 1, none⟩ = some (.int .i64 d)
  ints : Ints W xa xl m
  lo : V.heap.size ≤ bx
  hi : bx < W.heap.size

theorem landA {V v : World} {xa : Option Addr} {xl xc : Nat} {d : Int} {m : List Int} {t : TypeId} (h : Below V.heap.size V v) (hI : Ints v xa xl m) : Landed V (v.alloc (.cells #[.slice xa xl xc, .int .i64 d] t)) v.heap.size xa xl xc d m :=
  ⟨bstep h (balloc _ _), (cell_new2 rfl _ _ _).1, (cell_new2 rfl _ _ _).2, hI.below (balloc _ _) (Nat.le_refl _), h.size, by simp⟩

theorem landB {V v : World} {bx : Nat} {xa : Option Addr} {xl xc : Nat} {d : Int} {m : List Int} {a b : Value} {F : Prop} (h : Below V.heap.size V v) (hI : Ints v xa xl m) (hz : (v.cell? ⟨bx, 0, none⟩ = some a ∧ v.cell? ⟨bx, 1, none⟩ = some b) ∧ F)
    (hlo : V.heap.size ≤ bx) (hf : xl = 0 ∨ ∃ g, xa = some ⟨g, 0, none⟩ ∧ bx + 1 ≤ g) : Landed V ((v.setCell ⟨bx, 0, none⟩ (.slice xa xl xc)).setCell ⟨bx, 1, none⟩ (.int .i64 d)) bx xa xl xc d m := by
  obtain ⟨⟨z0, z1⟩, _⟩ := hz
  have hlt : bx < v.heap.size := World.block_lt_of_cell? v _ z0
  refine ⟨bset (bset h hlo _) hlo _, ?_, ?_, Ints.set (base := bx + 1) (Ints.set (base := bx + 1) hI hf (Nat.lt_succ_self _) _) hf (Nat.lt_succ_self _) _, hlo, by simpa using hlt⟩
  · rw [World.cell?_setCell_other _ _ _ _ (by simp)]
    exact World.cell?_setCell_same' _ _ _ (by rw [z0]; rfl)
  · exact World.cell?_setCell_same' _ _ _ (by rw [World.cell?_setCell_other _ _ _ _ (by simp), z1]; rfl)

theorem far_up {n b b' : Nat} {a : Option Addr} (h : n = 0 ∨ ∃ g, a = some ⟨g, 0, none⟩ ∧ b ≤ g) (hb : b' ≤ b) : n = 0 ∨ ∃ g, a = some ⟨g, 0, none⟩ ∧ b' ≤ g := by
  rcases h with h | ⟨g, h, h'⟩
  · exact Or.inl h
  · exact Or.inr ⟨g, h, by omega⟩

end Go.Proofs.YtipcbhodlgoflabDoor

/- What corner.Look does, in one contract. -/
namespace Go.Proofs.YtipcbhodlgoflabDoor
open Go.RowKit

theorem Ints.empty (w : World) : Ints w none 0 [] := ⟨rfl, Or.inl rfl⟩

theorem Num.look_form (p : Num.Lp) (at' : List Int) (hm : p.may = false) : Num.look p at' = Num.noLook 2 := by unfold Num.look; rw [if_pos hm]
theorem Num.look_range (p : Num.Lp) (at' : List Int) (hm : p.may = true) (hr : Num.rightB at' p.rows.length (p.costs.length + p.rows.length) = false) : Num.look p at' = Num.noLook 3 := by unfold Num.look; rw [if_neg (by simp [hm]), if_pos hr]
theorem Num.look_none (p : Num.Lp) (at' : List Int) (hm : p.may = true) (hr : Num.rightB at' p.rows.length (p.costs.length + p.rows.length) = true) (hd : Num.denL p at' p.rows.length = 0) : Num.look p at' = Num.noLook 4 := by
  unfold Num.look; rw [if_neg (by simp [hm]), if_neg (by simp [hr]), if_pos hd]
theorem Num.look_some (p : Num.Lp) (at' : List Int) (hm : p.may = true) (hr : Num.rightB at' p.rows.length (p.costs.length + p.rows.length) = true) (hd : Num.denL p at' p.rows.length ≠ 0) (m N : Nat) (hM : m = p.rows.length) (hN : N = p.costs.length + p.rows.length) :
    Num.look p at' = ⟨0, (Num.pt (Num.xL p at' m N) (Num.denL p at' m)).1, (Num.pt (Num.xL p at' m N) (Num.denL p at' m)).2.1, (Num.pt (Num.priceL p at' m) (Num.denL p at' m)).1, (Num.pt (Num.priceL p at' m) (Num.denL p at' m)).2.1,
            (Num.pt (Num.gainL p at' m N) (Num.denL p at' m)).1, (Num.pt (Num.gainL p at' m N) (Num.denL p at' m)).2.1⟩ := by
  subst hM hN
  unfold Num.look; rw [if_neg (by simp [hm]), if_neg (by simp [hr]), if_neg hd]

end Go.Proofs.YtipcbhodlgoflabDoor
