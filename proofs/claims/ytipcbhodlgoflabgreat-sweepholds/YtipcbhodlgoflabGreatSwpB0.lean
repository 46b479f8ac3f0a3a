/- What is kept while sweep.bestLines goes through the corners. -/
import Derived.Test.YtipcbhodlgoflabGreatSwpM
import Derived.Test.YtipcbhodlgoflabGreatSwpLL
import Derived.Test.YtipcbhodlgoflabGreatSwpR
import Derived.Test.YtipcbhodlgoflabGreatSwpCC
import Derived.Test.YtipcbhodlgoflabGreatSwpW
import Derived.Test.YtipcbhodlgoflabGreatSpnWB
import Derived.Test.YtipcbhodlgoflabGreatSlvW7
namespace Go.Proofs.YtipcbhodlgoflabGreat
open Go.RowKit
open Go.ChangeMaps (setBlock)

namespace Num

/-- The columns of the sets above s, from the greatest down. -/
def setsN (M s : Nat) : List (List Int) := (List.range (M - 1 - s)).map fun i => membersTo (M - 1 - i) 8

theorem sets_top (M : Nat) : setsN M (M - 1) = [] := by unfold setsN; rw [Nat.sub_self]; rfl

theorem sets_down (M s : Nat) (hs : s + 1 < M) : setsN M s = setsN M (s + 1) ++ [membersTo (s + 1) 8] := by
  unfold setsN
  rw [show M - 1 - s = (M - 1 - (s + 1)) + 1 by omega, List.range_succ, List.map_append]
  congr 1
  simp only [List.map_cons, List.map_nil]
  rw [show M - 1 - (M - 1 - (s + 1)) = s + 1 by omega]

theorem sets_mem (M q : Nat) (h0 : 0 < q) (hq : q < M) : membersTo q 8 ∈ setsN M 0 := by
  unfold setsN
  refine List.mem_map.2 ⟨M - 1 - q, List.mem_range.2 (by omega), ?_⟩
  rw [show M - 1 - (M - 1 - q) = q by omega]

theorem lines_snoc (p : Lp) (b : List Int) (m n : Nat) (all : List (List Int)) (a : List Int) : linesN p b m n (all ++ [a]) = if usedB p b m n a = true then joinedN (linesN p b m n all) (pieceN p b m n a) else linesN p b m n all := by
  unfold linesN
  rw [List.foldl_append]; rfl

theorem used_good (p : Lp) (b : List Int) (m n : Nat) (a : List Int) (h : usedB p b m n a = true) : goodB p a = true := by
  unfold usedB at h
  rw [Bool.and_eq_true] at h
  exact h.1

end Num

theorem Bx.all4 {b : Nat} {a0 a1 a2 a3 : Value} {w : World} (h : Bx b [a0, a1, a2, a3] w) :
    w.cell? ⟨b, 0, none⟩ = some a0 ∧ w.cell? ⟨b, 1, none⟩ = some a1 ∧ w.cell? ⟨b, 2, none⟩ = some a2 ∧ w.cell? ⟨b, 3, none⟩ = some a3 ∧ w.frozen? ⟨b, 0, none⟩ = false ∧ w.frozen? ⟨b, 1, none⟩ = false ∧ w.frozen? ⟨b, 2, none⟩ = false ∧ w.frozen? ⟨b, 3, none⟩ = false :=
  ⟨h.c 0 _ rfl, h.c 1 _ rfl, h.c 2 _ rfl, h.c 3 _ rfl, h.f 0, h.f 1, h.f 2, h.f 3⟩

/-- Blocks below B alone. -/
theorem Bx.stepLow {b B : Nat} {vs : List Value} {w w' : World} (h : Bx b vs w) (hb : Below B w w') (hB : b < B) : Bx b vs w' :=
  ⟨fun i v e => by rw [hb.cell (p := ⟨b, i, none⟩) hB]; exact h.c i v e, fun i => by rw [hb.frozen (p := ⟨b, i, none⟩) hB]; exact h.f i, Nat.lt_of_lt_of_le h.lt hb.size⟩

/-- The boxes of bestLines, and the map, the sets above s gone through. -/
structure BL (w : World) (ca : Option Addr) (cl cc : Nat) (ra : Option Addr) (rl rc : Nat) (ba : Option Addr) (bl bc : Nat) (l : List Num.Pc) (g : Bool) (A : World) : Prop where
  bel : Below w.heap.size w A
  pb : Bx w.heap.size [.slice ca cl cc, .slice ra rl rc] A
  bb : Bx (w.heap.size + 1) [.slice ba bl bc] A
  mp : MapIs A (w.heap.size + 1 + 1) l
  mb : Bx (w.heap.size + 1 + 1 + 1) [.map (some (w.heap.size + 1 + 1))] A
  gb : Bx (w.heap.size + 1 + 1 + 1 + 1) [.bool g] A
  cb : Bx (w.heap.size + 1 + 1 + 1 + 1 + 1) [.slice ca cl cc, .slice ra rl rc] A

section
variable {w : World} {ca : Option Addr} {cl cc : Nat} {ra : Option Addr} {rl rc : Nat} {ba : Option Addr} {bl bc : Nat} {l : List Num.Pc} {g : Bool} {A A' : World}

theorem BL.move (h : BL w ca cl cc ra rl rc ba bl bc l g A) (hb : Below (w.heap.size + 6) A A') : BL w ca cl cc ra rl rc ba bl bc l g A' :=
  ⟨h.bel.trans (hb.mono (by omega)), h.pb.stepLow hb (by omega), h.bb.stepLow hb (by omega), h.mp.kept (hb.block _ (by omega)), h.mb.stepLow hb (by omega), h.gb.stepLow hb (by omega), h.cb.stepLow hb (by omega)⟩

theorem BL.step (h : BL w ca cl cc ra rl rc ba bl bc l g A) (hb : Below A.heap.size A A') : BL w ca cl cc ra rl rc ba bl bc l g A' :=
  h.move (hb.mono (by have := h.cb.lt; omega))

theorem BL.putL (h : BL w ca cl cc ra rl rc ba bl bc l g A) (k : Nat) (o : Obj) (hk : w.heap.size + 6 ≤ k) : BL w ca cl cc ra rl rc ba bl bc l g (A.putObj k o) :=
  h.move (below_putObj o (Below.refl _ _) (by have := h.cb.lt; omega) hk)

theorem MapIs.setCell {W : World} {r b i : Nat} {l : List Num.Pc} (h : MapIs W r l) (hb : r ≠ b) (v : Value) : MapIs (W.setCell ⟨b, i, none⟩ v) r l := h.kept (Below.heap_setCell _ _ _ _ hb)

theorem BL.goes (h : BL w ca cl cc ra rl rc ba bl bc l g A) : BL w ca cl cc ra rl rc ba bl bc l true (A.setCell ⟨w.heap.size + 1 + 1 + 1 + 1, 0, none⟩ (.bool true)) :=
  ⟨bset h.bel (by omega) _, h.pb.other (by omega) _ _, h.bb.other (by omega) _ _, h.mp.setCell (by omega) _, h.mb.other (by omega) _ _, h.gb.set 0 _, h.cb.other (by omega) _ _⟩

theorem below_setBlock {B k : Nat} {W : World} (o : Obj) (hk : B ≤ k) : Below B W (setBlock W k o) := by
  refine ⟨rfl, rfl, rfl, by simp [setBlock], fun i hi => ?_⟩
  simp only [setBlock]
  rw [Array.getElem?_setIfInBounds_ne (by omega)]

theorem Bx.setBlock {b k : Nat} {vs : List Value} {W : World} (h : Bx b vs W) (o : Obj) (hk : b ≠ k) : Bx b vs (setBlock W k o) := by
  have hh : (Go.ChangeMaps.setBlock W k o).heap[b]? = W.heap[b]? := by
    simp only [Go.ChangeMaps.setBlock]
    rw [Array.getElem?_setIfInBounds_ne (by omega)]
  refine ⟨fun i v e => ?_, fun i => ?_, by simpa [Go.ChangeMaps.setBlock] using h.lt⟩
  · have := h.c i v e
    unfold World.cell? at this ⊢
    simp only [hh]
    exact this
  · have := h.f i
    unfold World.frozen? at this ⊢
    simp only [hh]
    exact this

theorem BL.put (h : BL w ca cl cc ra rl rc ba bl bc l g A) (o : Obj) (l' : List Num.Pc) (hm : MapIs (setBlock A (w.heap.size + 1 + 1) o) (w.heap.size + 1 + 1) l') : BL w ca cl cc ra rl rc ba bl bc l' g (setBlock A (w.heap.size + 1 + 1) o) :=
  ⟨h.bel.trans (below_setBlock o (by omega)), h.pb.setBlock o (by omega), h.bb.setBlock o (by omega), hm, h.mb.setBlock o (by omega), h.gb.setBlock o (by omega), h.cb.setBlock o (by omega)⟩

end

/-- Within a round: the boxes, and the loop's two blocks. -/
structure BD (w : World) (ca : Option Addr) (cl cc : Nat) (ra : Option Addr) (rl rc : Nat) (ba : Option Addr) (bl bc : Nat) (l : List Num.Pc) (g : Bool) (k : Nat) (V A : World) : Prop where
  bl : BL w ca cl cc ra rl rc ba bl bc l g A
  d : A.heap[k]? = V.heap[k]?
  e : A.heap[k + 1]? = V.heap[k + 1]?
  lt : k + 1 < A.heap.size

section
variable {w : World} {ca : Option Addr} {cl cc : Nat} {ra : Option Addr} {rl rc : Nat} {ba : Option Addr} {bl bc : Nat} {l : List Num.Pc} {g : Bool} {k : Nat} {V A A' : World}

theorem BD.step (h : BD w ca cl cc ra rl rc ba bl bc l g k V A) (hb : Below A.heap.size A A') : BD w ca cl cc ra rl rc ba bl bc l g k V A' :=
  ⟨h.bl.step hb, (hb.block _ (by have := h.lt; omega)).trans h.d, (hb.block _ h.lt).trans h.e, Nat.lt_of_lt_of_le h.lt hb.size⟩

theorem BD.goes (h : BD w ca cl cc ra rl rc ba bl bc l g k V A) (hk : k = w.heap.size + 6) : BD w ca cl cc ra rl rc ba bl bc l true k V (A.setCell ⟨w.heap.size + 1 + 1 + 1 + 1, 0, none⟩ (.bool true)) :=
  ⟨h.bl.goes, (Below.heap_setCell _ _ _ _ (by show k ≠ w.heap.size + 1 + 1 + 1 + 1; omega)).trans h.d, (Below.heap_setCell _ _ _ _ (by show k + 1 ≠ w.heap.size + 1 + 1 + 1 + 1; omega)).trans h.e, by simpa using h.lt⟩

theorem BD.set (h : BD w ca cl cc ra rl rc ba bl bc l g k V A) (hk : w.heap.size + 6 ≤ k) (b : Nat) (hb : k + 1 < b) (i : Nat) (u : Value) : BD w ca cl cc ra rl rc ba bl bc l g k V (A.setCell ⟨b, i, none⟩ u) :=
  ⟨h.bl.move (bset (Below.refl _ _) (by omega) _), (Below.heap_setCell _ _ _ _ (by show k ≠ b; omega)).trans h.d, (Below.heap_setCell _ _ _ _ (by show k + 1 ≠ b; omega)).trans h.e, by simpa using h.lt⟩

theorem BD.put (h : BD w ca cl cc ra rl rc ba bl bc l g k V A) (hk : k = w.heap.size + 6) (o : Obj) (l' : List Num.Pc) (hm : MapIs (setBlock A (w.heap.size + 1 + 1) o) (w.heap.size + 1 + 1) l') : BD w ca cl cc ra rl rc ba bl bc l' g k V (setBlock A (w.heap.size + 1 + 1) o) :=
  ⟨h.bl.put o l' hm, by
    show (Go.ChangeMaps.setBlock A (w.heap.size + 1 + 1) o).heap[k]? = _
    simp only [Go.ChangeMaps.setBlock]
    rw [Array.getElem?_setIfInBounds_ne (by omega)]; exact h.d, by
    show (Go.ChangeMaps.setBlock A (w.heap.size + 1 + 1) o).heap[k + 1]? = _
    simp only [Go.ChangeMaps.setBlock]
    rw [Array.getElem?_setIfInBounds_ne (by omega)]; exact h.e, by
    simp only [Go.ChangeMaps.setBlock, Array.size_setIfInBounds]; exact h.lt⟩

theorem BD.post {M s : Nat} {L : List Num.Pc} {G : Bool} (h : BD w ca cl cc ra rl rc ba bl bc l g k V A) (hs : s < M) (hl : L = l) (hg : G = g) : (s < M ∧ BL w ca cl cc ra rl rc ba bl bc L G A) ∧ A.heap[k]? = V.heap[k]? ∧ A.heap[k + 1]? = V.heap[k + 1]? := by
  subst hl hg
  exact ⟨⟨hs, h.bl⟩, h.d, h.e⟩

end

/-- A store where no number lies leaves numbers as they are. -/
theorem Ints.setNot {W : World} {a : Option Addr} {n b i : Nat} {l : List Int} {u v : Value} (h : Ints W a n l) (hv : W.cell? ⟨b, i, none⟩ = some v) (hn : ∀ z : Int, v ≠ .int .i64 z) : Ints (W.setCell ⟨b, i, none⟩ u) a n l := by
  refine ⟨h.1, ?_⟩
  rcases h.2 with h0 | ⟨g, off, e, hlt, hc⟩
  · exact Or.inl h0
  · refine Or.inr ⟨g, off, e, by simpa using hlt, fun k hk => ?_⟩
    rw [World.cell?_setCell_other _ _ _ _ (fun ea => ?_)]
    · exact hc k hk
    · have := hc k hk
      first
        | (rw [← ea, hv] at this; exact hn _ (Option.some.inj this))
        | (rw [ea, hv] at this; exact hn _ (Option.some.inj this))

end Go.Proofs.YtipcbhodlgoflabGreat
