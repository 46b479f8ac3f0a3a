/- Slices of slices of numbers as lists in memory; what corner.volumeBeside and corner.volume do. -/
import Derived.Test.YtipcbhodlgoflabDoorLayH
import Derived.Test.YtipcbhodlgoflabDoorNum
namespace Go.Proofs.YtipcbhodlgoflabDoor
open Go.RowKit

/-- A slice of so many slices of numbers, which are those of ls. -/
def Lines (w : World) (a : Option Addr) (len : Nat) (ls : List (List Int)) : Prop :=
  len = ls.length ∧ (len = 0 ∨ ∃ b off, a = some ⟨b, off, none⟩ ∧ b < w.heap.size ∧ ∀ j, j < len → ∃ ra rl rc, w.cell? ⟨b, off + j, none⟩ = some (.slice ra rl rc) ∧ Ints w ra rl (ls[j]?.getD []) ∧ rl ≤ rc)

theorem Lines.below {w w' : World} {B : Nat} {a : Option Addr} {len : Nat} {ls : List (List Int)} (h : Lines w a len ls) (hb : Below B w w') (hB : w.heap.size ≤ B) : Lines w' a len ls := by
  obtain ⟨h1, h2⟩ := h
  refine ⟨h1, ?_⟩
  rcases h2 with h2 | ⟨b, off, ha, hs, hc⟩
  · exact Or.inl h2
  · refine Or.inr ⟨b, off, ha, Nat.lt_of_lt_of_le hs hb.size, fun j hj => ?_⟩
    obtain ⟨ra, rl, rc, c0, hi, hr⟩ := hc j hj
    refine ⟨ra, rl, rc, ?_, hi.below hb hB, hr⟩
    rw [hb.cell (p := ⟨b, off + j, none⟩) (Nat.lt_of_lt_of_le hs hB)]; exact c0

theorem Lines.tail {w : World} {a : Option Addr} {len cap : Nat} {l : List Int} {r : List (List Int)} (h : Lines w a len (l :: r)) (hc : len ≤ cap) : Lines w (if cap = 1 then a else a.map (·.add 1)) (len - 1) r := by
  obtain ⟨h1, h2⟩ := h
  rw [List.length_cons] at h1
  refine ⟨by omega, ?_⟩
  by_cases h0 : len - 1 = 0
  · exact Or.inl h0
  · rw [if_neg (by omega)]
    rcases h2 with h2 | ⟨b, off, ha, hs, hc⟩
    · omega
    · refine Or.inr ⟨b, off + 1, by rw [ha]; rfl, hs, fun j hj => ?_⟩
      obtain ⟨ra, rl, rc, c0, hi, hr⟩ := hc (j + 1) (by omega)
      refine ⟨ra, rl, rc, ?_, by simpa using hi, hr⟩
      rw [show off + 1 + j = off + (j + 1) by omega]; exact c0

theorem Lines.head {w : World} {a : Option Addr} {len : Nat} {l : List Int} {r : List (List Int)} (h : Lines w a len (l :: r)) : ∃ b off ra rl rc, a = some ⟨b, off, none⟩ ∧ b < w.heap.size ∧ w.cell? ⟨b, off, none⟩ = some (.slice ra rl rc) ∧ Ints w ra rl l ∧ rl ≤ rc := by
  obtain ⟨h1, h2⟩ := h
  rw [List.length_cons] at h1
  rcases h2 with h2 | ⟨b, off, ha, hs, hc⟩
  · omega
  · obtain ⟨ra, rl, rc, c0, hi, hr⟩ := hc 0 (by omega)
    exact ⟨b, off, ra, rl, rc, ha, hs, c0, by simpa using hi, hr⟩

/-- The places that are taken, of four. -/
def tk (a b c d : Bool) (j : Nat) : Bool := if j = 0 then a else if j = 1 then b else if j = 2 then c else if j = 3 then d else false

theorem tk0 (a b c d : Bool) : Num.mark (tk a b c d) 0 = tk true b c d := by funext j; unfold Num.mark tk; repeat' split <;> simp_all
theorem tk1 (a b c d : Bool) : Num.mark (tk a b c d) 1 = tk a true c d := by funext j; unfold Num.mark tk; repeat' split <;> simp_all
theorem tk2 (a b c d : Bool) : Num.mark (tk a b c d) 2 = tk a b true d := by funext j; unfold Num.mark tk; repeat' split <;> simp_all
theorem tk3 (a b c d : Bool) : Num.mark (tk a b c d) 3 = tk a b c true := by funext j; unfold Num.mark tk; repeat' split <;> simp_all
theorem tk_none : tk false false false false = Num.none4 := by funext j; unfold Num.none4 tk; simp

theorem volSum_skip (f : Nat → Int) (l : List Int) (t : Nat → Bool) (k : Nat) (h : t k = true) : Num.volSum f l t (k + 1) = Num.volSum f l t k := by
  show (if t k then _ else _) = _
  rw [h]; rfl
theorem volSum_add (f : Nat → Int) (l : List Int) (t : Nat → Bool) (k : Nat) (h : t k = false) : Num.volSum f l t (k + 1) = ((Num.volSum f l t k).1 + (Num.volSum f l t k).2 * l[k]?.getD 0 * f k, -(Num.volSum f l t k).2) := by
  show (if t k then _ else _) = _
  rw [h]; rfl

/-- A box of four cells. -/
theorem box4 {w w1 : World} {a b c d : Value} {t : TypeId} (hb : Below (w.alloc (.cells #[a, b, c, d] t)).heap.size (w.alloc (.cells #[a, b, c, d] t)) w1) :
    w1.cell? ⟨w.heap.size, 0, none⟩ = some a ∧ w1.cell? ⟨w.heap.size, 1, none⟩ = some b ∧ w1.cell? ⟨w.heap.size, 2, none⟩ = some c ∧ w1.cell? ⟨w.heap.size, 3, none⟩ = some d ∧ w.heap.size < w1.heap.size ∧ Below w.heap.size w w1 := by
  refine ⟨?_, ?_, ?_, ?_, ?_, ?_⟩
  · rw [hb.cell (by simp)]; go_simp
  · rw [hb.cell (by simp)]; go_simp
  · rw [hb.cell (by simp)]; go_simp
  · rw [hb.cell (by simp)]; go_simp
  · have := hb.size; simp at this; omega
  · exact binto hb

end Go.Proofs.YtipcbhodlgoflabDoor

/- Slices that a function makes and fills; what corner.width, worth, mosts and worths do. -/
namespace Go.Proofs.YtipcbhodlgoflabDoor
open Go.RowKit

namespace Num

/-- The first k of n numbers, the others being 0. -/
def fill (f : Nat → Int) (n k : Nat) : List Int := (List.range n).map fun j => if j < k then f j else 0

theorem fill_zero (f : Nat → Int) (n : Nat) : fill f n 0 = List.replicate n 0 := by
  unfold fill
  apply List.ext_getElem?
  intro j
  simp [List.getElem?_replicate]
  by_cases h : j < n <;> simp [h]

theorem fill_all (f : Nat → Int) (n : Nat) : fill f n n = (List.range n).map f := by
  unfold fill
  apply List.map_congr_left
  intro j hj
  simp at hj
  simp [hj]

theorem fill_len (f : Nat → Int) (n k : Nat) : (fill f n k).length = n := by simp [fill]

theorem fill_getD (f : Nat → Int) (n k j : Nat) : (fill f n k)[j]?.getD 0 = if j < n ∧ j < k then f j else 0 := by
  unfold fill
  rw [List.getElem?_map]
  by_cases h : j < n
  · simp [h]
  · rw [List.getElem?_eq_none (by simp; omega)]; simp [h]

theorem fill_set (f : Nat → Int) (n k : Nat) (v : Int) (h : k < n) (hv : v = f k) : (fill f n k).set k v = fill f n (k + 1) := by
  subst hv
  unfold fill
  apply List.ext_getElem?
  intro j
  rw [List.getElem?_set]
  by_cases hj : k = j
  · subst hj; simp [h]
  · rw [if_neg hj]
    by_cases hn : j < n
    · simp [hn]
      by_cases hk : j < k
      · rw [if_pos hk, if_pos (by omega)]
      · rw [if_neg hk, if_neg (by omega)]
    · rw [List.getElem?_eq_none (by simp; omega), List.getElem?_eq_none (by simp; omega)]

theorem fill_skip (f : Nat → Int) (n k : Nat) (hv : f k = 0) : fill f n k = fill f n (k + 1) := by
  unfold fill
  apply List.map_congr_left
  intro j _
  by_cases hk : j = k
  · subst hk; simp [hv]
  · by_cases h : j < k
    · rw [if_pos h, if_pos (by omega)]
    · rw [if_neg h, if_neg (by omega)]

theorem range_getD (f : Nat → Int) (n j : Nat) : ((List.range n).map f)[j]?.getD 0 = if j < n then f j else 0 := by
  rw [List.getElem?_map]
  by_cases h : j < n
  · simp [h]
  · rw [List.getElem?_eq_none (by simp; omega)]; simp [h]

end Num

/-- A slice of the call's own: n numbers, which are those of l. -/
def Own (w : World) (base g n : Nat) (l : List Int) : Prop := w.ownsRow base 2 1 (.slice (some ⟨g, 0, none⟩) n n) n (l.map (Value.int .i64))

theorem Own.made {w : World} {base g n : Nat} (f : Nat → Int) (h : w.ownsRow base 2 1 (.slice (some ⟨g, 0, none⟩) n n) n (madeCells (Value.int .i64 0).cells (n * 1)).toList) : Own w base g n (Num.fill f n 0) := by
  unfold Own
  rw [Num.fill_zero, List.map_replicate]
  have e : (madeCells (Value.int .i64 0).cells (n * 1)).toList = List.replicate n (Value.int .i64 0) := by rw [Nat.mul_one]; exact toList_madeCells_one _ _
  rw [e] at h
  exact h

theorem Own.len {w : World} {base g n : Nat} {l : List Int} (h : Own w base g n l) : l.length = n := by simpa using h.1

theorem Own.cell {w : World} {base g n : Nat} {l : List Int} (h : Own w base g n l) (k : Nat) (hk : k < n) : w.cell? ⟨g, k, none⟩ = some (.int .i64 (l[k]?.getD 0)) ∧ w.frozen? ⟨g, k, none⟩ = false := by
  refine ⟨?_, World.ownsRow.frozenAt h k⟩
  have := World.ownsRow.cellAt h k (by omega)
  rw [this, List.getElem?_map, List.getElem?_eq_getElem (by have := h.len; omega)]
  simp

theorem Own.cell' {w : World} {base g n : Nat} {l : List Int} (h : Own w base g n l) (k : Nat) (hk : k < n) : (∃ u, w.cell? ⟨g, k, none⟩ = some u) ∧ w.frozen? ⟨g, k, none⟩ = false := ⟨⟨_, (h.cell k hk).1⟩, (h.cell k hk).2⟩

theorem Own.store {w : World} {base g n : Nat} {l : List Int} (h : Own w base g n l) (k : Nat) (v : Int) : Own (w.setCell ⟨g, k, none⟩ (.int .i64 v)) base g n (l.set k v) := by
  unfold Own
  rw [List.map_set]
  exact (World.ownsRow.stored h k (.int .i64 v)).1

theorem Own.lt {w : World} {base g n : Nat} {l : List Int} (h : Own w base g n l) : base ≤ g ∧ g < w.heap.size := World.ownsRow.lt h g rfl

theorem own_below {w w' : World} {base n : Nat} {t : TypeId} {g c : Nat} {xs : List Value} (h : w.ownsRow base t 1 (.slice (some ⟨g, 0, none⟩) n c) n xs) {B : Nat} (hb : Below B w w') (hB : g < B) : w'.ownsRow base t 1 (.slice (some ⟨g, 0, none⟩) n c) n xs := by
  refine ⟨h.1, ?_⟩
  rcases h.2 with ⟨h2, _⟩ | ⟨g', cap, cur, e, h3, h4, h5⟩
  · cases h2
  · refine Or.inr ⟨g', cap, cur, e, h3, ?_, h5⟩
    simp only [Value.slice.injEq, Option.some.injEq, Addr.mk.injEq] at e
    rw [hb.block g' (by omega)]
    exact h4

theorem Own.below {w w' : World} {base g n : Nat} {l : List Int} (h : Own w base g n l) {B : Nat} (hb : Below B w w') (hB : g < B) : Own w' base g n l := own_below h hb hB

theorem Own.alloc {w : World} {base g n : Nat} {l : List Int} (h : Own w base g n l) (o : Obj) : Own (w.alloc o) base g n l := h.below (balloc _ _) h.lt.2

theorem Own.ints {w : World} {base g n : Nat} {l : List Int} (h : Own w base g n l) : Ints w (some ⟨g, 0, none⟩) n l :=
  ⟨h.len.symm, Or.inr ⟨g, 0, rfl, h.lt.2, fun j hj => by rw [Nat.zero_add]; exact (h.cell j hj).1⟩⟩

/-- A store into a block from B on. -/
theorem bset {B : Nat} {a w : World} (h : Below B a w) {g k : Nat} (hg : B ≤ g) (v : Value) : Below B a (w.setCell ⟨g, k, none⟩ v) := h.setCell hg v

theorem made_below {w w' : World} (h : w.grownBy w' none) : Below w.heap.size w w' := (Below.refl _ _).grown h (Nat.le_refl _) (fun _ hk => by cases hk)

def Num.mostF (p : Num.Lp) (i : Nat) : Int := (p.rows[i]?.getD ([], 0)).2

def Num.atF (at' : List Int) (k : Nat) : Nat := (at'[k]?.getD 0).toNat

end Go.Proofs.YtipcbhodlgoflabDoor

/- What corner.column, columns and spread do. -/
namespace Go.Proofs.YtipcbhodlgoflabDoor
open Go.RowKit

namespace Num
/-- What the column j has in row i. -/
def hasF (p : Lp) (j i : Nat) : Int := if j < p.costs.length then (p.rows[i]?.getD ([], 0)).1[j]?.getD 0 else if j = p.costs.length + i then 1 else 0

theorem hasF_in (p : Lp) (j i : Nat) (r : List Int × Int) (hr : p.rows[i]?.getD ([], 0) = r) (h : j < p.costs.length) : hasF p j i = r.1[j]?.getD 0 := by unfold hasF; rw [if_pos h, hr]
theorem hasF_one (p : Lp) (j i : Nat) (h : j = p.costs.length + i) : hasF p j i = 1 := by unfold hasF; rw [if_neg (by omega), if_pos h]
theorem hasF_zero (p : Lp) (j i : Nat) (h : ¬ j < p.costs.length) (h2 : j ≠ p.costs.length + i) : hasF p j i = 0 := by unfold hasF; rw [if_neg h, if_neg h2]

theorem hasF_bd (p : Lp) (hm : p.may = true) (j i : Nat) : -12 ≤ hasF p j i ∧ hasF p j i ≤ 12 := by
  unfold hasF
  split
  · by_cases hi : i < p.rows.length
    · exact withinB_iff _ _ (p.row_of hm i hi).2.1 (by omega) j
    · rw [List.getElem?_eq_none (l := p.rows) (by omega)]; simp
  · split <;> omega
end Num

end Go.Proofs.YtipcbhodlgoflabDoor

/- Slices of slices that a function makes and fills; what corner.columns and spread do. -/
namespace Go.Proofs.YtipcbhodlgoflabDoor
open Go.RowKit

theorem Tryd.infoSl : (Tryd.prog.info? 22).map (fun i => (i.zero, i.size, i.bytes)) = some (some (.slice none 0 0), 1, 24) := by kernel_rfl

/-- A slice of the call's own of n slices, of which the first k lie behind it and hold the numbers that f says. -/
def OwnL (w : World) (base g n k : Nat) (f : Nat → List Int) : Prop :=
  ∃ vs : List Value, w.ownsRow base 22 1 (.slice (some ⟨g, 0, none⟩) n n) n vs ∧ ∀ j, j < k → ∃ gj m, vs[j]? = some (.slice (some ⟨gj, 0, none⟩) m m) ∧ g < gj ∧ Ints w (some ⟨gj, 0, none⟩) m (f j)

theorem OwnL.made {w : World} {base g n : Nat} {xs : List Value} (f : Nat → List Int) (h : w.ownsRow base 22 1 (.slice (some ⟨g, 0, none⟩) n n) n xs) : OwnL w base g n 0 f :=
  ⟨xs, h, fun _ hj => absurd hj (Nat.not_lt_zero _)⟩

theorem OwnL.lt {w : World} {base g n k : Nat} {f : Nat → List Int} (h : OwnL w base g n k f) : base ≤ g ∧ g < w.heap.size := by
  obtain ⟨vs, h, _⟩ := h
  exact World.ownsRow.lt h g rfl

theorem OwnL.cell' {w : World} {base g n k : Nat} {f : Nat → List Int} (h : OwnL w base g n k f) (j : Nat) (hj : j < n) : (∃ u, w.cell? ⟨g, j, none⟩ = some u) ∧ w.frozen? ⟨g, j, none⟩ = false := by
  obtain ⟨vs, h, _⟩ := h
  have hl : vs.length = n := by simpa using h.1
  refine ⟨⟨vs[j], ?_⟩, World.ownsRow.frozenAt h j⟩
  rw [World.ownsRow.cellAt h j (by omega)]
  exact List.getElem?_eq_getElem (by omega)

theorem Ints.setOff {w : World} {g' n : Nat} {l : List Int} (h : Ints w (some ⟨g', 0, none⟩) n l) {g j : Nat} (hg : g < g') (u : Value) : Ints (w.setCell ⟨g, j, none⟩ u) (some ⟨g', 0, none⟩) n l :=
  Ints.set (base := g + 1) h (Or.inr ⟨g', rfl, by omega⟩) (by show g < g + 1; omega) u

theorem OwnL.store {w : World} {base g n k : Nat} {f : Nat → List Int} (h : OwnL w base g n k f) (hk : k < n) {gk m : Nat} (hg : g < gk) (hi : Ints w (some ⟨gk, 0, none⟩) m (f k)) :
    OwnL (w.setCell ⟨g, k, none⟩ (.slice (some ⟨gk, 0, none⟩) m m)) base g n (k + 1) f := by
  obtain ⟨vs, h, hin⟩ := h
  have hl : vs.length = n := by simpa using h.1
  refine ⟨vs.set k (.slice (some ⟨gk, 0, none⟩) m m), (World.ownsRow.stored h k _).1, fun j hj => ?_⟩
  by_cases hjk : j = k
  · subst hjk
    exact ⟨gk, m, by rw [List.getElem?_set_self (by omega)], hg, hi.setOff hg _⟩
  · obtain ⟨gj, m', h1, h2, h3⟩ := hin j (by omega)
    exact ⟨gj, m', by rw [List.getElem?_set_ne (by omega)]; exact h1, h2, h3.setOff h2 _⟩

theorem OwnL.below {w w' : World} {base g n k : Nat} {f : Nat → List Int} (h : OwnL w base g n k f) {B : Nat} (hb : Below B w w') (hB : w.heap.size ≤ B) : OwnL w' base g n k f := by
  have hlt := h.lt.2
  obtain ⟨vs, h, hin⟩ := h
  refine ⟨vs, own_below h hb (by omega), fun j hj => ?_⟩
  obtain ⟨gj, m', h1, h2, h3⟩ := hin j hj
  exact ⟨gj, m', h1, h2, h3.below hb hB⟩

theorem getD_range {α : Type} (f : Nat → α) (n j : Nat) (d : α) (h : j < n) : ((List.range n).map f)[j]?.getD d = f j := by
  rw [List.getElem?_map]; simp [h]

theorem OwnL.lines {w : World} {base g n : Nat} {f : Nat → List Int} (h : OwnL w base g n n f) : Lines w (some ⟨g, 0, none⟩) n ((List.range n).map f) := by
  have hlt := h.lt.2
  obtain ⟨vs, h, hin⟩ := h
  have hl : vs.length = n := by simpa using h.1
  refine ⟨by simp, Or.inr ⟨g, 0, rfl, hlt, fun j hj => ?_⟩⟩
  obtain ⟨gj, m', h1, h2, h3⟩ := hin j hj
  refine ⟨_, _, _, ?_, by rw [getD_range f n j [] hj]; exact h3, Nat.le_refl _⟩
  rw [Nat.zero_add, World.ownsRow.cellAt h j (by omega)]
  exact h1

namespace Num
/-- Numbers of the columns at, as numbers of all columns, the others being 0: after k of them. -/
def spreadN (N : Nat) (at' nums : List Int) : Nat → List Int
  | 0 => List.replicate N 0
  | k + 1 => (spreadN N at' nums k).set (atF at' k) (nums[k]?.getD 0)
end Num

end Go.Proofs.YtipcbhodlgoflabDoor

/- What corner.gains does. -/
namespace Go.Proofs.YtipcbhodlgoflabDoor
open Go.RowKit

/-- Below B all is as in V; the row of the call's own is l, or has x at k already. -/
structure Rowed (V : World) (base g n k : Nat) (l : List Int) (x : Int) (w : World) : Prop where
  bel : Below V.heap.size V w
  row : ∃ l', Own w base g n l' ∧ (l' = l ∨ l' = l.set k x)

theorem Rowed.start {V : World} {base g n k : Nat} {l : List Int} {x : Int} {w : World} (h : Below V.heap.size V w) (ho : Own w base g n l) : Rowed V base g n k l x w := ⟨h, l, ho, Or.inl rfl⟩

theorem Rowed.drew {V : World} {base g n k : Nat} {l : List Int} {x : Int} {w : World} (h : Rowed V base g n k l x w) : Rowed V base g n k l x w.drew :=
  ⟨h.bel.drew, by obtain ⟨l', ho, hl⟩ := h.row; exact ⟨l', ho, hl⟩⟩

theorem Rowed.step {V : World} {base g n k : Nat} {l : List Int} {x : Int} {w w' : World} (h : Rowed V base g n k l x w) (hb : Below w.heap.size w w') : Rowed V base g n k l x w' :=
  ⟨bstep h.bel hb, by obtain ⟨l', ho, hl⟩ := h.row; exact ⟨l', ho.below hb ho.lt.2, hl⟩⟩

theorem Rowed.stored {V : World} {base g n k : Nat} {l : List Int} {x : Int} {w : World} (h : Rowed V base g n k l x w) : Own (w.setCell ⟨g, k, none⟩ (.int .i64 x)) base g n (l.set k x) := by
  obtain ⟨l', ho, hl⟩ := h.row
  have := ho.store k x
  rcases hl with rfl | rfl
  · exact this
  · rw [List.set_set] at this; exact this

theorem Rowed.set {V : World} {base g n k : Nat} {l : List Int} {x : Int} {w : World} (h : Rowed V base g n k l x w) (hg : V.heap.size ≤ g) : Rowed V base g n k l x (w.setCell ⟨g, k, none⟩ (.int .i64 x)) :=
  ⟨bset h.bel hg _, _, h.stored, Or.inr rfl⟩

theorem Rowed.cell {V : World} {base g n k : Nat} {l : List Int} {x : Int} (hk : k < n) : ∃ F : World → Value, (∀ w, Rowed V base g n k l x w → w.cell? ⟨g, k, none⟩ = some (F w)) ∧ (∀ w, Rowed V base g n k l x w → w.frozen? ⟨g, k, none⟩ = false) := by
  refine ⟨fun w => (w.cell? ⟨g, k, none⟩).getD undef, ?_, ?_⟩
  · intro w h
    obtain ⟨l', ho, _⟩ := h.row
    show w.cell? ⟨g, k, none⟩ = some ((w.cell? ⟨g, k, none⟩).getD undef)
    rw [(ho.cell k hk).1]; rfl
  · intro w h
    obtain ⟨l', ho, _⟩ := h.row
    exact (ho.cell k hk).2

def Num.gainF (p : Num.Lp) (y : List Int) (d : Int) (j : Nat) : Int := p.costs[j]?.getD 0 * d - Num.dotN ((List.range p.rows.length).map (Num.hasF p j)) y p.rows.length

end Go.Proofs.YtipcbhodlgoflabDoor

/- What slices.Clone, corner.shares and corner.turned do. -/
namespace Go.Proofs.YtipcbhodlgoflabDoor
open Go.RowKit

theorem Lines.shape {w : World} {a : Option Addr} {n : Nat} {ls : List (List Int)} (h : Lines w a n ls) (h1 : 1 ≤ n) : ∃ b off, a = some ⟨b, off, none⟩ ∧ b < w.heap.size ∧ ∃ vs : List Value, vs.length = n ∧ (∀ j, j < n → w.cell? ⟨b, off + j, none⟩ = vs[j]?) ∧
    ∀ j, j < n → ∃ ra rl rc, vs[j]? = some (.slice ra rl rc) ∧ Ints w ra rl (ls[j]?.getD []) ∧ rl ≤ rc := by
  rcases h.2 with h0 | ⟨b, off, ha, hs, hc⟩
  · omega
  · refine ⟨b, off, ha, hs, (List.range n).map (fun j => (w.cell? ⟨b, off + j, none⟩).getD undef), by simp, fun j hj => ?_, fun j hj => ?_⟩
    · obtain ⟨ra, rl, rc, c0, _⟩ := hc j hj
      rw [List.getElem?_map]
      simp [hj, c0]
    · obtain ⟨ra, rl, rc, c0, c1, c2⟩ := hc j hj
      refine ⟨ra, rl, rc, ?_, c1, c2⟩
      rw [List.getElem?_map]
      simp [hj, c0]

theorem addr_add (b off j : Nat) : (⟨b, off, none⟩ : Addr).add j = ⟨b, off + j, none⟩ := by unfold Addr.add; split <;> simp_all

/-- Cells of a slice that was there, as the law on append asks for them. -/
theorem news_at {w w' : World} {b off n : Nat} {vs : List Value} (hb : Below w.heap.size w w') (hlt : b < w.heap.size) (hv : vs.length = n) (hc : ∀ j, j < n → w.cell? ⟨b, off + j, none⟩ = vs[j]?) :
    ∀ (j : Nat) (u : Value), vs[j]? = some u → w'.cell? ((⟨b, off, none⟩ : Addr).add j) = some u := by
  intro j u hu
  have hj : j < n := by
    rcases Nat.lt_or_ge j vs.length with h | h
    · omega
    · rw [List.getElem?_eq_none h] at hu; cases hu
  rw [addr_add, hb.cell (p := ⟨b, off + j, none⟩) hlt, hc j hj, hu]

theorem one_cells {vs : List Value} {n : Nat} (hv : vs.length = n) (hs : ∀ j, j < n → ∃ ra rl rc, vs[j]? = some (.slice ra rl rc)) : ∀ u ∈ vs, u.oneCell' = true := by
  intro u hu
  obtain ⟨j, hj, rfl⟩ := List.getElem_of_mem hu
  obtain ⟨ra, rl, rc, h⟩ := hs j (by omega)
  rw [List.getElem?_eq_getElem hj] at h
  simp only [Option.some.injEq] at h
  rw [h]; rfl

theorem own_some {w : World} {base n : Nat} {t : TypeId} {v : Value} {xs : List Value} (h : w.ownsRow base t 1 v n xs) (h1 : 1 ≤ n) : ∃ g c, v = .slice (some ⟨g, 0, none⟩) n c ∧ base ≤ g ∧ n ≤ c := by
  rcases h.2 with ⟨_, h0⟩ | ⟨g, cap, cur, hv, hb, _, hc, _⟩
  · omega
  · exact ⟨g, cap, hv, hb, hc⟩

namespace Num
theorem BdL.set {B : Int} {ls : List (List Int)} (h : BdL B ls) (k : Nat) (l : List Int) (hl : ∀ j : Nat, -B ≤ l[j]?.getD 0 ∧ l[j]?.getD 0 ≤ B) : BdL B (ls.set k l) := by
  intro i j
  unfold at2
  rw [List.getElem?_set]
  by_cases hk : k = i
  · by_cases hi : k < ls.length
    · simp only [hk, if_true]; rw [if_pos (by omega)]; exact hl j
    · rw [if_pos hk, if_neg hi]; have := hl 0; simp; omega
  · rw [if_neg hk]; exact h i j

theorem mem_set_le {ls : List (List Int)} {n : Nat} (h : ∀ l ∈ ls, l.length ≤ n) (k : Nat) (x : List Int) (hx : x.length ≤ n) : ∀ l ∈ ls.set k x, l.length ≤ n := by
  intro l hl
  rcases List.mem_or_eq_of_mem_set hl with h1 | rfl
  · exact h l h1
  · exact hx
end Num

/-- Lines, one of them put in the place of another in a row of the call's own. -/
theorem lines_set {w w' : World} {base g c n k : Nat} {vs : List Value} {ls : List (List Int)} {wa : Option Addr} {wl wc : Nat} {want : List Int} (hls : ls.length = n) (ho : w'.ownsRow base 22 1 (.slice (some ⟨g, 0, none⟩) n c) n vs) (hb : Below w.heap.size w w') (hg : w.heap.size ≤ g)
    (hin : ∀ j, j < n → ∃ ra rl rc, vs[j]? = some (.slice ra rl rc) ∧ Ints w ra rl (ls[j]?.getD []) ∧ rl ≤ rc) (hk : k < n) (hw : Ints w wa wl want) (hwc : wl ≤ wc) :
    Lines (w'.setCell ⟨g, k, none⟩ (.slice wa wl wc)) (some ⟨g, 0, none⟩) n (ls.set k want) := by
  have hst := World.ownsRow.stored ho k (.slice wa wl wc)
  have hlt := (World.ownsRow.lt hst.1 g rfl).2
  have hb' : Below w.heap.size w (w'.setCell ⟨g, k, none⟩ (.slice wa wl wc)) := bset hb hg _
  have hl : vs.length = n := by simpa using ho.1
  refine ⟨by simp [hls], Or.inr ⟨g, 0, rfl, hlt, fun j hj => ?_⟩⟩
  rw [Nat.zero_add, World.ownsRow.cellAt hst.1 j (by omega)]
  by_cases hjk : k = j
  · subst hjk
    refine ⟨wa, wl, wc, by rw [List.getElem?_set_self (by omega)], ?_, hwc⟩
    rw [List.getElem?_set_self (by omega)]
    exact hw.below hb' (Nat.le_refl _)
  · obtain ⟨ra, rl, rc, h1, h2, h3⟩ := hin j hj
    refine ⟨ra, rl, rc, by rw [List.getElem?_set_ne hjk]; exact h1, ?_, h3⟩
    rw [List.getElem?_set_ne hjk]
    exact h2.below hb' (Nat.le_refl _)

end Go.Proofs.YtipcbhodlgoflabDoor

/- What corner.turned does. -/
namespace Go.Proofs.YtipcbhodlgoflabDoor
open Go.RowKit

theorem Ints.keep {w w' : World} {g n B : Nat} {l : List Int} (h : Ints w (some ⟨g, 0, none⟩) n l) (hb : Below B w w') (hg : g < B ∨ n = 0) : Ints w' (some ⟨g, 0, none⟩) n l := by
  obtain ⟨h1, h2⟩ := h
  refine ⟨h1, ?_⟩
  rcases h2 with h2 | ⟨b, off, ha, hs, hc⟩
  · exact Or.inl h2
  · rcases hg with hg | hg
    · simp only [Option.some.injEq, Addr.mk.injEq] at ha
      refine Or.inr ⟨b, off, by simp [ha], Nat.lt_of_lt_of_le hs hb.size, fun j hj => ?_⟩
      rw [hb.cell (p := ⟨b, off + j, none⟩) (by dsimp only; omega)]
      exact hc j hj
    · exact Or.inl hg

theorem Ints.lt {w : World} {g n : Nat} {l : List Int} (h : Ints w (some ⟨g, 0, none⟩) n l) : g < w.heap.size ∨ n = 0 := by
  rcases h.2 with h2 | ⟨b, off, ha, hs, _⟩
  · exact Or.inr h2
  · simp only [Option.some.injEq, Addr.mk.injEq] at ha
    exact Or.inl (by omega)

/-- A row that was laid at gi, behind all others, put into the place i, and filled there. -/
theorem OwnL.push {wr w5 w7 : World} {base g n i m : Nat} {f : Nat → List Int} (h : OwnL wr base g n i f) (hi : i < n) (h5 : Below wr.heap.size wr w5) (h7 : Below wr.heap.size (w5.setCell ⟨g, i, none⟩ (.slice (some ⟨wr.heap.size, 0, none⟩) m m)) w7)
    (hI : Ints w7 (some ⟨wr.heap.size, 0, none⟩) m (f i)) : OwnL w7 base g n (i + 1) f := by
  have hlt := h.lt.2
  obtain ⟨vs, h, hin⟩ := h
  have hl : vs.length = n := by simpa using h.1
  refine ⟨vs.set i (.slice (some ⟨wr.heap.size, 0, none⟩) m m), own_below (World.ownsRow.stored (own_below h h5 hlt) i _).1 h7 hlt, fun j hj => ?_⟩
  by_cases hjk : j = i
  · subst hjk
    exact ⟨_, m, by rw [List.getElem?_set_self (by omega)], hlt, hI⟩
  · obtain ⟨gj, m', h1, h2, h3⟩ := hin j (by omega)
    exact ⟨gj, m', by rw [List.getElem?_set_ne (by omega)]; exact h1, h2, ((h3.below h5 (Nat.le_refl _)).setOff h2 _).keep h7 h3.lt⟩

end Go.Proofs.YtipcbhodlgoflabDoor

/- What corner.areChosen and the document's Right do. -/
namespace Go.Proofs.YtipcbhodlgoflabDoor
open Go.RowKit

namespace Num
def leastN (at' : List Int) : Nat → Int
  | 0 => 0
  | k + 1 => at'[k]?.getD 0 + 1
def okN (at' : List Int) (N : Nat) : Nat → Bool
  | 0 => true
  | k + 1 => okN at' N k && (decide (leastN at' k ≤ at'[k]?.getD 0) && decide (at'[k]?.getD 0 < N))
/-- As many numbers of columns as there are rows, rising. -/
def rightB (at' : List Int) (m N : Nat) : Bool := (at'.length == m) && okN at' N m

theorem okN_succ (at' : List Int) (N k : Nat) : okN at' N (k + 1) = (okN at' N k && (decide (leastN at' k ≤ at'[k]?.getD 0) && decide (at'[k]?.getD 0 < N))) := rfl

theorem okN_bad (at' : List Int) (N k m : Nat) (hk : k < m) (h : at'[k]?.getD 0 < leastN at' k ∨ (N : Int) ≤ at'[k]?.getD 0) : okN at' N m = false := by
  induction m with
  | zero => omega
  | succ m ih =>
    rw [okN_succ]
    by_cases hm : k = m
    · subst hm
      rcases h with h | h
      · have : ¬ leastN at' k ≤ at'[k]?.getD 0 := by omega
        simp [this]
      · have : ¬ at'[k]?.getD 0 < N := by omega
        simp [this]
    · rw [ih (by omega)]; rfl

theorem okN_all (at' : List Int) (N m : Nat) (h : okN at' N m = true) : ∀ k, k < m → leastN at' k ≤ at'[k]?.getD 0 ∧ at'[k]?.getD 0 < N := by
  induction m with
  | zero => intro k hk; omega
  | succ m ih =>
    rw [okN_succ] at h
    simp only [Bool.and_eq_true, decide_eq_true_eq] at h
    intro k hk
    by_cases hm : k = m
    · subst hm; exact h.2
    · exact ih h.1 k (by omega)

theorem leastN_nonneg (at' : List Int) (N m : Nat) (h : okN at' N m = true) : ∀ k, k ≤ m → 0 ≤ leastN at' k := by
  intro k hk
  induction k with
  | zero => exact Int.le_refl _
  | succ k ih =>
    have := okN_all at' N m h k (by omega)
    have := ih (by omega)
    show 0 ≤ at'[k]?.getD 0 + 1
    omega

theorem right_all (at' : List Int) (m N : Nat) (h : rightB at' m N = true) : at'.length = m ∧ ∀ k, k < m → 0 ≤ at'[k]?.getD 0 ∧ at'[k]?.getD 0 < N := by
  unfold rightB at h
  simp only [Bool.and_eq_true, beq_iff_eq] at h
  refine ⟨h.1, fun k hk => ?_⟩
  have := okN_all at' N m h.2 k hk
  have := leastN_nonneg at' N m h.2 k (by omega)
  omega
end Num

end Go.Proofs.YtipcbhodlgoflabDoor

/- The corner of a program that columns make, in plain numbers. -/
namespace Go.Proofs.YtipcbhodlgoflabDoor
namespace Num

def chosenL (p : Lp) (at' : List Int) (m : Nat) : List (List Int) := (List.range m).map fun k => (List.range m).map (hasF p (atF at' k))
def worthsL (p : Lp) (at' : List Int) (m : Nat) : List Int := (List.range m).map fun k => p.costs[atF at' k]?.getD 0
def mostsL (p : Lp) (m : Nat) : List Int := (List.range m).map (mostF p)
def sharesL (ls : List (List Int)) (want : List Int) (m : Nat) : List Int := (List.range m).map fun k => vol (ls.set k want) none4
def denL (p : Lp) (at' : List Int) (m : Nat) : Int := vol (chosenL p at' m) none4
def priceL (p : Lp) (at' : List Int) (m : Nat) : List Int := sharesL (turnL (chosenL p at' m)) (worthsL p at' m) m
def xL (p : Lp) (at' : List Int) (m N : Nat) : List Int := spreadN N at' (sharesL (chosenL p at' m) (mostsL p m) m) m
def gainL (p : Lp) (at' : List Int) (m N : Nat) : List Int := (List.range N).map (gainF p (priceL p at' m) (denL p at' m))

theorem at2_range (f : Nat → List Int) (n i j : Nat) : at2 ((List.range n).map f) i j = if i < n then (f i)[j]?.getD 0 else 0 := by
  unfold at2
  by_cases h : i < n
  · rw [getD_range f n i [] h, if_pos h]
  · rw [List.getElem?_eq_none (l := (List.range n).map f) (by simp; omega), if_neg h]; simp

theorem chosen_bd (p : Lp) (hm : p.may = true) (at' : List Int) (m : Nat) : BdL 400 (chosenL p at' m) := by
  intro i j
  unfold chosenL
  rw [at2_range]
  split
  · rw [range_getD]
    split
    · have := hasF_bd p hm (atF at' i) j; omega
    · omega
  · omega

theorem chosen_len (p : Lp) (at' : List Int) (m : Nat) : (chosenL p at' m).length = m ∧ ∀ l ∈ chosenL p at' m, l.length = m := by
  unfold chosenL
  refine ⟨by simp, fun l hl => ?_⟩
  obtain ⟨k, _, rfl⟩ := List.mem_map.1 hl
  simp

theorem turn_len (ls : List (List Int)) (m : Nat) (h : ls.length = m) : (turnL ls).length = m ∧ ∀ l ∈ turnL ls, l.length = m := by
  unfold turnL
  refine ⟨by simp [h], fun l hl => ?_⟩
  obtain ⟨k, _, rfl⟩ := List.mem_map.1 hl
  simp [h]

theorem turn_bd (ls : List (List Int)) (B : Int) (h : BdL B ls) : BdL B (turnL ls) := by
  intro i j
  have h0 := h 0 0
  unfold turnL
  rw [at2_range]
  split
  · rw [range_getD]
    split
    · exact h j i
    · omega
  · omega

theorem worths_bd (p : Lp) (hm : p.may = true) (at' : List Int) (m : Nat) : ∀ j : Nat, -400 ≤ (worthsL p at' m)[j]?.getD 0 ∧ (worthsL p at' m)[j]?.getD 0 ≤ 400 := by
  intro j
  unfold worthsL
  rw [range_getD]
  split
  · exact withinB_iff _ _ (p.may_of hm).2.1 (by omega) _
  · omega

theorem mosts_bd (p : Lp) (hm : p.may = true) (m : Nat) : ∀ j : Nat, -400 ≤ (mostsL p m)[j]?.getD 0 ∧ (mostsL p m)[j]?.getD 0 ≤ 400 := by
  intro j
  unfold mostsL
  rw [range_getD]
  split
  · unfold mostF
    by_cases hj : j < p.rows.length
    · have := (p.row_of hm j hj).2.2; omega
    · rw [List.getElem?_eq_none (l := p.rows) (by omega)]; simp
  · omega

theorem shares_bd (ls : List (List Int)) (want : List Int) (m : Nat) (h : BdL 400 ls) (hl : ls.length ≤ 4) (h4 : ∀ l ∈ ls, l.length ≤ 4) (hw : ∀ j : Nat, -400 ≤ want[j]?.getD 0 ∧ want[j]?.getD 0 ≤ 400) (hw4 : want.length ≤ 4) :
    ∀ j : Nat, -6553600000000 ≤ (sharesL ls want m)[j]?.getD 0 ∧ (sharesL ls want m)[j]?.getD 0 ≤ 6553600000000 := by
  intro j
  unfold sharesL
  rw [range_getD]
  split
  · exact vol_bd' _ _ (h.set j want hw) (mem_set_le h4 j want hw4) (by simpa using hl)
  · omega

theorem den_bd (p : Lp) (hm : p.may = true) (at' : List Int) (m : Nat) (h4 : m ≤ 4) : -6553600000000 ≤ denL p at' m ∧ denL p at' m ≤ 6553600000000 :=
  vol_bd' _ _ (chosen_bd p hm at' m) (fun l hl => by have := (chosen_len p at' m).2 l hl; omega) (by have := (chosen_len p at' m).1; omega)

theorem price_bd (p : Lp) (hm : p.may = true) (at' : List Int) (m : Nat) (h4 : m ≤ 4) : ∀ j : Nat, -6553600000000 ≤ (priceL p at' m)[j]?.getD 0 ∧ (priceL p at' m)[j]?.getD 0 ≤ 6553600000000 := by
  have h := turn_len (chosenL p at' m) m (chosen_len p at' m).1
  exact shares_bd _ _ m (turn_bd _ _ (chosen_bd p hm at' m)) (by omega) (fun l hl => by have := h.2 l hl; omega) (worths_bd p hm at' m) (by unfold worthsL; simpa using h4)

/-- What Look answers: what is wrong, and the three points. -/
structure Look where
  err : Int
  x : List Int
  xd : Int
  y : List Int
  yd : Int
  g : List Int
  gd : Int

def noLook (e : Int) : Look := ⟨e, [], 0, [], 0, [], 0⟩

def look (p : Lp) (at' : List Int) : Look :=
  if p.may = false then noLook 2
  else if rightB at' p.rows.length (p.costs.length + p.rows.length) = false then noLook 3
  else if denL p at' p.rows.length = 0 then noLook 4
  else
    let m := p.rows.length
    let N := p.costs.length + m
    ⟨0, (pt (xL p at' m N) (denL p at' m)).1, (pt (xL p at' m N) (denL p at' m)).2.1, (pt (priceL p at' m) (denL p at' m)).1, (pt (priceL p at' m) (denL p at' m)).2.1,
      (pt (gainL p at' m N) (denL p at' m)).1, (pt (gainL p at' m N) (denL p at' m)).2.1⟩

end Num
end Go.Proofs.YtipcbhodlgoflabDoor
