/- What the walks lean on: a slice of 64-bit numbers as a list in memory, and what a later world keeps of it. -/
import Derived.WalkKit
import Derived.WalkSpells
import Derived.WalkLawsBesides
import Derived.Deep.QuietTactic
import Derived.BigQuiet
import Derived.Test.YtipcbhodlgoflabDoorNum
import Derived.Test.YtipcbhodlgoflabDoorRows
namespace Go.Proofs.YtipcbhodlgoflabDoor
open Go.RowKit

/-- A slice of so many 64-bit numbers, which are those of l. -/
def Ints (w : World) (a : Option Addr) (len : Nat) (l : List Int) : Prop :=
  len = l.length ∧ (len = 0 ∨ ∃ b off, a = some ⟨b, off, none⟩ ∧ b < w.heap.size ∧ ∀ j, j < len → w.cell? ⟨b, off + j, none⟩ = some (.int .i64 (l[j]?.getD 0)))

theorem Ints.below {w w' : World} {B : Nat} {a : Option Addr} {len : Nat} {l : List Int} (h : Ints w a len l) (hb : Below B w w') (hB : w.heap.size ≤ B) : Ints w' a len l := by
  obtain ⟨h1, h2⟩ := h
  refine ⟨h1, ?_⟩
  rcases h2 with h2 | ⟨b, off, ha, hs, hc⟩
  · exact Or.inl h2
  · exact Or.inr ⟨b, off, ha, Nat.lt_of_lt_of_le hs hb.size, fun j hj => by rw [hb.cell (p := ⟨b, off + j, none⟩) (Nat.lt_of_lt_of_le hs hB)]; exact hc j hj⟩

theorem Ints.new (w : World) (x : Int) (t : TypeId) : Ints (w.alloc (.cells #[.int .i64 x] t)) (some ⟨w.heap.size, 0, none⟩) 1 [x] := by
  refine ⟨rfl, Or.inr ⟨w.heap.size, 0, rfl, by simp, fun j hj => ?_⟩⟩
  obtain rfl : j = 0 := by omega
  simp

theorem Ints.newAt {w : World} {k : Nat} (hk : k = w.heap.size) (x : Int) (t : TypeId) : Ints (w.alloc (.cells #[.int .i64 x] t)) (some ⟨k, 0, none⟩) 1 [x] := by
  subst hk; exact Ints.new w x t

theorem bcell {W w1 : World} (hb : Below W.heap.size W w1) : (∀ b o, b < W.heap.size → w1.cell? ⟨b, o, none⟩ = W.cell? ⟨b, o, none⟩) ∧ (∀ b o, b < W.heap.size → w1.frozen? ⟨b, o, none⟩ = W.frozen? ⟨b, o, none⟩) :=
  ⟨fun b o h => hb.cell (p := ⟨b, o, none⟩) h, fun b o h => hb.frozen (p := ⟨b, o, none⟩) h⟩

theorem bnext {w w1 w2 : World} {o : Obj} (h : Below w.heap.size w w1) (k : Below (w1.alloc o).heap.size (w1.alloc o) w2) : Below w.heap.size w w2 :=
  (h.alloc h.size o).trans (k.mono (by have := h.size; simp; omega))

/-- The cells of the block that was laid just ahead of a call are as they were behind it. -/
theorem bkept {w1 w2 : World} {o : Obj} (k : Below (w1.alloc o).heap.size (w1.alloc o) w2) (i : Nat) : w2.cell? ⟨w1.heap.size, i, none⟩ = (w1.alloc o).cell? ⟨w1.heap.size, i, none⟩ ∧ w1.heap.size < w2.heap.size :=
  ⟨k.cell (by simp), by have := k.size; simp at this; omega⟩

theorem bkept2 {w1 w2 w3 : World} {o1 o2 : Obj} (k2 : Below (w1.alloc o1).heap.size (w1.alloc o1) w2) (k3 : Below (w2.alloc o2).heap.size (w2.alloc o2) w3) (i : Nat) :
    w3.cell? ⟨w1.heap.size, i, none⟩ = (w1.alloc o1).cell? ⟨w1.heap.size, i, none⟩ ∧ w1.heap.size < w3.heap.size := by
  obtain ⟨a, b⟩ := bkept k2 i
  have c := k3.size
  simp at c
  refine ⟨?_, by omega⟩
  rw [← a, k3.cell (by simp; omega)]
  exact ((Below.refl _ _).alloc (Nat.le_refl _) _).cell b

theorem Ints.ofOwn {w : World} {base : Nat} {t : TypeId} {g n cap : Nat} {xs : List Value} {l : List Int} (h : w.ownsRow base t 1 (.slice (some ⟨g, 0, none⟩) n cap) n xs) (hn : n = l.length)
    (hx : ∀ j, j < n → xs[j]? = some (.int .i64 (l[j]?.getD 0))) : Ints w (some ⟨g, 0, none⟩) n l := by
  refine ⟨hn, Or.inr ⟨g, 0, rfl, (h.lt g rfl).2, fun j hj => ?_⟩⟩
  rw [Nat.zero_add, h.cellAt j (by omega)]
  exact hx j hj

theorem Ints.ofOwnAny {w : World} {base : Nat} {t : TypeId} {n : Nat} {v : Value} {l : List Int} (h : w.ownsRow base t 1 v n (l.map (Value.int .i64))) (hn : n = l.length) :
    ∃ a c, v = .slice a n c ∧ Ints w a n l ∧ (n = 0 ∨ ∃ g, a = some ⟨g, 0, none⟩ ∧ base ≤ g) := by
  have h' := h
  rcases h.2 with ⟨hv, h0⟩ | ⟨g, cap, cur, hv, hb, _⟩
  · subst h0
    exact ⟨none, 0, hv, ⟨hn, Or.inl rfl⟩, Or.inl rfl⟩
  · subst hv
    refine ⟨_, cap, rfl, Ints.ofOwn h' hn (fun j hj => ?_), Or.inr ⟨g, rfl, hb⟩⟩
    rw [List.getElem?_map, List.getElem?_eq_getElem (by omega)]
    simp

theorem cell_new1 {w : World} {k : Nat} (hk : k = w.heap.size) (u : Value) (t : TypeId) : (w.alloc (.cells #[u] t)).cell? ⟨k, 0, none⟩ = some u := by
  subst hk; simp

/-- One new cell, as the law on append asks for it. -/
theorem news_one {w : World} {k : Nat} (hk : k = w.heap.size) (u : Value) (t : TypeId) : ∀ (j : Nat) (x : Value), [u][j]? = some x → (w.alloc (.cells #[u] t)).cell? (Addr.add ⟨k, 0, none⟩ j) = some x := by
  intro j x hj
  match j, hj with
  | 0, hj => simp at hj; subst hj; exact cell_new1 hk u t

theorem news_one' {w : World} {k : Nat} (hk : k = w.heap.size) (u : Value) (t : TypeId) : ∀ (j : Nat) (x : Value), [u][j]? = some x → (w.alloc (.cells #[u] t)).cell? ⟨k, j, none⟩ = some x := by
  intro j x hj
  match j, hj with
  | 0, hj => simp at hj; subst hj; exact cell_new1 hk u t

theorem own_shape {w : World} {base : Nat} {t : TypeId} {v : Value} {n : Nat} {xs : List Value} (h : w.ownsRow base t 1 v n xs) : ∃ a c, v = .slice a n c := by
  rcases h.2 with ⟨hv, h0⟩ | ⟨g, cap, cur, hv, _⟩
  · subst h0; exact ⟨none, 0, hv⟩
  · exact ⟨_, cap, hv⟩

/-- A slice that lies from base on is as it was behind a store below base. -/
theorem Ints.set {w : World} {a : Option Addr} {n base : Nat} {l : List Int} (h : Ints w a n l) (hf : n = 0 ∨ ∃ g, a = some ⟨g, 0, none⟩ ∧ base ≤ g) {p : Addr} (hp : p.block < base) (u : Value) : Ints (w.setCell p u) a n l := by
  obtain ⟨h1, h2⟩ := h
  refine ⟨h1, ?_⟩
  rcases h2 with h2 | ⟨b, off, ha, hs, hc⟩
  · exact Or.inl h2
  · rcases hf with hf | ⟨g, hg, hb⟩
    · exact Or.inl hf
    · rw [ha] at hg
      simp only [Option.some.injEq, Addr.mk.injEq] at hg
      refine Or.inr ⟨b, off, ha, by simpa using hs, fun j hj => ?_⟩
      rw [World.cell?_setCell_other _ _ _ _ (by intro e; rw [e] at hp; dsimp only at hp; omega)]
      exact hc j hj

theorem cell_new2 {w : World} {k : Nat} (hk : k = w.heap.size) (u v : Value) (t : TypeId) : (w.alloc (.cells #[u, v] t)).cell? ⟨k, 0, none⟩ = some u ∧ (w.alloc (.cells #[u, v] t)).cell? ⟨k, 1, none⟩ = some v := by
  subst hk; exact ⟨by simp, by simp⟩

theorem ret_int {k : IntKind} {a b : Int} (h : a = b) : Ending.returned (.int k a) = .returned (.int k b) := by rw [h]
theorem ret_bool {a b : Bool} (h : a = b) : Ending.returned (.bool a) = .returned (.bool b) := by rw [h]

theorem bdrewN {B : Nat} {a w : World} (h : Below B a w) (n : Nat) : Below B a (w.drewN n) := below_drewN h n

/-- The worlds behind V in which nothing that was there has turned. -/
structure Later (V : World) where
  w : World
  ok : Below V.heap.size V w

theorem later_some (V : World) : Nonempty (Later V) := ⟨⟨V, Below.refl _ _⟩⟩

/-- A region that draws its order, whose operations only read what was there, and whose callees write nothing that was there: one walk, in the text's order, in whatever later world. -/
theorem wp_region_later {P : Program} {id : Nat} {Q : Exit → Act → World → Prop} {a : Act} {w : World} {l : List Oper} (hm : P.follows .mixedOrders = true) (hB : Region.lexB .any l.toArray = true)
    (h : wpQuiet P l.toArray (fun w' => ∃ n : Later w, w' = n.w) (fun a' => ∀ w', (∃ n : Later w, w' = n.w) → Q .normal a' w') l a) : (Code.region id l.toArray true).wp P Q a w :=
  wp_region_quiet (C := fun w' => ∃ n : Later w, w' = n.w) hm hB ⟨⟨w.drew, (Below.refl _ _).drew⟩, rfl⟩ (by simpa using h)

theorem calls_later {P : Program} {f : FuncId} {args : Array Value} {V : World} {n : Later V} {v : Value}
    (h : Calls P f args n.w fun e w' => e = .returned v ∧ Below n.w.heap.size n.w w') : Calls P f args n.w fun e w'' => e = .returned v ∧ ∃ m : Later V, w'' = m.w :=
  h.mono fun _ w' ⟨he, hb⟩ => ⟨he, ⟨w', n.ok.trans (hb.mono n.ok.size)⟩, rfl⟩

theorem later_cell {V : World} {p : Addr} {v : Value} (h : V.cell? p = some v) (hp : p.block < V.heap.size) : ∀ n : Later V, n.w.cell? p = some v := fun n => by rw [n.ok.cell hp]; exact h

end Go.Proofs.YtipcbhodlgoflabDoor

/- What frac.within and frac.divisor do, for every slice of numbers. -/
namespace Go.Proofs.YtipcbhodlgoflabDoor
open Go.RowKit

set_option maxHeartbeats 400000 in
theorem within_any (m : Int) (a : Option Addr) (len cap : Nat) (l : List Int) (w : World) (hi : Ints w a len l) (hlen : len ≤ 9223372036854775807)
    (hm0 : 0 ≤ m) (hm : m ≤ 4611686018427387904) :
    Calls Tryd.prog 27 #[.int .i64 m, .slice a len cap] w fun e w' => e = .returned (.bool (Num.withinB m l)) ∧ w' = w := by
  obtain ⟨hll, hi⟩ := hi
  have HL : Hid (len = l.length) := hll
  clear hll
  go_enter Tryd.func27, Tryd.ntmps27
  go_wp2
  go_loop [9] (fun i => ∃ k : Nat, k ≤ len ∧ i = .int .i64 k ∧ Num.withinB m (l.take k) = true) (fun i => len - (intOf i).toNat)
  case atStart => exact ⟨0, Nat.zero_le _, rfl, rfl⟩
  case round =>
    obtain ⟨k, hk, rfl, hw⟩ := hrel
    have HW : Hid (Num.withinB m (l.take k) = true) := hw
    clear hw
    by_cases hlt : k < len
    · rcases hi with hi | ⟨b, off, ha, hb, hc⟩
      · omega
      have hck := hc k hlt
      clear hc
      have hs := Num.withinB_take_succ m l k (by have := HL.out; omega)
      have hf := Num.withinB_false_of m l k (by have := HL.out; omega)
      generalize l[k]?.getD 0 = x at hck hs hf
      have HS : Hid _ := hs
      have HF : Hid _ := hf
      clear hs hf
      subst ha
      by_cases hx1 : x < -m
      · go_wp2
        go_ret
        exact ⟨ret_bool (HF.out (Or.inl hx1)).symm, rfl⟩
      by_cases hx2 : m < x
      · go_wp2
        go_ret
        exact ⟨ret_bool (HF.out (Or.inr hx2)).symm, rfl⟩
      go_wp2
      go_round
      case rel => exact ⟨k + 1, by omega, by go_num, by rw [HS.out, HW.out]; simp; omega⟩
      case measure => simp [intOf]; omega
    · go_wp2
      go_ret
      have hke : k = l.length := by have := HL.out; omega
      refine ⟨ret_bool ?_, rfl⟩
      have := HW.out
      rw [hke, List.take_length] at this
      exact this.symm


end Go.Proofs.YtipcbhodlgoflabDoor

/- What frac.lowering does, for every slice of numbers. -/
namespace Go.Proofs.YtipcbhodlgoflabDoor
open Go.RowKit

end Go.Proofs.YtipcbhodlgoflabDoor

/- What frac.Make, frac.mayParts, frac.May and frac.Less do. -/
namespace Go.Proofs.YtipcbhodlgoflabDoor
open Go.RowKit

theorem below2 {w w' : World} {o1 o2 : Obj} (hb : Below ((w.alloc o1).alloc o2).heap.size ((w.alloc o1).alloc o2) w') : Below w.heap.size w w' :=
  (((Below.refl _ _).alloc (Nat.le_refl _) _).alloc (by simp) _).trans (hb.mono (by simp; omega))

end Go.Proofs.YtipcbhodlgoflabDoor

/- What frac.mayParts, frac.May and frac.Less do. -/
namespace Go.Proofs.YtipcbhodlgoflabDoor
open Go.RowKit

end Go.Proofs.YtipcbhodlgoflabDoor

/- What the document's own size, common, All and within do. -/
namespace Go.Proofs.YtipcbhodlgoflabDoor
open Go.RowKit

end Go.Proofs.YtipcbhodlgoflabDoor

/- What the document's own MayPoint, May and Cmp do, and frac.Less. -/
namespace Go.Proofs.YtipcbhodlgoflabDoor
open Go.RowKit

theorem binto {w w' : World} {o : Obj} (hb : Below (w.alloc o).heap.size (w.alloc o) w') : Below w.heap.size w w' :=
  ((Below.refl _ _).alloc (Nat.le_refl _) _).trans (hb.mono (by simp))

end Go.Proofs.YtipcbhodlgoflabDoor

/- What frac.Point does, for every slice of numbers. -/
namespace Go.Proofs.YtipcbhodlgoflabDoor
open Go.RowKit

theorem Tryd.info64 : (Tryd.prog.info? 2).map (fun i => (i.zero, i.size, i.bytes)) = some (some (.int .i64 0), 1, 8) := by kernel_rfl

/-- A block that may be written. -/
def Fz (w : World) (a : Option Addr) : Prop := ∀ g, a = some ⟨g, 0, none⟩ → g < w.heap.size ∧ ∀ j, w.frozen? ⟨g, j, none⟩ = false

theorem Fz.below {w w' : World} {a : Option Addr} (h : Fz w a) (hb : Below w.heap.size w w') : Fz w' a := fun g e =>
  ⟨Nat.lt_of_lt_of_le (h g e).1 hb.size, fun j => by rw [hb.frozen (p := ⟨g, j, none⟩) (h g e).1]; exact (h g e).2 j⟩

theorem Fz.set {w : World} {a : Option Addr} (h : Fz w a) (p : Addr) (v : Value) : Fz (w.setCell p v) a := fun g e =>
  ⟨by simpa using (h g e).1, fun j => by simpa using (h g e).2 j⟩

theorem Fz.nil (w : World) : Fz w none := fun _ e => by cases e

theorem Fz.own {w : World} {base : Nat} {t : TypeId} {g n cap : Nat} {xs : List Value} (h : w.ownsRow base t 1 (.slice (some ⟨g, 0, none⟩) n cap) n xs) : Fz w (some ⟨g, 0, none⟩) := fun g' e => by
  cases e
  exact ⟨(h.lt g rfl).2, fun j => h.frozenAt j⟩

end Go.Proofs.YtipcbhodlgoflabDoor

/- What the document's own Point does, for every slice of numbers. -/
namespace Go.Proofs.YtipcbhodlgoflabDoor
open Go.RowKit

/-- After k rounds: the cell of p.Nums holds a slice of the call's own, whose numbers are the first k, once divided. -/
def PRel (w W0 : World) (l : List Int) (len : Nat) (y0 D : Int) (i : Value) (wr : World) : Prop :=
  ∃ (k : Nat) (v : Value), k ≤ len ∧ i = .int .i64 k ∧ wr.ownsRow (w.heap.size + 3) 2 1 v k ((l.take k).map fun n => Value.int .i64 (n.tdiv y0)) ∧
      wr.cell? ⟨w.heap.size + 1 + 1, 0, none⟩ = some v ∧ wr.cell? ⟨w.heap.size + 1 + 1, 1, none⟩ = some (.int .i64 D) ∧ wr.frozen? ⟨w.heap.size + 1 + 1, 0, none⟩ = false ∧
      w.heap.size + 3 ≤ wr.heap.size ∧ Below (w.heap.size + 2) W0 wr

theorem prel_push {w W0 wr w1 : World} {l : List Int} {len k : Nat} {y0 D V : Int} {v v' : Value} (hk : k < len) (hkl : k < l.length) (hV : V = (l[k]?.getD 0).tdiv y0)
    (hown' : w1.ownsRow (w.heap.size + 3) 2 1 v' (k + 1) ((l.take k).map (fun n => Value.int .i64 (n.tdiv y0)) ++ [.int .i64 V])) (hB : Below (w.heap.size + 3) wr w1)
    (c0 : wr.cell? ⟨w.heap.size + 1 + 1, 0, none⟩ = some v) (c1 : wr.cell? ⟨w.heap.size + 1 + 1, 1, none⟩ = some (.int .i64 D)) (f0 : wr.frozen? ⟨w.heap.size + 1 + 1, 0, none⟩ = false)
    (hsz : w.heap.size + 3 ≤ wr.heap.size) (hbl : Below (w.heap.size + 2) W0 wr) :
    PRel w W0 l len y0 D (.int .i64 ((k : Int) + 1)) (w1.setCell ⟨w.heap.size + 1 + 1, 0, none⟩ v') := by
  have d0 : w1.cell? ⟨w.heap.size + 1 + 1, 0, none⟩ = some v := by rw [hB.cell (by show _ < _; simp)]; exact c0
  have d1 : w1.cell? ⟨w.heap.size + 1 + 1, 1, none⟩ = some (.int .i64 D) := by rw [hB.cell (by show _ < _; simp)]; exact c1
  have g0 : w1.frozen? ⟨w.heap.size + 1 + 1, 0, none⟩ = false := by rw [hB.frozen (by show _ < _; simp)]; exact f0
  refine ⟨k + 1, v', by omega, by simp, ?_, ?_, ?_, ?_, ?_, ?_⟩
  · have e : (l.take (k + 1)).map (fun n => Value.int .i64 (n.tdiv y0)) = (l.take k).map (fun n => Value.int .i64 (n.tdiv y0)) ++ [.int .i64 V] := by
      rw [List.getElem?_eq_getElem hkl, Option.getD_some] at hV
      rw [List.take_succ_eq_append_getElem hkl, List.map_append, hV]
      simp
    rw [e]
    exact ownsRow_setCell_below hown' (by show _ < _; simp) _
  · exact World.cell?_setCell_same' _ _ _ (by rw [d0]; rfl)
  · rw [World.cell?_setCell_other _ _ _ _ (by simp)]; exact d1
  · rw [← g0]; simp
  · have := hB.size; simp; omega
  · exact (hbl.trans (hB.mono (by omega))).setCell (by show _ ≤ _; simp) _

theorem own_capC {w : World} {base : Nat} {e : TypeId} {size n c : Nat} {a : Option Addr} {xs : List Value} (h : w.ownsRow base e size (.slice a n c) n xs) : n ≤ c := by
  rcases h.2 with ⟨hv, h0⟩ | ⟨g, cap, cur, hv, h1⟩
  · omega
  · simp only [Value.slice.injEq] at hv
    obtain ⟨_, _, rfl⟩ := hv
    obtain ⟨_, h2⟩ := h1
    omega

end Go.Proofs.YtipcbhodlgoflabDoor

/- What the document's own Make and Same do. -/
namespace Go.Proofs.YtipcbhodlgoflabDoor
open Go.RowKit

theorem take_eq_succ (l m : List Int) (k : Nat) (h1 : k < l.length) (h2 : k < m.length) (h : l.take k = m.take k) (he : l[k]?.getD 0 = m[k]?.getD 0) : l.take (k + 1) = m.take (k + 1) := by
  rw [List.getElem?_eq_getElem h1, List.getElem?_eq_getElem h2] at he
  simp only [Option.getD_some] at he
  rw [List.take_succ_eq_append_getElem h1, List.take_succ_eq_append_getElem h2, h, he]

end Go.Proofs.YtipcbhodlgoflabDoor

/- What layout.Together, layout.below and the document's Dot do. -/
namespace Go.Proofs.YtipcbhodlgoflabDoor
open Go.RowKit

end Go.Proofs.YtipcbhodlgoflabDoor

/- What layout.May does, for every program. -/
namespace Go.Proofs.YtipcbhodlgoflabDoor
open Go.RowKit

/-- A slice of rows, each with a slice of numbers and a number. -/
def RowsAt (w : World) (a : Option Addr) (len : Nat) (rs : List (List Int × Int)) : Prop :=
  len = rs.length ∧ (len = 0 ∨ ∃ b off, a = some ⟨b, off, none⟩ ∧ b < w.heap.size ∧ ∀ j, j < len → ∃ ra rl rc, w.cell? ⟨b, off + j * 2, none⟩ = some (.slice ra rl rc) ∧
    w.cell? ⟨b, off + j * 2 + 1, none⟩ = some (.int .i64 (rs[j]?.getD ([], 0)).2) ∧ Ints w ra rl (rs[j]?.getD ([], 0)).1 ∧ rl ≤ 9223372036854775807)

theorem RowsAt.below {w w' : World} {B : Nat} {a : Option Addr} {len : Nat} {l : List (List Int × Int)} (h : RowsAt w a len l) (hb : Below B w w') (hB : w.heap.size ≤ B) : RowsAt w' a len l := by
  obtain ⟨h1, h2⟩ := h
  refine ⟨h1, ?_⟩
  rcases h2 with h2 | ⟨b, off, ha, hs, hc⟩
  · exact Or.inl h2
  · refine Or.inr ⟨b, off, ha, Nat.lt_of_lt_of_le hs hb.size, fun j hj => ?_⟩
    obtain ⟨ra, rl, rc, c0, c1, hi, hr⟩ := hc j hj
    refine ⟨ra, rl, rc, ?_, ?_, hi.below hb hB, hr⟩
    · rw [hb.cell (p := ⟨b, off + j * 2, none⟩) (Nat.lt_of_lt_of_le hs hB)]; exact c0
    · rw [hb.cell (p := ⟨b, off + j * 2 + 1, none⟩) (Nat.lt_of_lt_of_le hs hB)]; exact c1

/-- A program's value: its costs and its rows. -/
def ProgAt (w : World) (v : Value) (p : Num.Lp) : Prop :=
  ∃ ca cl cc ra rl rc, v = .agg #[.slice ca cl cc, .slice ra rl rc] ∧ Ints w ca cl p.costs ∧ cl ≤ 9223372036854775807 ∧ RowsAt w ra rl p.rows ∧ rl ≤ 9223372036854775807

theorem ProgAt.below {w w' : World} {B : Nat} {v : Value} {p : Num.Lp} (h : ProgAt w v p) (hb : Below B w w') (hB : w.heap.size ≤ B) : ProgAt w' v p := by
  obtain ⟨ca, cl, cc, ra, rl, rc, h1, h2, h3, h4, h5⟩ := h
  exact ⟨ca, cl, cc, ra, rl, rc, h1, h2.below hb hB, h3, h4.below hb hB, h5⟩

theorem balloc (w : World) (o : Obj) : Below w.heap.size w (w.alloc o) := (Below.refl _ _).alloc (Nat.le_refl _) o

set_option maxHeartbeats 800000 in
theorem lmay_any (ca : Option Addr) (cl cc : Nat) (ra : Option Addr) (rl rc : Nat) (p : Num.Lp) (w : World) (hc : Ints w ca cl p.costs) (hcl : cl ≤ 9223372036854775807) (hr : RowsAt w ra rl p.rows) (hrl : rl ≤ 9223372036854775807) :
    Calls Tryd.prog 13 #[.agg #[.slice ca cl cc, .slice ra rl rc]] w fun e w' => e = .returned (.bool p.may) ∧ Below w.heap.size w w' := by
  have HC : Hid (Ints w ca cl p.costs) := hc
  have HL : Hid (cl = p.costs.length) := hc.1
  have HR : Hid (rl = p.rows.length) := hr.1
  have HRW : Hid (RowsAt w ra rl p.rows) := hr
  clear hc hr
  by_cases h1 : (cl : Int) < 1
  · have HF : Hid (p.may = false) := p.may_c1 cl HL.out h1
    go_enter Tryd.func13, Tryd.ntmps13
    go_wp2_with fail
    go_ret
    exact ⟨ret_bool HF.out.symm, balloc _ _⟩
  by_cases h2 : 4 < (cl : Int)
  · have HF : Hid (p.may = false) := p.may_c4 cl HL.out h2
    have h1' : decide ((cl : Int) < 1) = false := by simpa using h1
    go_enter Tryd.func13, Tryd.ntmps13
    go_wp2_with fail
    go_ret
    exact ⟨ret_bool HF.out.symm, balloc _ _⟩
  have h1' : decide ((cl : Int) < 1) = false := by simpa using h1
  have h2' : decide (4 < (cl : Int)) = false := by simpa using h2
  cases h3 : Num.withinB 400 p.costs with
  | false =>
    have HF : Hid (p.may = false) := p.may_w h3
    go_enter Tryd.func13, Tryd.ntmps13
    go_wp2_with fail
    refine (within_any _ _ _ _ p.costs _ (Ints.below HC.out (balloc _ _) (Nat.le_refl _)) (by omega) (by omega) (by omega)).mono ?_
    rintro e w' ⟨rfl, rfl⟩
    rw [h3]
    go_wp2_with fail
    go_ret
    exact ⟨ret_bool HF.out.symm, balloc _ _⟩
  | true =>
  by_cases h4 : (rl : Int) < 1
  · have HF : Hid (p.may = false) := p.may_r1 rl HR.out h4
    go_enter Tryd.func13, Tryd.ntmps13
    go_wp2_with fail
    refine (within_any _ _ _ _ p.costs _ (Ints.below HC.out (balloc _ _) (Nat.le_refl _)) (by omega) (by omega) (by omega)).mono ?_
    rintro e w' ⟨rfl, rfl⟩
    rw [h3]
    go_wp2_with fail
    go_ret
    exact ⟨ret_bool HF.out.symm, balloc _ _⟩
  have h4' : decide ((rl : Int) < 1) = false := by simpa using h4
  by_cases h5 : 4 < (rl : Int)
  · have HF : Hid (p.may = false) := p.may_r4 rl HR.out h5
    go_enter Tryd.func13, Tryd.ntmps13
    go_wp2_with fail
    refine (within_any _ _ _ _ p.costs _ (Ints.below HC.out (balloc _ _) (Nat.le_refl _)) (by omega) (by omega) (by omega)).mono ?_
    rintro e w' ⟨rfl, rfl⟩
    rw [h3]
    go_wp2_with fail
    go_ret
    exact ⟨ret_bool HF.out.symm, balloc _ _⟩
  have h5' : decide (4 < (rl : Int)) = false := by simpa using h5
  have HF : Hid (p.may = p.rows.all (Num.rowB cl)) := p.may_rows cl rl HL.out HR.out (by omega) (by omega) h3 (by omega) (by omega)
  go_enter Tryd.func13, Tryd.ntmps13
  go_wp2_with fail
  refine (within_any _ _ _ _ p.costs _ (Ints.below HC.out (balloc _ _) (Nat.le_refl _)) (by omega) (by omega) (by omega)).mono ?_
  rintro e w' ⟨rfl, rfl⟩
  rw [h3]
  go_wp2_with fail
  go_loopw [34] (fun i wr => ∃ k : Nat, k ≤ rl ∧ i = .int .i64 k ∧ (p.rows.take k).all (Num.rowB cl) = true ∧ Below (w.alloc (.cells #[.slice ca cl cc, .slice ra rl rc] 25)).heap.size (w.alloc (.cells #[.slice ca cl cc, .slice ra rl rc] 25)) wr) (fun i _ => rl - (intOf i).toNat)
  case atStart => exact ⟨0, Nat.zero_le _, rfl, rfl, Below.refl _ _⟩
  case round =>
    obtain ⟨k, hk, rfl, hw, hbl⟩ := hrel
    have HW : Hid _ := hw
    clear hw
    have HB : Hid (Below w.heap.size w wr) := binto hbl
    by_cases hlt : k < rl
    · rcases (RowsAt.below HRW.out HB.out (Nat.le_refl _)).2 with h | ⟨b, off, ha, hbs, hc⟩
      · omega
      obtain ⟨xa, xl, xc, c0, c1, hx, hxl⟩ := hc k hlt
      clear hc
      have e0 : wr.cell? ⟨w.heap.size, 0, none⟩ = some (.slice ca cl cc) := by rw [hbl.cell (by simp)]; go_simp
      have hsz : w.heap.size < wr.heap.size := by have := hbl.size; simp at this; omega
      have HS : Hid ((p.rows.take (k + 1)).all (Num.rowB cl) = ((p.rows.take k).all (Num.rowB cl) && Num.rowB cl (p.rows[k]?.getD ([], 0)))) := Num.all_take_succ (Num.rowB cl) p.rows k (by have := HR.out; omega) ([], 0)
      have HN : Hid (Num.rowB cl (p.rows[k]?.getD ([], 0)) = false → p.rows.all (Num.rowB cl) = false) := Num.all_false_of (Num.rowB cl) p.rows k (by have := HR.out; omega) ([], 0)
      generalize (p.rows[k]?.getD ([], 0)) = r at *
      obtain ⟨r1, r2⟩ := r
      dsimp only at *
      have HX : Hid (Ints wr xa xl r1) := hx
      have HXL : Hid (xl = r1.length) := hx.1
      clear hx
      subst ha
      by_cases t1 : xl = cl
      · subst t1
        cases t2 : Num.withinB 12 r1 with
        | false =>
          go_wp2_with fail
          refine (within_any _ _ _ _ r1 _ (Ints.below HX.out (balloc _ _) (Nat.le_refl _)) (by omega) (by omega) (by omega)).mono ?_
          rintro e w' ⟨rfl, rfl⟩
          rw [t2]
          go_wp2_with fail
          go_ret
          refine ⟨ret_bool ?_, (binto hbl).alloc (by omega) _⟩
          rw [HF.out]
          exact (HN.out (Num.rowB_w _ _ _ t2)).symm
        | true =>
          go_wp2_with fail
          refine (within_any _ _ _ _ r1 _ (Ints.below HX.out (balloc _ _) (Nat.le_refl _)) (by omega) (by omega) (by omega)).mono ?_
          rintro e w' ⟨rfl, rfl⟩
          rw [t2]
          go_wp2_with fail
          refine (within_any _ _ _ _ [r2] _ (Ints.newAt (by simp) _ _) (by omega) (by omega) (by omega)).mono ?_
          rintro e w' ⟨rfl, rfl⟩
          cases t3 : Num.withinB 12 [r2] with
          | false =>
            go_wp2_with fail
            go_ret
            refine ⟨ret_bool ?_, ((binto hbl).alloc (by omega) _).alloc (by simp; omega) _⟩
            rw [HF.out]
            exact (HN.out (Num.rowB_m _ _ _ t3)).symm
          | true =>
            go_wp2_with fail
            go_roundw
            case rel => exact ⟨k + 1, hlt, by go_num, by rw [HS.out, HW.out, Num.rowB_ok _ _ _ _ HXL.out rfl t2 t3]; rfl, (hbl.alloc hbl.size _).alloc (by have := hbl.size; simp at this ⊢; omega) _⟩
            case measure => simp [intOf]; omega
      · have t1' : ((xl : Int) == (cl : Int)) = false := by simp; omega
        go_wp2_with fail
        go_ret
        refine ⟨ret_bool ?_, (binto hbl).alloc (by omega) _⟩
        rw [HF.out]
        exact (HN.out (Num.rowB_len _ _ _ _ HXL.out t1)).symm
    · go_wp2_with fail
      go_ret
      have hke : k = p.rows.length := by have := HR.out; omega
      refine ⟨ret_bool ?_, HB.out⟩
      rw [HF.out]
      exact (Num.all_full _ _ _ hke HW.out).symm

end Go.Proofs.YtipcbhodlgoflabDoor
