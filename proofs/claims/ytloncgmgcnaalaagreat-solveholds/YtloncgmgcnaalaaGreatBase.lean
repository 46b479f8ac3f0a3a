/- What the walks lean on: a slice of 64-bit numbers as a list in memory, and what a later world keeps of it. -/
import Derived.WalkKit
import Derived.WalkSpells
import Derived.WalkLawsBesides
import Derived.Deep.QuietTactic
import Derived.BigQuiet
import Derived.Test.YtloncgmgcnaalaaGreatNum
namespace Go.Proofs.YtloncgmgcnaalaaGreat
open Go.RowKit

/-- A slice of so many 64-bit numbers, which are those of l. -/
def Ints (w : World) (a : Option Addr) (len : Nat) (l : List Int) : Prop :=
  len = l.length ∧ (len = 0 ∨ ∃ b off, a = some ⟨b, off, none⟩ ∧ b < w.heap.size ∧ ∀ j, j < len → w.cell? ⟨b, off + j, none⟩ = some (.int .i64 (l[j]?.getD 0)))

theorem Ints.below {w w' : World} {B : Nat} {a : Option Addr} {len : Nat} {l : List Int} (h : Ints w a len l) (hb : Below B w w') (hB : w.heap.size ≤ B) : Ints w' a len l := by
  obtain ⟨h1, h2⟩ := h
  refine ⟨h1, ?_⟩
  rcases h2 with h2 | ⟨b, off, ha, hs, hc⟩
  · exact Or.inl h2
  · exact Or.inr ⟨b, off, ha, Nat.lt_of_lt_of_le hs hb.size, fun j hj => by rw [hb.cell (p := ⟨b, off + j, none⟩) (Nat.lt_of_lt_of_le hs hB)]; exact hc j hj⟩

theorem Ints.new (w : World) (x : Int) (t : TypeId) : Ints (w.alloc (.cells #[.int .i64 x] t)) (some ⟨w.heap.size, 0, none⟩) 1 [x] := by
  refine ⟨rfl, Or.inr ⟨w.heap.size, 0, rfl, by simp, fun j hj => ?_⟩⟩
  obtain rfl : j = 0 := by omega
  simp

theorem Ints.newAt {w : World} {k : Nat} (hk : k = w.heap.size) (x : Int) (t : TypeId) : Ints (w.alloc (.cells #[.int .i64 x] t)) (some ⟨k, 0, none⟩) 1 [x] := by
  subst hk; exact Ints.new w x t

theorem bcell {W w1 : World} (hb : Below W.heap.size W w1) : (∀ b o, b < W.heap.size → w1.cell? ⟨b, o, none⟩ = W.cell? ⟨b, o, none⟩) ∧ (∀ b o, b < W.heap.size → w1.frozen? ⟨b, o, none⟩ = W.frozen? ⟨b, o, none⟩) :=
  ⟨fun b o h => hb.cell (p := ⟨b, o, none⟩) h, fun b o h => hb.frozen (p := ⟨b, o, none⟩) h⟩

theorem bnext {w w1 w2 : World} {o : Obj} (h : Below w.heap.size w w1) (k : Below (w1.alloc o).heap.size (w1.alloc o) w2) : Below w.heap.size w w2 :=
  (h.alloc h.size o).trans (k.mono (by have := h.size; simp; omega))

/-- The cells of the block that was laid just ahead of a call are as they were behind it. -/
theorem bkept {w1 w2 : World} {o : Obj} (k : Below (w1.alloc o).heap.size (w1.alloc o) w2) (i : Nat) : w2.cell? ⟨w1.heap.size, i, none⟩ = (w1.alloc o).cell? ⟨w1.heap.size, i, none⟩ ∧ w1.heap.size < w2.heap.size :=
  ⟨k.cell (by simp), by have := k.size; simp at this; omega⟩

theorem bkept2 {w1 w2 w3 : World} {o1 o2 : Obj} (k2 : Below (w1.alloc o1).heap.size (w1.alloc o1) w2) (k3 : Below (w2.alloc o2).heap.size (w2.alloc o2) w3) (i : Nat) :
    w3.cell? ⟨w1.heap.size, i, none⟩ = (w1.alloc o1).cell? ⟨w1.heap.size, i, none⟩ ∧ w1.heap.size < w3.heap.size := by
  obtain ⟨a, b⟩ := bkept k2 i
  have c := k3.size
  simp at c
  refine ⟨?_, by omega⟩
  rw [← a, k3.cell (by simp; omega)]
  exact ((Below.refl _ _).alloc (Nat.le_refl _) _).cell b

theorem Ints.ofOwn {w : World} {base : Nat} {t : TypeId} {g n cap : Nat} {xs : List Value} {l : List Int} (h : w.ownsRow base t 1 (.slice (some ⟨g, 0, none⟩) n cap) n xs) (hn : n = l.length)
    (hx : ∀ j, j < n → xs[j]? = some (.int .i64 (l[j]?.getD 0))) : Ints w (some ⟨g, 0, none⟩) n l := by
  refine ⟨hn, Or.inr ⟨g, 0, rfl, (h.lt g rfl).2, fun j hj => ?_⟩⟩
  rw [Nat.zero_add, h.cellAt j (by omega)]
  exact hx j hj

theorem Ints.ofOwnAny {w : World} {base : Nat} {t : TypeId} {n : Nat} {v : Value} {l : List Int} (h : w.ownsRow base t 1 v n (l.map (Value.int .i64))) (hn : n = l.length) :
    ∃ a c, v = .slice a n c ∧ Ints w a n l ∧ (n = 0 ∨ ∃ g, a = some ⟨g, 0, none⟩ ∧ base ≤ g) := by
  have h' := h
  rcases h.2 with ⟨hv, h0⟩ | ⟨g, cap, cur, hv, hb, _⟩
  · subst h0
    exact ⟨none, 0, hv, ⟨hn, Or.inl rfl⟩, Or.inl rfl⟩
  · subst hv
    refine ⟨_, cap, rfl, Ints.ofOwn h' hn (fun j hj => ?_), Or.inr ⟨g, rfl, hb⟩⟩
    rw [List.getElem?_map, List.getElem?_eq_getElem (by omega)]
    simp

theorem cell_new1 {w : World} {k : Nat} (hk : k = w.heap.size) (u : Value) (t : TypeId) : (w.alloc (.cells #[u] t)).cell? ⟨k, 0, none⟩ = some u := by
  subst hk; simp

/-- One new cell, as the law on append asks for it. -/
theorem news_one {w : World} {k : Nat} (hk : k = w.heap.size) (u : Value) (t : TypeId) : ∀ (j : Nat) (x : Value), [u][j]? = some x → (w.alloc (.cells #[u] t)).cell? (Addr.add ⟨k, 0, none⟩ j) = some x := by
  intro j x hj
  match j, hj with
  | 0, hj => simp at hj; subst hj; exact cell_new1 hk u t

theorem news_one' {w : World} {k : Nat} (hk : k = w.heap.size) (u : Value) (t : TypeId) : ∀ (j : Nat) (x : Value), [u][j]? = some x → (w.alloc (.cells #[u] t)).cell? ⟨k, j, none⟩ = some x := by
  intro j x hj
  match j, hj with
  | 0, hj => simp at hj; subst hj; exact cell_new1 hk u t

theorem own_shape {w : World} {base : Nat} {t : TypeId} {v : Value} {n : Nat} {xs : List Value} (h : w.ownsRow base t 1 v n xs) : ∃ a c, v = .slice a n c := by
  rcases h.2 with ⟨hv, h0⟩ | ⟨g, cap, cur, hv, _⟩
  · subst h0; exact ⟨none, 0, hv⟩
  · exact ⟨_, cap, hv⟩

/-- A slice that lies from base on is as it was behind a store below base. -/
theorem Ints.set {w : World} {a : Option Addr} {n base : Nat} {l : List Int} (h : Ints w a n l) (hf : n = 0 ∨ ∃ g, a = some ⟨g, 0, none⟩ ∧ base ≤ g) {p : Addr} (hp : p.block < base) (u : Value) : Ints (w.setCell p u) a n l := by
  obtain ⟨h1, h2⟩ := h
  refine ⟨h1, ?_⟩
  rcases h2 with h2 | ⟨b, off, ha, hs, hc⟩
  · exact Or.inl h2
  · rcases hf with hf | ⟨g, hg, hb⟩
    · exact Or.inl hf
    · rw [ha] at hg
      simp only [Option.some.injEq, Addr.mk.injEq] at hg
      refine Or.inr ⟨b, off, ha, by simpa using hs, fun j hj => ?_⟩
      rw [World.cell?_setCell_other _ _ _ _ (by intro e; rw [e] at hp; dsimp only at hp; omega)]
      exact hc j hj

theorem cell_new2 {w : World} {k : Nat} (hk : k = w.heap.size) (u v : Value) (t : TypeId) : (w.alloc (.cells #[u, v] t)).cell? ⟨k, 0, none⟩ = some u ∧ (w.alloc (.cells #[u, v] t)).cell? ⟨k, 1, none⟩ = some v := by
  subst hk; exact ⟨by simp, by simp⟩

theorem ret_int {k : IntKind} {a b : Int} (h : a = b) : Ending.returned (.int k a) = .returned (.int k b) := by rw [h]
theorem ret_bool {a b : Bool} (h : a = b) : Ending.returned (.bool a) = .returned (.bool b) := by rw [h]

theorem bdrewN {B : Nat} {a w : World} (h : Below B a w) (n : Nat) : Below B a (w.drewN n) := below_drewN h n

/-- The worlds behind V in which nothing that was there has turned. -/
structure Later (V : World) where
  w : World
  ok : Below V.heap.size V w

theorem later_some (V : World) : Nonempty (Later V) := ⟨⟨V, Below.refl _ _⟩⟩

/-- A region that draws its order, whose operations only read what was there, and whose callees write nothing that was there: one walk, in the text's order, in whatever later world. -/
theorem wp_region_later {P : Program} {id : Nat} {Q : Exit → Act → World → Prop} {a : Act} {w : World} {l : List Oper} (hm : P.follows .mixedOrders = true) (hB : Region.lexB .any l.toArray = true)
    (h : wpQuiet P l.toArray (fun w' => ∃ n : Later w, w' = n.w) (fun a' => ∀ w', (∃ n : Later w, w' = n.w) → Q .normal a' w') l a) : (Code.region id l.toArray true).wp P Q a w :=
  wp_region_quiet (C := fun w' => ∃ n : Later w, w' = n.w) hm hB ⟨⟨w.drew, (Below.refl _ _).drew⟩, rfl⟩ (by simpa using h)

theorem calls_later {P : Program} {f : FuncId} {args : Array Value} {V : World} {n : Later V} {v : Value}
    (h : Calls P f args n.w fun e w' => e = .returned v ∧ Below n.w.heap.size n.w w') : Calls P f args n.w fun e w'' => e = .returned v ∧ ∃ m : Later V, w'' = m.w :=
  h.mono fun _ w' ⟨he, hb⟩ => ⟨he, ⟨w', n.ok.trans (hb.mono n.ok.size)⟩, rfl⟩

theorem later_cell {V : World} {p : Addr} {v : Value} (h : V.cell? p = some v) (hp : p.block < V.heap.size) : ∀ n : Later V, n.w.cell? p = some v := fun n => by rw [n.ok.cell hp]; exact h

end Go.Proofs.YtloncgmgcnaalaaGreat
