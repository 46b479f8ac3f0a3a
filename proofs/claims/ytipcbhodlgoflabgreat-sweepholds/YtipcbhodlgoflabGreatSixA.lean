/- A box of six cells. -/
import Derived.Test.YtipcbhodlgoflabGreatLayH
import Derived.Test.YtipcbhodlgoflabGreatCornW
import Derived.Test.YtipcbhodlgoflabGreatCornL
namespace Go.Proofs.YtipcbhodlgoflabGreat
open Go.RowKit

/-- A box of six cells from b on, all below b being as in V. -/
structure Six (V : World) (b : Nat) (v0 v1 v2 v3 v4 v5 : Value) (w : World) : Prop where
  bel : Below V.heap.size V w
  lo : V.heap.size ≤ b
  c0 : w.cell? ⟨b, 0, none⟩ = some v0
  c1 : w.cell? ⟨b, 1, none⟩ = some v1
  c2 : w.cell? ⟨b, 2, none⟩ = some v2
  c3 : w.cell? ⟨b, 3, none⟩ = some v3
  c4 : w.cell? ⟨b, 4, none⟩ = some v4
  c5 : w.cell? ⟨b, 5, none⟩ = some v5
  fz : ∀ i, w.frozen? ⟨b, i, none⟩ = false

theorem Six.new (V : World) (v0 v1 v2 v3 v4 v5 : Value) (t : TypeId) : Six V V.heap.size v0 v1 v2 v3 v4 v5 (V.alloc (.cells #[v0, v1, v2, v3, v4, v5] t)) :=
  ⟨balloc _ _, Nat.le_refl _, by simp, by simp, by simp, by simp, by simp, by simp, fun i => by go_simp⟩

theorem Six.hi {V : World} {b : Nat} {v0 v1 v2 v3 v4 v5 : Value} {w : World} (h : Six V b v0 v1 v2 v3 v4 v5 w) : b < w.heap.size := World.block_lt_of_cell? w _ h.c0

theorem Six.step {V : World} {b : Nat} {v0 v1 v2 v3 v4 v5 : Value} {w w' : World} (h : Six V b v0 v1 v2 v3 v4 v5 w) (hb : Below w.heap.size w w') : Six V b v0 v1 v2 v3 v4 v5 w' :=
  ⟨bstep h.bel hb, h.lo, carry hb h.c0, carry hb h.c1, carry hb h.c2, carry hb h.c3, carry hb h.c4, carry hb h.c5, fun i => by rw [hb.frozen (p := ⟨b, i, none⟩) h.hi]; exact h.fz i⟩

theorem six_set' {w : World} {b : Nat} {a0 a1 a2 a3 a4 a5 : Value} (c0 : w.cell? ⟨b, 0, none⟩ = some a0) (c1 : w.cell? ⟨b, 1, none⟩ = some a1) (c2 : w.cell? ⟨b, 2, none⟩ = some a2) (c3 : w.cell? ⟨b, 3, none⟩ = some a3) (c4 : w.cell? ⟨b, 4, none⟩ = some a4) (c5 : w.cell? ⟨b, 5, none⟩ = some a5)
    (u0 u1 u2 u3 u4 u5 : Value) (X : World) (hX : X = ((((((w.setCell ⟨b, 0, none⟩ u0).setCell ⟨b, 1, none⟩ u1).setCell ⟨b, 2, none⟩ u2).setCell ⟨b, 3, none⟩ u3).setCell ⟨b, 4, none⟩ u4).setCell ⟨b, 5, none⟩ u5)) :
    X.cell? ⟨b, 0, none⟩ = some u0 ∧ X.cell? ⟨b, 1, none⟩ = some u1 ∧ X.cell? ⟨b, 2, none⟩ = some u2 ∧ X.cell? ⟨b, 3, none⟩ = some u3 ∧ X.cell? ⟨b, 4, none⟩ = some u4 ∧ X.cell? ⟨b, 5, none⟩ = some u5 := by
  subst hX
  refine ⟨?_, ?_, ?_, ?_, ?_, ?_⟩
  · rw [cell_set_ne (by decide), cell_set_ne (by decide), cell_set_ne (by decide), cell_set_ne (by decide), cell_set_ne (by decide)]; exact cell_set_eq c0
  · rw [cell_set_ne (by decide), cell_set_ne (by decide), cell_set_ne (by decide), cell_set_ne (by decide)]; exact cell_set_eq (by rw [cell_set_ne (by decide)]; exact c1)
  · rw [cell_set_ne (by decide), cell_set_ne (by decide), cell_set_ne (by decide)]; exact cell_set_eq (by rw [cell_set_ne (by decide), cell_set_ne (by decide)]; exact c2)
  · rw [cell_set_ne (by decide), cell_set_ne (by decide)]; exact cell_set_eq (by rw [cell_set_ne (by decide), cell_set_ne (by decide), cell_set_ne (by decide)]; exact c3)
  · rw [cell_set_ne (by decide)]; exact cell_set_eq (by rw [cell_set_ne (by decide), cell_set_ne (by decide), cell_set_ne (by decide), cell_set_ne (by decide)]; exact c4)
  · exact cell_set_eq (by rw [cell_set_ne (by decide), cell_set_ne (by decide), cell_set_ne (by decide), cell_set_ne (by decide), cell_set_ne (by decide)]; exact c5)

end Go.Proofs.YtipcbhodlgoflabGreat

/- What layout.Asking does: a program with other mosts. -/
namespace Go.Proofs.YtipcbhodlgoflabGreat
open Go.RowKit

theorem Tryz.infoRow5 : (Tryz.prog.info? 32).map (fun i => (i.zero, i.size, i.bytes)) = some (some (.agg #[.slice none 0 0, .int .i64 0]), 2, 32) := by kernel_rfl

/-- Two boxes of two cells, in every later world. -/
theorem boxes {w w1 : World} {a b c d : Value} {t t' : TypeId} (hb : Below ((w.alloc (.cells #[a, b] t)).alloc (.cells #[c, d] t')).heap.size ((w.alloc (.cells #[a, b] t)).alloc (.cells #[c, d] t')) w1) :
    (w1.cell? ⟨w.heap.size, 0, none⟩ = some a ∧ w1.cell? ⟨w.heap.size, 1, none⟩ = some b) ∧ (w1.cell? ⟨w.heap.size + 1, 0, none⟩ = some c ∧ w1.cell? ⟨w.heap.size + 1, 1, none⟩ = some d) ∧ (w1.frozen? ⟨w.heap.size + 1, 0, none⟩ = false ∧ w1.frozen? ⟨w.heap.size + 1, 1, none⟩ = false) ∧ w.heap.size + 1 < w1.heap.size ∧ Below w.heap.size w w1 := by
  have h2 := binto hb
  have hs : (w.alloc (.cells #[a, b] t)).heap.size = w.heap.size + 1 := by simp
  have k := kept2 hb
  rw [hs] at k
  refine ⟨(kept2 h2).1, k.1, k.2, ?_, binto h2⟩
  have := hb.size
  simp at this
  omega

/-- A slice of the call's own of n rows, of which the first k are laid. -/
def RowsMk (w : World) (base g n k : Nat) (F : Nat → Value) (G : Nat → Int) : Prop :=
  ∃ vs : List Value, w.ownsRow base 32 2 (.slice (some ⟨g, 0, none⟩) n n) n vs ∧ ∀ j, j < k → vs[j * 2]? = some (F j) ∧ vs[j * 2 + 1]? = some (.int .i64 (G j))

theorem RowsMk.lt {w : World} {base g n k : Nat} {F : Nat → Value} {G : Nat → Int} (h : RowsMk w base g n k F G) : base ≤ g ∧ g < w.heap.size := by
  obtain ⟨vs, h, _⟩ := h
  exact World.ownsRow.lt h g rfl

theorem RowsMk.cell' {w : World} {base g n k : Nat} {F : Nat → Value} {G : Nat → Int} (h : RowsMk w base g n k F G) (j : Nat) (hj : j < n) : ((∃ u, w.cell? ⟨g, j * 2, none⟩ = some u) ∧ ∃ u, w.cell? ⟨g, j * 2 + 1, none⟩ = some u) ∧ (w.frozen? ⟨g, j * 2, none⟩ = false ∧ w.frozen? ⟨g, j * 2 + 1, none⟩ = false) := by
  obtain ⟨vs, h, _⟩ := h
  have hl : vs.length = n * 2 := h.1
  refine ⟨⟨⟨vs[j * 2], ?_⟩, ⟨vs[j * 2 + 1], ?_⟩⟩, World.ownsRow.frozenAt h _, World.ownsRow.frozenAt h _⟩
  · rw [World.ownsRow.cellAt h _ (by omega)]; exact List.getElem?_eq_getElem (by omega)
  · rw [World.ownsRow.cellAt h _ (by omega)]; exact List.getElem?_eq_getElem (by omega)

theorem RowsMk.below {w w' : World} {base g n k : Nat} {F : Nat → Value} {G : Nat → Int} (h : RowsMk w base g n k F G) (hb : Below w.heap.size w w') : RowsMk w' base g n k F G := by
  obtain ⟨vs, h, hin⟩ := h
  exact ⟨vs, World.ownsRow.kept (row := none) h ⟨hb.os, hb.tape, hb.output, hb.size, fun k hk _ => hb.block k hk⟩ (by simp [Value.ownBlock]), hin⟩

theorem RowsMk.store {w : World} {base g n k : Nat} {F : Nat → Value} {G : Nat → Int} (h : RowsMk w base g n k F G) (hk : k < n) {u : Value} {x : Int} (hu : u = F k) (hx : x = G k) : RowsMk ((w.setCell ⟨g, k * 2, none⟩ u).setCell ⟨g, k * 2 + 1, none⟩ (.int .i64 x)) base g n (k + 1) F G := by
  obtain ⟨vs, h, hin⟩ := h
  have hl : vs.length = n * 2 := h.1
  subst hu hx
  refine ⟨(vs.set (k * 2) (F k)).set (k * 2 + 1) (.int .i64 (G k)), (World.ownsRow.stored (World.ownsRow.stored h (k * 2) _).1 (k * 2 + 1) _).1, fun j hj => ?_⟩
  by_cases hjk : j = k
  · subst hjk
    refine ⟨?_, ?_⟩
    · rw [List.getElem?_set_ne (by omega), List.getElem?_set_self (by omega)]
    · rw [List.getElem?_set_self (by rw [List.length_set]; omega)]
  · obtain ⟨h1, h2⟩ := hin j (by omega)
    refine ⟨?_, ?_⟩
    · rw [List.getElem?_set_ne (by omega), List.getElem?_set_ne (by omega)]; exact h1
    · rw [List.getElem?_set_ne (by omega), List.getElem?_set_ne (by omega)]; exact h2

theorem RowsMk.setLow {w : World} {base g n k : Nat} {F : Nat → Value} {G : Nat → Int} (h : RowsMk w base g n k F G) {q j : Nat} (hq : q < base) (u : Value) : RowsMk (w.setCell ⟨q, j, none⟩ u) base g n k F G := by
  obtain ⟨vs, h, hin⟩ := h
  exact ⟨vs, ownsRow_setCell_below h (a := ⟨q, j, none⟩) hq u, hin⟩

theorem RowsMk.rows {w : World} {base g n : Nat} {F : Nat → Value} {G : Nat → Int} {rs : List (List Int × Int)} (h : RowsMk w base g n n F G) (hn : n = rs.length) (hF : ∀ j, j < n → ∃ xa xl xc, F j = .slice xa xl xc ∧ Ints w xa xl (rs[j]?.getD ([], 0)).1 ∧ xl ≤ 9223372036854775807) (hG : ∀ j, j < n → G j = (rs[j]?.getD ([], 0)).2) : RowsAt w (some ⟨g, 0, none⟩) n rs := by
  have hlt := h.lt.2
  obtain ⟨vs, h, hin⟩ := h
  refine ⟨hn, Or.inr ⟨g, 0, rfl, hlt, fun j hj => ?_⟩⟩
  obtain ⟨xa, xl, xc, f1, f2, f3⟩ := hF j hj
  obtain ⟨h1, h2⟩ := hin j hj
  refine ⟨xa, xl, xc, ?_, ?_, f2, f3⟩
  · rw [Nat.zero_add, World.ownsRow.cellAt h _ (by omega), h1, f1]
  · rw [Nat.zero_add, World.ownsRow.cellAt h _ (by omega), h2, hG j hj]

/-- Rows with other mosts. -/
def Num.askR (R : List (List Int × Int)) (b : List Int) : List (List Int × Int) := (List.range R.length).map fun i => ((R[i]?.getD ([], 0)).1, b[i]?.getD 0)

theorem Num.askR_len (R : List (List Int × Int)) (b : List Int) : (Num.askR R b).length = R.length := by simp [Num.askR]

theorem Num.askR_row (R : List (List Int × Int)) (b : List Int) (i : Nat) (hi : i < R.length) : (Num.askR R b)[i]?.getD ([], 0) = ((R[i]?.getD ([], 0)).1, b[i]?.getD 0) := by
  unfold Num.askR
  rw [List.getElem?_map, List.getElem?_range hi]
  rfl

set_option maxHeartbeats 1600000 in
theorem asking_gen (ca : Option Addr) (cl cc : Nat) (ra : Option Addr) (rl rc : Nat) (R : List (List Int × Int)) (w : World) (hr : RowsAt w ra rl R) (h4 : rl ≤ 4) (h1 : 1 ≤ rl) (y : List Int) (ma : Option Addr) (mc : Nat) (hma : Ints w ma rl y) :
    Calls Tryz.prog 88 #[.agg #[.slice ca cl cc, .slice ra rl rc], .slice ma rl mc] w fun e w' => ∃ g, e = .returned (.agg #[.slice ca cl cc, .slice (some ⟨g, 0, none⟩) rl rl]) ∧ RowsAt w' (some ⟨g, 0, none⟩) rl (Num.askR R y) ∧ Below w.heap.size w w' := by
  have HR : Hid (RowsAt w ra rl R) := hr
  have HRL : Hid (rl = R.length) := hr.1
  rcases hr.2 with h | ⟨b, off, hra, hbs, hrc⟩
  · omega
  rcases hma.2 with h | ⟨mb, mo, hmm, hms, hmcell⟩
  · omega
  subst hra hmm
  obtain ⟨F, hF⟩ : ∃ F : Nat → Value, F = fun j => (w.cell? ⟨b, off + j * 2, none⟩).getD undef := ⟨_, rfl⟩
  have HRC : Hid (∀ j, j < rl → ∃ xa xl xc, F j = .slice xa xl xc ∧ w.cell? ⟨b, off + j * 2, none⟩ = some (.slice xa xl xc) ∧ w.cell? ⟨b, off + j * 2 + 1, none⟩ = some (.int .i64 (R[j]?.getD ([], 0)).2) ∧ Ints w xa xl (R[j]?.getD ([], 0)).1 ∧ xl ≤ 9223372036854775807) := by
    intro j hj
    obtain ⟨xa, xl, xc, c0, c1, c2, c3⟩ := hrc j hj
    exact ⟨xa, xl, xc, by rw [hF]; show (w.cell? ⟨b, off + j * 2, none⟩).getD undef = _; rw [c0]; rfl, c0, c1, c2, c3⟩
  obtain ⟨G, hG⟩ : ∃ G : Nat → Int, G = fun j => y[j]?.getD 0 := ⟨_, rfl⟩
  have HG : Hid (G = fun j => y[j]?.getD 0) := hG
  have HMC : Hid (∀ j, j < rl → w.cell? ⟨mb, mo + j, none⟩ = some (.int .i64 (G j))) := by
    intro j hj
    rw [hmcell j hj, hG]
  clear hr hma hrc hmcell hF hG
  obtain ⟨i0, hif, hz0, hz1, hz2⟩ := info_parts Tryz.infoRow5
  have hs0 : ((w.alloc (.cells #[.slice ca cl cc, .slice (some ⟨b, off, none⟩) rl rc] 25)).alloc (.cells #[.slice none 0 0, .slice none 0 0] 25)).heap.size = w.heap.size + 1 + 1 := by simp
  go_enter Tryz.func88, Tryz.ntmps88
  go_wp2_with (at_make; refine wpList_make_full _ rfl (.tmp 10) (.tmp 10) 23 rfl (w.heap.size + 1 + 1) 32 i0 (.agg #[.slice none 0 0, .int .i64 0]) 2 Tryz.underlying23 hif hz0 hz1 .i64 .i64 _ _ rl rfl rfl rfl rfl (by rw [hz2]; omega) (by unfold maxLen; omega) (by simp) ?_; intro w3 hown hgrow; have hb3 := made_below hgrow; obtain ⟨⟨k0, k1⟩, ⟨k2, k3⟩, ⟨k4, k5⟩, hz3, hB3⟩ := boxes hb3; have HO : Hid _ := hown; clear hown hgrow)
  have HO3 : Hid (RowsMk w3 (w.heap.size + 1 + 1) (w.heap.size + 1 + 1) rl 0 F G) := ⟨_, by have := HO.out; rw [hs0] at this; exact this, fun _ hj => absurd hj (Nat.not_lt_zero _)⟩
  clear HO
  go_loopw [15] (fun i wr => ∃ k : Nat, k ≤ rl ∧ i = .int .i64 k ∧ RowsMk wr (w.heap.size + 1 + 1) (w.heap.size + 1 + 1) rl k F G ∧ Below ((w.alloc (.cells #[.slice ca cl cc, .slice (some ⟨b, off, none⟩) rl rc] 25)).alloc (.cells #[.slice none 0 0, .slice none 0 0] 25)).heap.size ((w.alloc (.cells #[.slice ca cl cc, .slice (some ⟨b, off, none⟩) rl rc] 25)).alloc (.cells #[.slice none 0 0, .slice none 0 0] 25)) wr) (fun i _ => rl - (intOf i).toNat)
  case atStart => exact ⟨0, Nat.zero_le _, rfl, HO3.out, hb3⟩
  case round =>
    obtain ⟨k, hk, rfl, hO, hbl⟩ := hrel
    have HO : Hid (RowsMk wr (w.heap.size + 1 + 1) (w.heap.size + 1 + 1) rl k F G) := hO
    clear HO3 hb3 k0 k1 k2 k3 k4 k5 hz3 hB3
    obtain ⟨⟨k0, k1⟩, ⟨k2, k3⟩, ⟨k4, k5⟩, hz3, hB3⟩ := boxes hbl
    by_cases hlt : k < rl
    · obtain ⟨xa, xl, xc, hFk, c0, c1, c2, c3⟩ := HRC.out k hlt
      have d0 := HMC.out k hlt
      rw [← (bcell hB3).1 b _ hbs] at c0 c1
      rw [← (bcell hB3).1 mb _ hms] at d0
      obtain ⟨⟨⟨u, u0⟩, v, v0⟩, u1, v1⟩ := hO.cell' k hlt
      have hg := hO.lt.2
      clear hO c2 c3
      have HFK : Hid _ := hFk
      clear hFk
      generalize (R[k]?.getD ([], 0)).2 = mk at c1
      generalize hsx : G k = x at d0
      have HSX : Hid _ := hsx
      clear hsx
      have HBL : Hid _ := hbl
      have hml : mb < wr.heap.size := by have := hB3.size; omega
      clear hbl
      go_wp2_with fail
      all_goals go_roundw
      all_goals first
        | (simp [intOf]; omega)
        | exact ⟨k + 1, hlt, by go_num, RowsMk.below (RowsMk.store HO.out hlt HFK.out.symm HSX.out.symm) (balloc _ _), bstep (bset (bset HBL.out (by simp) _) (by simp) _) (balloc _ _)⟩
    · have hke : k = rl := by omega
      subst hke
      clear hO
      go_wp2_with fail
      have hB4 : Below w.heap.size w ((wr.setCell ⟨w.heap.size + 1, 0, none⟩ (.slice ca cl cc)).setCell ⟨w.heap.size + 1, 1, none⟩ (.slice (some ⟨w.heap.size + 1 + 1, 0, none⟩) k k)) := bset (bset hB3 (by omega) _) (by omega) _
      refine bodyPost_ret (v := .agg #[.slice ca cl cc, .slice (some ⟨w.heap.size + 1 + 1, 0, none⟩) k k]) (by simp [results, Tryz.results88, go_sem, k2, k3]) rfl ?_
      refine ⟨w.heap.size + 1 + 1, rfl, ?_, hB4⟩
      refine RowsMk.rows (RowsMk.setLow (RowsMk.setLow HO.out (by omega) _) (by omega) _) (by rw [Num.askR_len]; exact HRL.out) (fun j hj => ?_) (fun j hj => ?_)
      · obtain ⟨xa, xl, xc, f1, _, _, f4, f5⟩ := HRC.out j hj
        refine ⟨xa, xl, xc, f1, ?_, f5⟩
        rw [Num.askR_row R y j (by have := HRL.out; omega)]
        exact f4.below hB4 (Nat.le_refl _)
      · rw [Num.askR_row R y j (by have := HRL.out; omega), HG.out]

end Go.Proofs.YtipcbhodlgoflabGreat
