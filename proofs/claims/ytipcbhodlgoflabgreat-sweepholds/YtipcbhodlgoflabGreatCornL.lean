/- What corner.Look does, for every program and columns. -/
import Derived.Test.YtipcbhodlgoflabGreatCornW
namespace Go.Proofs.YtipcbhodlgoflabGreat
open Go.RowKit

/-- The zero corner. -/
def corner0 : Value := .agg #[.slice none 0 0, .int .i64 0, .slice none 0 0, .int .i64 0, .slice none 0 0, .int .i64 0]

/-- A box of two cells, and a box of six, in every later world. -/
theorem box26 {w w1 : World} {a b c d e f g h : Value} {t u : TypeId} (hb : Below ((w.alloc (.cells #[a, b] t)).alloc (.cells #[c, d, e, f, g, h] u)).heap.size ((w.alloc (.cells #[a, b] t)).alloc (.cells #[c, d, e, f, g, h] u)) w1) :
    (w1.cell? ⟨w.heap.size, 0, none⟩ = some a ∧ w1.cell? ⟨w.heap.size, 1, none⟩ = some b) ∧
      (w1.cell? ⟨w.heap.size + 1, 0, none⟩ = some c ∧ w1.cell? ⟨w.heap.size + 1, 1, none⟩ = some d ∧ w1.cell? ⟨w.heap.size + 1, 2, none⟩ = some e ∧ w1.cell? ⟨w.heap.size + 1, 3, none⟩ = some f ∧ w1.cell? ⟨w.heap.size + 1, 4, none⟩ = some g ∧ w1.cell? ⟨w.heap.size + 1, 5, none⟩ = some h) ∧
      (∀ i, w1.frozen? ⟨w.heap.size + 1, i, none⟩ = false) ∧ w.heap.size + 1 < w1.heap.size ∧ Below w.heap.size w w1 := by
  refine ⟨⟨?_, ?_⟩, ⟨?_, ?_, ?_, ?_, ?_, ?_⟩, ?_, ?_, ?_⟩
  · rw [hb.cell (by simp; omega)]; go_simp
  · rw [hb.cell (by simp; omega)]; go_simp
  · rw [hb.cell (by simp)]; go_simp
  · rw [hb.cell (by simp)]; go_simp
  · rw [hb.cell (by simp)]; go_simp
  · rw [hb.cell (by simp)]; go_simp
  · rw [hb.cell (by simp)]; go_simp
  · rw [hb.cell (by simp)]; go_simp
  · intro i; rw [hb.frozen (by simp)]; go_simp
  · have := hb.size; simp at this; omega
  · exact (((Below.refl _ _).alloc (Nat.le_refl _) _).alloc (by simp) _).trans (hb.mono (by simp; omega))

def zeros6 : Obj := .cells #[.slice none 0 0, .int .i64 0, .slice none 0 0, .int .i64 0, .slice none 0 0, .int .i64 0] 60

theorem set6 {B : Nat} {a w : World} (h : Below B a w) {g : Nat} (hg : B ≤ g) (u0 u1 u2 u3 u4 u5 : Value) :
    Below B a ((((((w.setCell ⟨g, 0, none⟩ u0).setCell ⟨g, 1, none⟩ u1).setCell ⟨g, 2, none⟩ u2).setCell ⟨g, 3, none⟩ u3).setCell ⟨g, 4, none⟩ u4).setCell ⟨g, 5, none⟩ u5) :=
  bset (bset (bset (bset (bset (bset h hg _) hg _) hg _) hg _) hg _) hg _

set_option maxHeartbeats 800000 in
theorem look_form (ca : Option Addr) (cl cc : Nat) (ra : Option Addr) (rl rc : Nat) (p : Num.Lp) (w : World) (hc : Ints w ca cl p.costs) (hcl : cl ≤ 9223372036854775807) (hr : RowsAt w ra rl p.rows) (hrl : rl ≤ 9223372036854775807)
    (aa : Option Addr) (al ac : Nat) (at' : List Int) (ha : Ints w aa al at') (_hal : al ≤ 9223372036854775807) (hm : p.may = false) :
    Calls Tryz.prog 29 #[.agg #[.slice ca cl cc, .slice ra rl rc], .slice aa al ac] w fun e w' => e = .returned (.tuple #[corner0, .int .i64 2]) ∧ Below w.heap.size w w' := by
  have HC : Hid (Ints w ca cl p.costs) := hc
  have HR : Hid (RowsAt w ra rl p.rows) := hr
  have HA : Hid (Ints w aa al at') := ha
  clear hc hr ha
  have HB0 : Hid _ := (box26 (Below.refl ((w.alloc (.cells #[.slice ca cl cc, .slice ra rl rc] 25)).alloc zeros6).heap.size ((w.alloc (.cells #[.slice ca cl cc, .slice ra rl rc] 25)).alloc zeros6))).2.2.2.2
  go_enter Tryz.func29, Tryz.ntmps29
  go_wp2_with fail
  refine (lmay_any _ _ _ _ _ _ p _ (Ints.below HC.out HB0.out (Nat.le_refl _)) hcl (RowsAt.below HR.out HB0.out (Nat.le_refl _)) hrl).mono ?_
  rintro e w1 ⟨rfl, hb1⟩
  rw [hm]
  obtain ⟨⟨b0, b1⟩, ⟨c0, c1, c2, c3, c4, c5⟩, f0, hz, hB⟩ := box26 hb1
  go_wp2_with fail
  exact bodyPost_ret (v := .tuple #[corner0, .int .i64 2]) (by simp [results, Tryz.results29, go_sem, corner0, c0, c1, c2, c3, c4, c5]) rfl ⟨rfl, set6 hB (by simp) _ _ _ _ _ _⟩

set_option maxHeartbeats 800000 in
theorem look_range (ca : Option Addr) (cl cc : Nat) (ra : Option Addr) (rl rc : Nat) (p : Num.Lp) (w : World) (hc : Ints w ca cl p.costs) (hcl : cl ≤ 9223372036854775807) (hr : RowsAt w ra rl p.rows) (hrl : rl ≤ 9223372036854775807)
    (aa : Option Addr) (al ac : Nat) (at' : List Int) (ha : Ints w aa al at') (hal : al ≤ 9223372036854775807) (hm : p.may = true) (N : Nat) (hN : cl + rl = N) (h8 : N ≤ 8) (hri : Num.rightB at' rl N = false) :
    Calls Tryz.prog 29 #[.agg #[.slice ca cl cc, .slice ra rl rc], .slice aa al ac] w fun e w' => e = .returned (.tuple #[corner0, .int .i64 3]) ∧ Below w.heap.size w w' := by
  have HC : Hid (Ints w ca cl p.costs) := hc
  have HR : Hid (RowsAt w ra rl p.rows) := hr
  have HA : Hid (Ints w aa al at') := ha
  clear hc hr ha
  have HB0 : Hid _ := (box26 (Below.refl ((w.alloc (.cells #[.slice ca cl cc, .slice ra rl rc] 25)).alloc zeros6).heap.size ((w.alloc (.cells #[.slice ca cl cc, .slice ra rl rc] 25)).alloc zeros6))).2.2.2.2
  go_enter Tryz.func29, Tryz.ntmps29
  go_wp2_with fail
  refine (lmay_any _ _ _ _ _ _ p _ (Ints.below HC.out HB0.out (Nat.le_refl _)) hcl (RowsAt.below HR.out HB0.out (Nat.le_refl _)) hrl).mono ?_
  rintro e w1 ⟨rfl, hb1⟩
  rw [hm]
  obtain ⟨⟨b0, b1⟩, _⟩ := box26 hb1
  go_wp2_with fail
  refine (chosen_any _ _ _ _ _ _ _ _ _ _ at' (Ints.below HA.out (box26 hb1).2.2.2.2 (Nat.le_refl _)) hal N hN h8).mono ?_
  rintro e w2 ⟨rfl, hb2⟩
  rw [hri]
  have hL2 := bstep hb1 hb2
  clear b0 b1 hb1 hb2
  obtain ⟨⟨b0, b1⟩, ⟨c0, c1, c2, c3, c4, c5⟩, f0, hz, hB⟩ := box26 hL2
  go_wp2_with fail
  exact bodyPost_ret (v := .tuple #[corner0, .int .i64 3]) (by simp [results, Tryz.results29, go_sem, corner0, c0, c1, c2, c3, c4, c5]) rfl ⟨rfl, set6 hB (by simp) _ _ _ _ _ _⟩

set_option maxHeartbeats 800000 in
theorem look_none (ca : Option Addr) (cl cc : Nat) (ra : Option Addr) (rl rc : Nat) (p : Num.Lp) (w : World) (hc : Ints w ca cl p.costs) (hcl : cl ≤ 9223372036854775807) (hr : RowsAt w ra rl p.rows) (hrl : rl ≤ 9223372036854775807)
    (aa : Option Addr) (al ac : Nat) (at' : List Int) (ha : Ints w aa al at') (hal : al ≤ 9223372036854775807) (hm : p.may = true) (N : Nat) (hN : cl + rl = N) (h8 : N ≤ 8) (hri : Num.rightB at' rl N = true) (hd : Num.denL p at' rl = 0) :
    Calls Tryz.prog 29 #[.agg #[.slice ca cl cc, .slice ra rl rc], .slice aa al ac] w fun e w' => e = .returned (.tuple #[corner0, .int .i64 4]) ∧ Below w.heap.size w w' := by
  have HC : Hid (Ints w ca cl p.costs) := hc
  have HR : Hid (RowsAt w ra rl p.rows) := hr
  have HA : Hid (Ints w aa al at') := ha
  clear hc hr ha
  have HB0 : Hid _ := (box26 (Below.refl ((w.alloc (.cells #[.slice ca cl cc, .slice ra rl rc] 25)).alloc zeros6).heap.size ((w.alloc (.cells #[.slice ca cl cc, .slice ra rl rc] 25)).alloc zeros6))).2.2.2.2
  have h4 : rl ≤ 4 := by have := HR.out.1; have := (p.may_of hm).2.2.1.2; omega
  have h1 : 1 ≤ rl := by have := HR.out.1; have := (p.may_of hm).2.2.1.1; omega
  obtain ⟨hal2, hat⟩ := Num.right_all at' rl N hri
  have hale : al = rl := by have := HA.out.1; omega
  have HAT : Hid (∀ k, k < rl → 0 ≤ at'[k]?.getD 0 ∧ at'[k]?.getD 0 < N) := hat
  have HM : Hid (p.may = true) := hm
  have HCH : Hid (Num.BdL 400 (Num.chosenL p at' rl)) := Num.chosen_bd p hm at' rl
  have HCN : Hid ((Num.chosenL p at' rl).length = rl ∧ ∀ l ∈ Num.chosenL p at' rl, l.length = rl) := Num.chosen_len p at' rl
  clear hal2 hat
  subst hale
  go_enter Tryz.func29, Tryz.ntmps29
  go_wp2_with fail
  refine (lmay_any _ _ _ _ _ _ p _ (Ints.below HC.out HB0.out (Nat.le_refl _)) hcl (RowsAt.below HR.out HB0.out (Nat.le_refl _)) hrl).mono ?_
  rintro e w1 ⟨rfl, hb1⟩
  rw [hm]
  obtain ⟨⟨b0, b1⟩, _⟩ := box26 hb1
  go_wp2_with fail
  refine (chosen_any _ _ _ _ _ _ _ _ _ _ at' (Ints.below HA.out (box26 hb1).2.2.2.2 (Nat.le_refl _)) hal N hN h8).mono ?_
  rintro e w2 ⟨rfl, hb2⟩
  rw [hri]
  have hL2 := bstep hb1 hb2
  clear b0 b1 hb1 hb2
  obtain ⟨⟨b0, b1⟩, _, _, _, hB⟩ := box26 hL2
  go_wp2_with fail
  refine (columns_any _ _ _ _ _ _ p _ (RowsAt.below HR.out hB (Nat.le_refl _)) HM.out _ _ _ at' (Ints.below HA.out hB (Nat.le_refl _)) h4 (fun k hk => by have := HAT.out k hk; omega)).mono ?_
  rintro e w3 ⟨gc, rfl, hgc, hLc, hb3⟩
  have HLC : Hid (Lines w3 (some ⟨gc, 0, none⟩) al (Num.chosenL p at' al)) := hLc
  have hL3 := bstep hL2 hb3
  clear b0 b1 hB hL2 hb3 hLc
  go_wp2_with fail
  refine (volume_any (Num.chosenL p at' al) _ _ _ _ HLC.out (Nat.le_refl _) h4 (fun l hl => by have := HCN.out.2 l hl; omega) HCH.out).mono ?_
  rintro e w4 ⟨rfl, hb4⟩
  have HLC4 : Hid (Lines w4 (some ⟨gc, 0, none⟩) al (Num.chosenL p at' al)) := Lines.below HLC.out hb4 (Nat.le_refl _)
  have hL4 := bstep hL3 hb4
  clear hL3 hb4 HLC
  rw [show Num.vol (Num.chosenL p at' al) Num.none4 = Num.denL p at' al from rfl]
  rw [hd]
  obtain ⟨⟨b0, b1⟩, ⟨c0, c1, c2, c3, c4, c5⟩, f0, hz, hB⟩ := box26 hL4
  go_wp2_with fail
  exact bodyPost_ret (v := .tuple #[corner0, .int .i64 4]) (by simp [results, Tryz.results29, go_sem, corner0, c0, c1, c2, c3, c4, c5]) rfl ⟨rfl, set6 hB (by simp) _ _ _ _ _ _⟩

end Go.Proofs.YtipcbhodlgoflabGreat

/- What corner.Look answers where the columns have one way. -/
namespace Go.Proofs.YtipcbhodlgoflabGreat
open Go.RowKit

theorem Ints.set6 {w : World} {a : Option Addr} {n b : Nat} {l : List Int} (h : Ints w a n l) (hf : n = 0 ∨ ∃ g, a = some ⟨g, 0, none⟩ ∧ b + 1 ≤ g) (u0 u1 u2 u3 u4 u5 : Value) :
    Ints ((((((w.setCell ⟨b, 0, none⟩ u0).setCell ⟨b, 1, none⟩ u1).setCell ⟨b, 2, none⟩ u2).setCell ⟨b, 3, none⟩ u3).setCell ⟨b, 4, none⟩ u4).setCell ⟨b, 5, none⟩ u5) a n l := by
  have hb : ∀ i, (⟨b, i, none⟩ : Addr).block < b + 1 := fun i => Nat.lt_succ_self b
  exact Ints.set (Ints.set (Ints.set (Ints.set (Ints.set (Ints.set h hf (hb _) _) hf (hb _) _) hf (hb _) _) hf (hb _) _) hf (hb _) _) hf (hb _) _

theorem six_set {w : World} {b : Nat} {a0 a1 a2 a3 a4 a5 : Value} (c0 : w.cell? ⟨b, 0, none⟩ = some a0) (c1 : w.cell? ⟨b, 1, none⟩ = some a1) (c2 : w.cell? ⟨b, 2, none⟩ = some a2) (c3 : w.cell? ⟨b, 3, none⟩ = some a3) (c4 : w.cell? ⟨b, 4, none⟩ = some a4) (c5 : w.cell? ⟨b, 5, none⟩ = some a5)
    (u0 u1 u2 u3 u4 u5 : Value) (o : Obj) (X : World) (hX : X = (((((((w.setCell ⟨b, 0, none⟩ u0).setCell ⟨b, 1, none⟩ u1).setCell ⟨b, 2, none⟩ u2).setCell ⟨b, 3, none⟩ u3).setCell ⟨b, 4, none⟩ u4).setCell ⟨b, 5, none⟩ u5).alloc o)) :
    X.cell? ⟨b, 0, none⟩ = some u0 ∧ X.cell? ⟨b, 1, none⟩ = some u1 ∧ X.cell? ⟨b, 2, none⟩ = some u2 ∧ X.cell? ⟨b, 3, none⟩ = some u3 ∧ X.cell? ⟨b, 4, none⟩ = some u4 ∧ X.cell? ⟨b, 5, none⟩ = some u5 := by
  have hlt : b < w.heap.size := World.block_lt_of_cell? w _ c0
  have hal : ∀ i, X.cell? ⟨b, i, none⟩ = ((((((w.setCell ⟨b, 0, none⟩ u0).setCell ⟨b, 1, none⟩ u1).setCell ⟨b, 2, none⟩ u2).setCell ⟨b, 3, none⟩ u3).setCell ⟨b, 4, none⟩ u4).setCell ⟨b, 5, none⟩ u5).cell? ⟨b, i, none⟩ := fun i => by
    rw [hX]; exact (balloc _ o).cell (p := ⟨b, i, none⟩) (by simpa using hlt)
  have ot : ∀ (v : World) (i j : Nat) (u : Value), i ≠ j → (v.setCell ⟨b, j, none⟩ u).cell? ⟨b, i, none⟩ = v.cell? ⟨b, i, none⟩ := fun v i j u h => World.cell?_setCell_other _ _ _ _ (by simp)
  have sm : ∀ (v : World) (j : Nat) (u a : Value), v.cell? ⟨b, j, none⟩ = some a → (v.setCell ⟨b, j, none⟩ u).cell? ⟨b, j, none⟩ = some u := fun v j u a h => World.cell?_setCell_same' _ _ _ (by rw [h]; rfl)
  refine ⟨?_, ?_, ?_, ?_, ?_, ?_⟩ <;> rw [hal]
  · rw [ot _ 0 5 _ (by decide), ot _ 0 4 _ (by decide), ot _ 0 3 _ (by decide), ot _ 0 2 _ (by decide), ot _ 0 1 _ (by decide)]; exact sm _ _ _ _ c0
  · rw [ot _ 1 5 _ (by decide), ot _ 1 4 _ (by decide), ot _ 1 3 _ (by decide), ot _ 1 2 _ (by decide)]; exact sm _ _ _ _ (by rw [ot _ 1 0 _ (by decide)]; exact c1)
  · rw [ot _ 2 5 _ (by decide), ot _ 2 4 _ (by decide), ot _ 2 3 _ (by decide)]; exact sm _ _ _ _ (by rw [ot _ 2 1 _ (by decide), ot _ 2 0 _ (by decide)]; exact c2)
  · rw [ot _ 3 5 _ (by decide), ot _ 3 4 _ (by decide)]; exact sm _ _ _ _ (by rw [ot _ 3 2 _ (by decide), ot _ 3 1 _ (by decide), ot _ 3 0 _ (by decide)]; exact c3)
  · rw [ot _ 4 5 _ (by decide)]; exact sm _ _ _ _ (by rw [ot _ 4 3 _ (by decide), ot _ 4 2 _ (by decide), ot _ 4 1 _ (by decide), ot _ 4 0 _ (by decide)]; exact c4)
  · exact sm _ _ _ _ (by rw [ot _ 5 4 _ (by decide), ot _ 5 3 _ (by decide), ot _ 5 2 _ (by decide), ot _ 5 1 _ (by decide), ot _ 5 0 _ (by decide)]; exact c5)

theorem Fz.set6 {w : World} {a : Option Addr} (h : Fz w a) (b : Nat) (u0 u1 u2 u3 u4 u5 : Value) :
    Fz ((((((w.setCell ⟨b, 0, none⟩ u0).setCell ⟨b, 1, none⟩ u1).setCell ⟨b, 2, none⟩ u2).setCell ⟨b, 3, none⟩ u3).setCell ⟨b, 4, none⟩ u4).setCell ⟨b, 5, none⟩ u5) a :=
  (((((h.set _ _).set _ _).set _ _).set _ _).set _ _).set _ _

/-- Three slices that are new since the world had B blocks; the second may be written. -/
structure Newly (B : Nat) (w : World) (xa : Option Addr) (xl : Nat) (ya : Option Addr) (yl : Nat) (ga : Option Addr) (gl : Nat) : Prop where
  x : xl = 0 ∨ ∃ g, xa = some ⟨g, 0, none⟩ ∧ B ≤ g
  y : yl = 0 ∨ ∃ g, ya = some ⟨g, 0, none⟩ ∧ B ≤ g
  g : gl = 0 ∨ ∃ g, ga = some ⟨g, 0, none⟩ ∧ B ≤ g
  w : Fz w ya

theorem Newly.nil (B : Nat) (w : World) : Newly B w none 0 none 0 none 0 := ⟨Or.inl rfl, Or.inl rfl, Or.inl rfl, Fz.nil w⟩

/-- A point that lies in a box of two cells, its numbers behind it. -/
structure Landed (V W : World) (bx : Nat) (xa : Option Addr) (xl xc : Nat) (d : Int) (m : List Int) : Prop where
  bel : Below V.heap.size V W
  c0 : W.cell? ⟨bx, 0, none⟩ = some (.slice xa xl xc)
  c1 : W.cell? ⟨bx, 1, none⟩ = some (.int .i64 d)
  ints : Ints W xa xl m
  lo : V.heap.size ≤ bx
  hi : bx < W.heap.size

theorem landA {V v : World} {xa : Option Addr} {xl xc : Nat} {d : Int} {m : List Int} {t : TypeId} (h : Below V.heap.size V v) (hI : Ints v xa xl m) : Landed V (v.alloc (.cells #[.slice xa xl xc, .int .i64 d] t)) v.heap.size xa xl xc d m :=
  ⟨bstep h (balloc _ _), (cell_new2 rfl _ _ _).1, (cell_new2 rfl _ _ _).2, hI.below (balloc _ _) (Nat.le_refl _), h.size, by simp⟩

theorem landB {V v : World} {bx : Nat} {xa : Option Addr} {xl xc : Nat} {d : Int} {m : List Int} {a b : Value} {F : Prop} (h : Below V.heap.size V v) (hI : Ints v xa xl m) (hz : (v.cell? ⟨bx, 0, none⟩ = some a ∧ v.cell? ⟨bx, 1, none⟩ = some b) ∧ F)
    (hlo : V.heap.size ≤ bx) (hf : xl = 0 ∨ ∃ g, xa = some ⟨g, 0, none⟩ ∧ bx + 1 ≤ g) : Landed V ((v.setCell ⟨bx, 0, none⟩ (.slice xa xl xc)).setCell ⟨bx, 1, none⟩ (.int .i64 d)) bx xa xl xc d m := by
  obtain ⟨⟨z0, z1⟩, _⟩ := hz
  have hlt : bx < v.heap.size := World.block_lt_of_cell? v _ z0
  refine ⟨bset (bset h hlo _) hlo _, ?_, ?_, Ints.set (base := bx + 1) (Ints.set (base := bx + 1) hI hf (Nat.lt_succ_self _) _) hf (Nat.lt_succ_self _) _, hlo, by simpa using hlt⟩
  · rw [World.cell?_setCell_other _ _ _ _ (by simp)]
    exact World.cell?_setCell_same' _ _ _ (by rw [z0]; rfl)
  · exact World.cell?_setCell_same' _ _ _ (by rw [World.cell?_setCell_other _ _ _ _ (by simp), z1]; rfl)

theorem far_up {n b b' : Nat} {a : Option Addr} (h : n = 0 ∨ ∃ g, a = some ⟨g, 0, none⟩ ∧ b ≤ g) (hb : b' ≤ b) : n = 0 ∨ ∃ g, a = some ⟨g, 0, none⟩ ∧ b' ≤ g := by
  rcases h with h | ⟨g, h, h'⟩
  · exact Or.inl h
  · exact Or.inr ⟨g, h, by omega⟩

/-- frac.Point: what it makes is new, has room, and may be written. -/
theorem point_capz (d : Int) (a : Option Addr) (len cap : Nat) (l : List Int) (w : World) (hi : Ints w a len l) (hlen : len ≤ 9223372036854775807) (m : List Int) (y z : Int) (h : Num.pt l d = (m, y, z)) :
    Calls Tryz.prog 31 #[.slice a len cap, .int .i64 d] w fun e w' => ∃ a' n' c', e = .returned (.tuple #[.agg #[.slice a' n' c', .int .i64 y], .int .i64 z]) ∧ Ints w' a' n' m ∧ (n' ≤ len ∧ n' ≤ c') ∧ Below w.heap.size w w' ∧ (n' = 0 ∨ ∃ g, a' = some ⟨g, 0, none⟩ ∧ w.heap.size ≤ g) ∧ Fz w' a' := by
  unfold Num.pt at h
  by_cases h0 : (Num.low d l).2 = 0
  · rw [if_pos h0] at h
    simp only [Prod.mk.injEq] at h
    obtain ⟨rfl, rfl, rfl⟩ := h
    refine (point_ok d a len cap l w hi h0).mono ?_
    rintro e w' ⟨g, rfl, h1, h2, h3, h4⟩
    exact ⟨_, _, _, rfl, h1, ⟨Nat.le_refl _, Nat.le_refl _⟩, h2, Or.inr ⟨g, rfl, h3⟩, h4⟩
  · rw [if_neg h0] at h
    simp only [Prod.mk.injEq] at h
    obtain ⟨rfl, rfl, rfl⟩ := h
    refine (point_bad d a len cap l w hi hlen (by simpa using h0)).mono ?_
    rintro e w' ⟨rfl, h2⟩
    exact ⟨_, _, _, rfl, ⟨rfl, Or.inl rfl⟩, ⟨Nat.zero_le _, Nat.zero_le _⟩, h2, Or.inl rfl, Fz.nil _⟩

theorem point_cap (d : Int) (a : Option Addr) (len cap : Nat) (l : List Int) (w : World) (hi : Ints w a len l) (hlen : len ≤ 9223372036854775807) (m : List Int) (y z : Int) (h : Num.pt l d = (m, y, z)) :
    Calls Tryz.prog 31 #[.slice a len cap, .int .i64 d] w fun e w' => ∃ a' n' c', e = .returned (.tuple #[.agg #[.slice a' n' c', .int .i64 y], .int .i64 z]) ∧ Ints w' a' n' m ∧ (n' ≤ len ∧ n' ≤ c') ∧ Below w.heap.size w w' ∧ (n' = 0 ∨ ∃ g, a' = some ⟨g, 0, none⟩ ∧ w.heap.size ≤ g) :=
  (point_capz d a len cap l w hi hlen m y z h).mono fun _ _ ⟨a', n', c', h1, h2, h3, h4, h5, _⟩ => ⟨a', n', c', h1, h2, h3, h4, h5⟩

set_option maxHeartbeats 800000 in
theorem look_ok (ca : Option Addr) (cl cc : Nat) (ra : Option Addr) (rl rc : Nat) (p : Num.Lp) (w : World) (hc : Ints w ca cl p.costs) (hcl : cl ≤ 9223372036854775807) (hr : RowsAt w ra rl p.rows) (hrl : rl ≤ 9223372036854775807)
    (aa : Option Addr) (al ac : Nat) (at' : List Int) (ha : Ints w aa al at') (hal : al ≤ 9223372036854775807) (hm : p.may = true) (N : Nat) (hN : cl + rl = N) (h8 : N ≤ 8) (hri : Num.rightB at' rl N = true) (hd : (Num.denL p at' rl == 0) = false)
    (mx my mg : List Int) (dx dy dg zx zy zg : Int) (hx : Num.pt (Num.xL p at' rl N) (Num.denL p at' rl) = (mx, dx, zx)) (hy : Num.pt (Num.priceL p at' rl) (Num.denL p at' rl) = (my, dy, zy)) (hg : Num.pt (Num.gainL p at' rl N) (Num.denL p at' rl) = (mg, dg, zg)) :
    Calls Tryz.prog 29 #[.agg #[.slice ca cl cc, .slice ra rl rc], .slice aa al ac] w fun e w' => ∃ xa xl xc ya yl yc ga gl gc, e = .returned (.tuple #[.agg #[.slice xa xl xc, .int .i64 dx, .slice ya yl yc, .int .i64 dy, .slice ga gl gc, .int .i64 dg], .int .i64 0]) ∧
      Ints w' xa xl mx ∧ Ints w' ya yl my ∧ Ints w' ga gl mg ∧ xl ≤ 8 ∧ yl ≤ 8 ∧ gl ≤ 8 ∧ Below w.heap.size w w' ∧ (xl ≤ xc ∧ yl ≤ yc ∧ gl ≤ gc) ∧ Newly w.heap.size w' xa xl ya yl ga gl := by
  have HX : Hid (Num.pt (Num.xL p at' rl N) (Num.denL p at' rl) = (mx, dx, zx)) := hx
  have HY : Hid (Num.pt (Num.priceL p at' rl) (Num.denL p at' rl) = (my, dy, zy)) := hy
  have HG : Hid (Num.pt (Num.gainL p at' rl N) (Num.denL p at' rl) = (mg, dg, zg)) := hg
  have HDB : Hid (rl ≤ 4 → -6553600000000 ≤ Num.denL p at' rl ∧ Num.denL p at' rl ≤ 6553600000000) := Num.den_bd p hm at' rl
  have HPB : Hid (rl ≤ 4 → ∀ j : Nat, -6553600000000 ≤ (Num.priceL p at' rl)[j]?.getD 0 ∧ (Num.priceL p at' rl)[j]?.getD 0 ≤ 6553600000000) := Num.price_bd p hm at' rl
  have HWB : Hid (∀ j : Nat, -400 ≤ (Num.worthsL p at' rl)[j]?.getD 0 ∧ (Num.worthsL p at' rl)[j]?.getD 0 ≤ 400) := Num.worths_bd p hm at' rl
  have HMB : Hid (∀ j : Nat, -400 ≤ (Num.mostsL p rl)[j]?.getD 0 ∧ (Num.mostsL p rl)[j]?.getD 0 ≤ 400) := Num.mosts_bd p hm rl
  clear hx hy hg
  have HC : Hid (Ints w ca cl p.costs) := hc
  have HR : Hid (RowsAt w ra rl p.rows) := hr
  have HA : Hid (Ints w aa al at') := ha
  clear hc hr ha
  have HB0 : Hid _ := (box26 (Below.refl ((w.alloc (.cells #[.slice ca cl cc, .slice ra rl rc] 25)).alloc zeros6).heap.size ((w.alloc (.cells #[.slice ca cl cc, .slice ra rl rc] 25)).alloc zeros6))).2.2.2.2
  have h4 : rl ≤ 4 := by have := HR.out.1; have := (p.may_of hm).2.2.1.2; omega
  have h1 : 1 ≤ rl := by have := HR.out.1; have := (p.may_of hm).2.2.1.1; omega
  obtain ⟨hal2, hat⟩ := Num.right_all at' rl N hri
  have hale : al = rl := by have := HA.out.1; omega
  have HAT : Hid (∀ k, k < rl → 0 ≤ at'[k]?.getD 0 ∧ at'[k]?.getD 0 < N) := hat
  have HM : Hid (p.may = true) := hm
  have HCH : Hid (Num.BdL 400 (Num.chosenL p at' rl)) := Num.chosen_bd p hm at' rl
  have HCN : Hid ((Num.chosenL p at' rl).length = rl ∧ ∀ l ∈ Num.chosenL p at' rl, l.length = rl) := Num.chosen_len p at' rl
  clear hal2 hat
  subst hale
  go_enter Tryz.func29, Tryz.ntmps29
  go_wp2_with fail
  refine (lmay_any _ _ _ _ _ _ p _ (Ints.below HC.out HB0.out (Nat.le_refl _)) hcl (RowsAt.below HR.out HB0.out (Nat.le_refl _)) hrl).mono ?_
  rintro e w1 ⟨rfl, hb1⟩
  rw [hm]
  obtain ⟨⟨b0, b1⟩, _⟩ := box26 hb1
  go_wp2_with fail
  refine (chosen_any _ _ _ _ _ _ _ _ _ _ at' (Ints.below HA.out (box26 hb1).2.2.2.2 (Nat.le_refl _)) hal N hN h8).mono ?_
  rintro e w2 ⟨rfl, hb2⟩
  rw [hri]
  have hL2 := bstep hb1 hb2
  clear b0 b1 hb1 hb2
  obtain ⟨⟨b0, b1⟩, _, _, _, hB⟩ := box26 hL2
  go_wp2_with fail
  refine (columns_any _ _ _ _ _ _ p _ (RowsAt.below HR.out hB (Nat.le_refl _)) HM.out _ _ _ at' (Ints.below HA.out hB (Nat.le_refl _)) h4 (fun k hk => by have := HAT.out k hk; omega)).mono ?_
  rintro e w3 ⟨gc, rfl, hgc, hLc, hb3⟩
  have HLC : Hid (Lines w3 (some ⟨gc, 0, none⟩) al (Num.chosenL p at' al)) := hLc
  have hL3 := bstep hL2 hb3
  clear b0 b1 hB hL2 hb3 hLc
  go_wp2_with fail
  refine (volume_any (Num.chosenL p at' al) _ _ _ _ HLC.out (Nat.le_refl _) h4 (fun l hl => by have := HCN.out.2 l hl; omega) HCH.out).mono ?_
  rintro e w4 ⟨rfl, hb4⟩
  have HLC4 : Hid (Lines w4 (some ⟨gc, 0, none⟩) al (Num.chosenL p at' al)) := Lines.below HLC.out hb4 (Nat.le_refl _)
  have hL4 := bstep hL3 hb4
  clear hL3 hb4 HLC
  rw [show Num.vol (Num.chosenL p at' al) Num.none4 = Num.denL p at' al from rfl]
  generalize hden : Num.denL p at' al = den at *
  have HDEN : Hid _ := hden
  clear hden
  obtain ⟨⟨b0, b1⟩, _, _, hz, hB⟩ := box26 hL4
  go_wp2_with fail
  have HBV : Hid (∀ w', Below w4.heap.size w4 w' → Below w.heap.size w w') := fun w' h => bstep hB h
  have q0 : ∀ w', Below w4.heap.size w4 w' → w'.cell? ⟨w.heap.size, 0, none⟩ = some (.slice ca cl cc) := fun w' h => by rw [h.cell (by show w.heap.size < _; omega)]; exact b0
  have q1 : ∀ w', Below w4.heap.size w4 w' → w'.cell? ⟨w.heap.size, 1, none⟩ = some (.slice ra al rc) := fun w' h => by rw [h.cell (by show w.heap.size < _; omega)]; exact b1
  have KT : Hid (∀ w', Below w4.heap.size w4 w' → Calls Tryz.prog 49 #[.slice (some ⟨gc, 0, none⟩) al al] w' fun e w'' => ∃ g, e = .returned (.slice (some ⟨g, 0, none⟩) al al) ∧ Below w4.heap.size w4 w'' ∧ Lines w'' (some ⟨g, 0, none⟩) al (Num.turnL (Num.chosenL p at' al)) ∧ Below w'.heap.size w' w'') := by
    intro w' h
    refine (turned_any _ _ _ (Num.chosenL p at' al) w' (Lines.below HLC4.out h (Nat.le_refl _)) h1 h4 HCN.out.2).mono ?_
    rintro e w'' ⟨g, rfl, _, hl, hb⟩
    exact ⟨g, rfl, bstep h hb, hl, hb⟩
  have KW : Hid (∀ w', Below w4.heap.size w4 w' → Calls Tryz.prog 50 #[.agg #[.slice ca cl cc, .slice ra al rc], .slice aa al ac] w' fun e w'' => ∃ g, e = .returned (.slice (some ⟨g, 0, none⟩) al al) ∧ Below w4.heap.size w4 w'' ∧ Ints w'' (some ⟨g, 0, none⟩) al (Num.worthsL p at' al) ∧ Below w'.heap.size w' w'') := by
    intro w' h
    refine (worths_any _ _ _ _ _ _ p w' (Ints.below HC.out (HBV.out w' h) (Nat.le_refl _)) _ _ _ at' (Ints.below HA.out (HBV.out w' h) (Nat.le_refl _)) h4 (fun k hk => (HAT.out k hk).1)).mono ?_
    rintro e w'' ⟨g, rfl, _, hl, hb⟩
    exact ⟨g, rfl, bstep h hb, hl, hb⟩
  have KS : Hid (∀ w' g g', Below w4.heap.size w4 w' → Lines w' (some ⟨g, 0, none⟩) al (Num.turnL (Num.chosenL p at' al)) → Ints w' (some ⟨g', 0, none⟩) al (Num.worthsL p at' al) → Calls Tryz.prog 48 #[.slice (some ⟨g, 0, none⟩) al al, .slice (some ⟨g', 0, none⟩) al al] w' fun e w'' => ∃ g, e = .returned (.slice (some ⟨g, 0, none⟩) al al) ∧ Below w4.heap.size w4 w'' ∧ Ints w'' (some ⟨g, 0, none⟩) al (Num.priceL p at' al)) := by
    intro w' g g' h hl hi
    have ht := Num.turn_len (Num.chosenL p at' al) al HCN.out.1
    refine (shares_any _ _ _ (Num.turnL (Num.chosenL p at' al)) w' hl _ _ _ (Num.worthsL p at' al) hi (Nat.le_refl _) h1 h4 h4 (fun l hl => by have := ht.2 l hl; omega) (Num.turn_bd _ _ HCH.out) HWB.out).mono ?_
    rintro e w'' ⟨g, rfl, _, hl, hb⟩
    exact ⟨g, rfl, bstep h hb, hl⟩
  have hS0 : Below w4.heap.size w4 w4.drew := (Below.refl _ _).drew
  have HL4 : Hid _ := hL4
  clear b0 b1 hz hB hL4
  go_region_held3 (fun w' => Below w4.heap.size w4 w') (first | assumption)
    (first | (go_at_call 49; refine (KT.out _ ?_).mono ?_; assumption; rintro e v1 ⟨g1, rfl, hb1, hLT, hk1⟩; (try (have hIW := Ints.below hIW hk1 (Nat.le_refl _))))
           | (go_at_call 50; refine (KW.out _ ?_).mono ?_; assumption; rintro e v2 ⟨g2, rfl, hb2, hIW, hk2⟩; (try (have hLT := Lines.below hLT hk2 (Nat.le_refl _))))
           | (go_at_call 48; refine (KS.out _ _ _ ?_ hLT hIW).mono ?_; assumption; rintro e v3 ⟨g3, rfl, hb3, hIP⟩))
  have hL5 := bstep HL4.out hb3
  have HLC5 : Hid (Lines v3 (some ⟨gc, 0, none⟩) al (Num.chosenL p at' al)) := Lines.below HLC4.out hb3 (Nat.le_refl _)
  have HIP : Hid (Ints v3 (some ⟨g3, 0, none⟩) al (Num.priceL p at' al)) := hIP
  clear q0 q1 KT KW KS hS0 HL4 HLC4 HBV hIP hb3
  clear hb1 hb2 hLT hIW hk1 hk2
  obtain ⟨⟨b0, b1⟩, _, _, hz, hB⟩ := box26 hL5
  go_wp2_with fail
  have HBV : Hid (∀ w', Below v3.heap.size v3 w' → Below w.heap.size w w') := fun w' h => bstep hB h
  have q0 : ∀ w', Below v3.heap.size v3 w' → w'.cell? ⟨w.heap.size, 0, none⟩ = some (.slice ca cl cc) := fun w' h => by rw [h.cell (by show w.heap.size < _; omega)]; exact b0
  have q1 : ∀ w', Below v3.heap.size v3 w' → w'.cell? ⟨w.heap.size, 1, none⟩ = some (.slice ra al rc) := fun w' h => by rw [h.cell (by show w.heap.size < _; omega)]; exact b1
  have KM : Hid (∀ w', Below v3.heap.size v3 w' → Calls Tryz.prog 52 #[.agg #[.slice ca cl cc, .slice ra al rc]] w' fun e w'' => ∃ g, e = .returned (.slice (some ⟨g, 0, none⟩) al al) ∧ Below v3.heap.size v3 w'' ∧ Ints w'' (some ⟨g, 0, none⟩) al (Num.mostsL p al) ∧ Below w'.heap.size w' w'') := by
    intro w' h
    refine (mosts_any _ _ _ _ _ _ p w' (RowsAt.below HR.out (HBV.out w' h) (Nat.le_refl _)) h4).mono ?_
    rintro e w'' ⟨g, rfl, _, hl, hb⟩
    exact ⟨g, rfl, bstep h hb, hl, hb⟩
  have KS : Hid (∀ w' g', Below v3.heap.size v3 w' → Ints w' (some ⟨g', 0, none⟩) al (Num.mostsL p al) → Calls Tryz.prog 48 #[.slice (some ⟨gc, 0, none⟩) al al, .slice (some ⟨g', 0, none⟩) al al] w' fun e w'' => ∃ g, e = .returned (.slice (some ⟨g, 0, none⟩) al al) ∧ Below v3.heap.size v3 w'' ∧ Ints w'' (some ⟨g, 0, none⟩) al (Num.sharesL (Num.chosenL p at' al) (Num.mostsL p al) al) ∧ Below w'.heap.size w' w'') := by
    intro w' g' h hi
    refine (shares_any _ _ _ (Num.chosenL p at' al) w' (Lines.below HLC5.out h (Nat.le_refl _)) _ _ _ (Num.mostsL p al) hi (Nat.le_refl _) h1 h4 h4 (fun l hl => by have := HCN.out.2 l hl; omega) HCH.out HMB.out).mono ?_
    rintro e w'' ⟨g, rfl, _, hl, hb⟩
    exact ⟨g, rfl, bstep h hb, hl, hb⟩
  have KP : Hid (∀ w' g', Below v3.heap.size v3 w' → Ints w' (some ⟨g', 0, none⟩) al (Num.sharesL (Num.chosenL p at' al) (Num.mostsL p al) al) → Calls Tryz.prog 51 #[.agg #[.slice ca cl cc, .slice ra al rc], .slice aa al ac, .slice (some ⟨g', 0, none⟩) al al] w' fun e w'' => ∃ g, e = .returned (.slice (some ⟨g, 0, none⟩) N N) ∧ Below v3.heap.size v3 w'' ∧ Ints w'' (some ⟨g, 0, none⟩) N (Num.xL p at' al N) ∧ Below w'.heap.size w' w'') := by
    intro w' g' h hi
    refine (spread_any _ _ _ _ _ _ w' _ _ _ at' (Ints.below HA.out (HBV.out w' h) (Nat.le_refl _)) _ _ _ hi h4 N hN h8 HAT.out).mono ?_
    rintro e w'' ⟨g, rfl, _, hl, hb⟩
    exact ⟨g, rfl, bstep h hb, hl, hb⟩
  have KF : Hid (∀ w' g', Below v3.heap.size v3 w' → Ints w' (some ⟨g', 0, none⟩) N (Num.xL p at' al N) → Calls Tryz.prog 31 #[.slice (some ⟨g', 0, none⟩) N N, .int .i64 den] w' fun e w'' => ∃ a' n' c', e = .returned (.tuple #[.agg #[.slice a' n' c', .int .i64 dx], .int .i64 zx]) ∧ Below v3.heap.size v3 w'' ∧ Ints w'' a' n' mx ∧ (n' ≤ 8 ∧ n' ≤ c') ∧ Below w'.heap.size w' w'' ∧ (n' = 0 ∨ ∃ g, a' = some ⟨g, 0, none⟩ ∧ w'.heap.size ≤ g)) := by
    intro w' g' h hi
    refine (point_cap den _ _ _ (Num.xL p at' al N) w' hi (by omega) mx dx zx HX.out).mono ?_
    rintro e w'' ⟨a', n', c', rfl, hl, hn, hb, hf⟩
    exact ⟨a', n', c', rfl, bstep h hb, hl, ⟨by omega, hn.2⟩, hb, hf⟩
  have hS0 : Below v3.heap.size v3 v3.drew := (Below.refl _ _).drew
  have HL5 : Hid _ := hL5
  clear b0 b1 hz hB hL5
  go_region_held3 (fun w' => Below v3.heap.size v3 w') (first | assumption | exact (Below.refl _ _).drew | exact ((Below.refl _ _).alloc (Nat.le_refl _) _).drew | (refine Below.alloc ?_ ?_ _ <;> first | assumption | (apply Below.size; assumption)) | (refine Below.setCell (Below.setCell ?_ ?_ _) ?_ _ <;> first | assumption | exact Nat.le_refl _ | (apply Below.size; assumption)))
    (first | (go_at_call 52; refine (KM.out _ ?_).mono ?_; assumption; rintro e v1 ⟨g1, rfl, hb1, hI1, hk1⟩; (first | (have hz2 := kept2 hk1) | (have hz2 := kept2d hk1) | skip))
           | (go_at_call 48; (first | refine (KS.out _ _ ?_ hI1).mono ?_ | refine (KS.out _ _ ?_ (Ints.below hI1 (balloc _ _) (Nat.le_refl _))).mono ?_); assumption; rintro e v2 ⟨g2, rfl, hb2, hI2, hk2⟩; (first | (have hz2 := carry2 hk2 hz2) | (have hz2 := kept2 hk2) | (have hz2 := kept2d hk2) | skip))
           | (go_at_call 51; (first | refine (KP.out _ _ ?_ hI2).mono ?_ | refine (KP.out _ _ ?_ (Ints.below hI2 (balloc _ _) (Nat.le_refl _))).mono ?_); assumption; rintro e v4 ⟨g4, rfl, hb4, hI4, hk4⟩; (first | (have hz2 := carry2 hk4 hz2) | (have hz2 := kept2 hk4) | (have hz2 := kept2d hk4) | skip))
           | (go_at_call 31; (first | refine (KF.out _ _ ?_ hI4).mono ?_ | refine (KF.out _ _ ?_ (Ints.below hI4 (balloc _ _) (Nat.le_refl _))).mono ?_); assumption; rintro e v5 ⟨xa, xl, xc, rfl, hb5, hI5, hn5, hk5, hf5⟩; (first | (have hz2 := carry2 hk5 hz2) | (have hz2 := kept2 hk5) | (have hz2 := kept2d hk5) | skip)))
  · rename_i hfin
    have hLD : Landed v3 (v5.alloc (.cells #[.slice xa xl xc, .int .i64 dx] 34)) v5.heap.size xa xl xc dx mx := landA hb5 hI5
    have hfx : xl = 0 ∨ ∃ g, xa = some ⟨g, 0, none⟩ ∧ v3.heap.size ≤ g := far_up hf5 hb4.size
    clear hfin q0 q1 KM KS KP KF hS0 hb1 hb2 hb4 hb5 hI1 hI2 hI4 hI5 hk1 hk2 hk4 hk5 hf5
    generalize v5.alloc (.cells #[.slice xa xl xc, .int .i64 dx] 34) = W at *
    generalize v5.heap.size = bx at *
    have hL6 := bstep HL5.out hLD.bel
    have HIP6 : Hid (Ints W (some ⟨g3, 0, none⟩) al (Num.priceL p at' al)) := Ints.below HIP.out hLD.bel (Nat.le_refl _)
    obtain ⟨_, p0, p1, hIX, hlo, hhi⟩ := hLD
    have HIX : Hid (Ints W xa xl mx) := hIX
    have HFX : Hid (xl = 0 ∨ ∃ g, xa = some ⟨g, 0, none⟩ ∧ w.heap.size + 1 + 1 ≤ g) := far_up hfx (by have := HL5.out.size; simp at this; omega)
    clear hIX hfx HIP HLC5 HBV hlo
    generalize W.heap.size = dummy at hhi
    clear hhi dummy
    go_wp2_with fail
    refine (point_capz den _ _ _ (Num.priceL p at' al) _ HIP6.out (by omega) my dy zy HY.out).mono ?_
    rintro e w6 ⟨ya, yl, yc, rfl, hIY, hyn, hb6, hfy, hqy⟩
    have HQ7 : Hid (Fz w6 ya) := hqy
    clear hqy
    have hL7 := bstep hL6 hb6
    have p0' := carry hb6 p0
    have p1' := carry hb6 p1
    have HIX7 : Hid (Ints w6 xa xl mx) := Ints.below HIX.out hb6 (Nat.le_refl _)
    have HIP7 : Hid (Ints w6 (some ⟨g3, 0, none⟩) al (Num.priceL p at' al)) := Ints.below HIP6.out hb6 (Nat.le_refl _)
    have HIY7 : Hid (Ints w6 ya yl my) := hIY
    have HFY : Hid (yl = 0 ∨ ∃ g, ya = some ⟨g, 0, none⟩ ∧ w.heap.size + 1 + 1 ≤ g) := far_up hfy (by have := hL6.size; simp at this; omega)
    have hL8 := bstep hL7 (balloc w6 (.cells #[.slice ya yl yc, .int .i64 dy] 34))
    obtain ⟨⟨b0, b1⟩, _, _, hz, hB⟩ := box26 hL7
    have hB8 := bstep hB (balloc w6 (.cells #[.slice ya yl yc, .int .i64 dy] 34))
    have hlt0 : w.heap.size < w6.heap.size := by omega
    clear hIY hfy hb6 p0 p1 HIX HIP6 hL6 hL7 hz hB
    go_wp2_with fail
    refine (gains_any _ _ _ _ _ _ p _ (Ints.below HC.out hB8 (Nat.le_refl _)) (RowsAt.below HR.out hB8 (Nat.le_refl _)) HM.out _ _ (Num.priceL p at' al) (Ints.below HIP7.out (balloc _ _) (Nat.le_refl _)) den N hN (HDB.out h4) (HPB.out h4)).mono ?_
    rintro e w7 ⟨gg, rfl, hgg, hIG, hb7⟩
    have HIG : Hid (Ints w7 (some ⟨gg, 0, none⟩) N (Num.gainL p at' al N)) := by
      have e : Num.gainL p at' al N = (List.range N).map (Num.gainF p (Num.priceL p at' al) den) := by rw [← HDEN.out]; rfl
      rw [e]; exact hIG
    have r0 := carry hb7 (carry (balloc _ _) p0')
    have r1 := carry hb7 (carry (balloc _ _) p1')
    obtain ⟨⟨s0, s1⟩, _⟩ := kept2 hb7
    have HIX8 : Hid (Ints w7 xa xl mx) := Ints.below (Ints.below HIX7.out (balloc _ _) (Nat.le_refl _)) hb7 (Nat.le_refl _)
    have HQ8 : Hid (Fz w7 ya) := Fz.below (Fz.below HQ7.out (balloc _ _)) hb7
    have HIY8 : Hid (Ints w7 ya yl my) := Ints.below (Ints.below HIY7.out (balloc _ _) (Nat.le_refl _)) hb7 (Nat.le_refl _)
    have hL9 := bstep hL8 hb7
    clear hIG hb7 hL8 hB8 p0' p1' b0 b1 HIX7 HIY7 HIP7 hgg
    go_wp2_with fail
    refine (point_cap den _ _ _ (Num.gainL p at' al N) _ HIG.out (by omega) mg dg zg HG.out).mono ?_
    rintro e w8 ⟨ga, gl, gk, rfl, hIZ, hzn, hb8, hfz⟩
    have hL10 := bstep hL9 hb8
    have HFZ : Hid (gl = 0 ∨ ∃ g, ga = some ⟨g, 0, none⟩ ∧ w.heap.size + 1 + 1 ≤ g) := far_up hfz (by have := hL9.size; simp at this; omega)
    have r0' := carry hb8 r0
    have r1' := carry hb8 r1
    have s0' := carry hb8 s0
    have s1' := carry hb8 s1
    have HIX9 : Hid (Ints w8 xa xl mx) := Ints.below HIX8.out hb8 (Nat.le_refl _)
    have HQ9 : Hid (Fz w8 ya) := Fz.below HQ8.out hb8
    have HIY9 : Hid (Ints w8 ya yl my) := Ints.below HIY8.out hb8 (Nat.le_refl _)
    have HIZ9 : Hid (Ints w8 ga gl mg) := hIZ
    have l0 := World.block_lt_of_cell? w8 _ r0'
    have l1 := World.block_lt_of_cell? w8 _ s0'
    dsimp only at l0 l1
    obtain ⟨_, ⟨c0, c1, c2, c3, c4, c5⟩, f0, hz, hB⟩ := box26 hL10
    clear r0 r1 s0 s1 hb8 hL9 hL10 hIZ hfz HIX8 HIY8 HIG
    go_wp2_with fail
    generalize hWX : ((((((w8.setCell ⟨w.heap.size + 1, 0, none⟩ (.slice xa xl xc)).setCell ⟨w.heap.size + 1, 1, none⟩ (.int .i64 dx)).setCell ⟨w.heap.size + 1, 2, none⟩ (.slice ya yl yc)).setCell ⟨w.heap.size + 1, 3, none⟩ (.int .i64 dy)).setCell ⟨w.heap.size + 1, 4, none⟩ (.slice ga gl gk)).setCell ⟨w.heap.size + 1, 5, none⟩ (.int .i64 dg)).alloc (.cells #[.slice ga gl gk, .int .i64 dg] 34) = WX
    obtain ⟨x0, x1, x2, x3, x4, x5⟩ := six_set c0 c1 c2 c3 c4 c5 _ _ _ _ _ _ _ WX hWX.symm
    refine bodyPost_ret (v := .tuple #[.agg #[.slice xa xl xc, .int .i64 dx, .slice ya yl yc, .int .i64 dy, .slice ga gl gk, .int .i64 dg], .int .i64 0]) (by simp [results, Tryz.results29, go_sem, x0, x1, x2, x3, x4, x5]) rfl ⟨xa, xl, xc, ya, yl, yc, ga, gl, gk, rfl, ?_, ?_, ?_, hn5.1, by omega, by omega, ?_, ⟨hn5.2, hyn.2, hzn.2⟩, far_up HFX.out (by omega), far_up HFY.out (by omega), far_up HFZ.out (by omega), ?_⟩
    · rw [← hWX]; exact Ints.below (Ints.set6 HIX9.out HFX.out _ _ _ _ _ _) (balloc _ _) (Nat.le_refl _)
    · rw [← hWX]; exact Ints.below (Ints.set6 HIY9.out HFY.out _ _ _ _ _ _) (balloc _ _) (Nat.le_refl _)
    · rw [← hWX]; exact Ints.below (Ints.set6 HIZ9.out HFZ.out _ _ _ _ _ _) (balloc _ _) (Nat.le_refl _)
    · rw [← hWX]; exact bstep (set6 hB (by simp) _ _ _ _ _ _) (balloc _ _)
    · rw [← hWX]; exact Fz.below (Fz.set6 HQ9.out _ _ _ _ _ _ _) (balloc _ _)
  · rename_i hfin
    have hf6 : xl = 0 ∨ ∃ g, xa = some ⟨g, 0, none⟩ ∧ v4.heap.size + 1 ≤ g := far_up hf5 (by have t1 := hk1.size; have t2 := hk2.size; have t4 := hk4.size; simp at t1 t2 t4 ⊢; (try omega))
    have hlo : v3.heap.size ≤ v4.heap.size := by first | exact Nat.le_refl _ | exact hb4.size | exact hb2.size | exact hb1.size
    have hLD : Landed v3 ((v5.setCell ⟨v4.heap.size, 0, none⟩ (.slice xa xl xc)).setCell ⟨v4.heap.size, 1, none⟩ (.int .i64 dx)) v4.heap.size xa xl xc dx mx := landB hb5 hI5 hz2 hlo hf6
    have hfx : xl = 0 ∨ ∃ g, xa = some ⟨g, 0, none⟩ ∧ v3.heap.size ≤ g := far_up hf6 (by omega)
    clear hfin q0 q1 KM KS KP KF hS0 hf6 hlo hz2 hb1 hb2 hb4 hb5 hI1 hI2 hI4 hI5 hk1 hk2 hk4 hk5 hf5
    generalize (v5.setCell ⟨v4.heap.size, 0, none⟩ (.slice xa xl xc)).setCell ⟨v4.heap.size, 1, none⟩ (.int .i64 dx) = W at *
    generalize v4.heap.size = bx at *
    have hL6 := bstep HL5.out hLD.bel
    have HIP6 : Hid (Ints W (some ⟨g3, 0, none⟩) al (Num.priceL p at' al)) := Ints.below HIP.out hLD.bel (Nat.le_refl _)
    obtain ⟨_, p0, p1, hIX, hlo, hhi⟩ := hLD
    have HIX : Hid (Ints W xa xl mx) := hIX
    have HFX : Hid (xl = 0 ∨ ∃ g, xa = some ⟨g, 0, none⟩ ∧ w.heap.size + 1 + 1 ≤ g) := far_up hfx (by have := HL5.out.size; simp at this; omega)
    clear hIX hfx HIP HLC5 HBV hlo
    generalize W.heap.size = dummy at hhi
    clear hhi dummy
    go_wp2_with fail
    refine (point_capz den _ _ _ (Num.priceL p at' al) _ HIP6.out (by omega) my dy zy HY.out).mono ?_
    rintro e w6 ⟨ya, yl, yc, rfl, hIY, hyn, hb6, hfy, hqy⟩
    have HQ7 : Hid (Fz w6 ya) := hqy
    clear hqy
    have hL7 := bstep hL6 hb6
    have p0' := carry hb6 p0
    have p1' := carry hb6 p1
    have HIX7 : Hid (Ints w6 xa xl mx) := Ints.below HIX.out hb6 (Nat.le_refl _)
    have HIP7 : Hid (Ints w6 (some ⟨g3, 0, none⟩) al (Num.priceL p at' al)) := Ints.below HIP6.out hb6 (Nat.le_refl _)
    have HIY7 : Hid (Ints w6 ya yl my) := hIY
    have HFY : Hid (yl = 0 ∨ ∃ g, ya = some ⟨g, 0, none⟩ ∧ w.heap.size + 1 + 1 ≤ g) := far_up hfy (by have := hL6.size; simp at this; omega)
    have hL8 := bstep hL7 (balloc w6 (.cells #[.slice ya yl yc, .int .i64 dy] 34))
    obtain ⟨⟨b0, b1⟩, _, _, hz, hB⟩ := box26 hL7
    have hB8 := bstep hB (balloc w6 (.cells #[.slice ya yl yc, .int .i64 dy] 34))
    have hlt0 : w.heap.size < w6.heap.size := by omega
    clear hIY hfy hb6 p0 p1 HIX HIP6 hL6 hL7 hz hB
    go_wp2_with fail
    refine (gains_any _ _ _ _ _ _ p _ (Ints.below HC.out hB8 (Nat.le_refl _)) (RowsAt.below HR.out hB8 (Nat.le_refl _)) HM.out _ _ (Num.priceL p at' al) (Ints.below HIP7.out (balloc _ _) (Nat.le_refl _)) den N hN (HDB.out h4) (HPB.out h4)).mono ?_
    rintro e w7 ⟨gg, rfl, hgg, hIG, hb7⟩
    have HIG : Hid (Ints w7 (some ⟨gg, 0, none⟩) N (Num.gainL p at' al N)) := by
      have e : Num.gainL p at' al N = (List.range N).map (Num.gainF p (Num.priceL p at' al) den) := by rw [← HDEN.out]; rfl
      rw [e]; exact hIG
    have r0 := carry hb7 (carry (balloc _ _) p0')
    have r1 := carry hb7 (carry (balloc _ _) p1')
    obtain ⟨⟨s0, s1⟩, _⟩ := kept2 hb7
    have HIX8 : Hid (Ints w7 xa xl mx) := Ints.below (Ints.below HIX7.out (balloc _ _) (Nat.le_refl _)) hb7 (Nat.le_refl _)
    have HQ8 : Hid (Fz w7 ya) := Fz.below (Fz.below HQ7.out (balloc _ _)) hb7
    have HIY8 : Hid (Ints w7 ya yl my) := Ints.below (Ints.below HIY7.out (balloc _ _) (Nat.le_refl _)) hb7 (Nat.le_refl _)
    have hL9 := bstep hL8 hb7
    clear hIG hb7 hL8 hB8 p0' p1' b0 b1 HIX7 HIY7 HIP7 hgg
    go_wp2_with fail
    refine (point_cap den _ _ _ (Num.gainL p at' al N) _ HIG.out (by omega) mg dg zg HG.out).mono ?_
    rintro e w8 ⟨ga, gl, gk, rfl, hIZ, hzn, hb8, hfz⟩
    have hL10 := bstep hL9 hb8
    have HFZ : Hid (gl = 0 ∨ ∃ g, ga = some ⟨g, 0, none⟩ ∧ w.heap.size + 1 + 1 ≤ g) := far_up hfz (by have := hL9.size; simp at this; omega)
    have r0' := carry hb8 r0
    have r1' := carry hb8 r1
    have s0' := carry hb8 s0
    have s1' := carry hb8 s1
    have HIX9 : Hid (Ints w8 xa xl mx) := Ints.below HIX8.out hb8 (Nat.le_refl _)
    have HQ9 : Hid (Fz w8 ya) := Fz.below HQ8.out hb8
    have HIY9 : Hid (Ints w8 ya yl my) := Ints.below HIY8.out hb8 (Nat.le_refl _)
    have HIZ9 : Hid (Ints w8 ga gl mg) := hIZ
    have l0 := World.block_lt_of_cell? w8 _ r0'
    have l1 := World.block_lt_of_cell? w8 _ s0'
    dsimp only at l0 l1
    obtain ⟨_, ⟨c0, c1, c2, c3, c4, c5⟩, f0, hz, hB⟩ := box26 hL10
    clear r0 r1 s0 s1 hb8 hL9 hL10 hIZ hfz HIX8 HIY8 HIG
    go_wp2_with fail
    generalize hWX : ((((((w8.setCell ⟨w.heap.size + 1, 0, none⟩ (.slice xa xl xc)).setCell ⟨w.heap.size + 1, 1, none⟩ (.int .i64 dx)).setCell ⟨w.heap.size + 1, 2, none⟩ (.slice ya yl yc)).setCell ⟨w.heap.size + 1, 3, none⟩ (.int .i64 dy)).setCell ⟨w.heap.size + 1, 4, none⟩ (.slice ga gl gk)).setCell ⟨w.heap.size + 1, 5, none⟩ (.int .i64 dg)).alloc (.cells #[.slice ga gl gk, .int .i64 dg] 34) = WX
    obtain ⟨x0, x1, x2, x3, x4, x5⟩ := six_set c0 c1 c2 c3 c4 c5 _ _ _ _ _ _ _ WX hWX.symm
    refine bodyPost_ret (v := .tuple #[.agg #[.slice xa xl xc, .int .i64 dx, .slice ya yl yc, .int .i64 dy, .slice ga gl gk, .int .i64 dg], .int .i64 0]) (by simp [results, Tryz.results29, go_sem, x0, x1, x2, x3, x4, x5]) rfl ⟨xa, xl, xc, ya, yl, yc, ga, gl, gk, rfl, ?_, ?_, ?_, hn5.1, by omega, by omega, ?_, ⟨hn5.2, hyn.2, hzn.2⟩, far_up HFX.out (by omega), far_up HFY.out (by omega), far_up HFZ.out (by omega), ?_⟩
    · rw [← hWX]; exact Ints.below (Ints.set6 HIX9.out HFX.out _ _ _ _ _ _) (balloc _ _) (Nat.le_refl _)
    · rw [← hWX]; exact Ints.below (Ints.set6 HIY9.out HFY.out _ _ _ _ _ _) (balloc _ _) (Nat.le_refl _)
    · rw [← hWX]; exact Ints.below (Ints.set6 HIZ9.out HFZ.out _ _ _ _ _ _) (balloc _ _) (Nat.le_refl _)
    · rw [← hWX]; exact bstep (set6 hB (by simp) _ _ _ _ _ _) (balloc _ _)
    · rw [← hWX]; exact Fz.below (Fz.set6 HQ9.out _ _ _ _ _ _ _) (balloc _ _)
  · rename_i hfin
    have hf6 : xl = 0 ∨ ∃ g, xa = some ⟨g, 0, none⟩ ∧ v2.heap.size + 1 ≤ g := far_up hf5 (by have t1 := hk1.size; have t2 := hk2.size; have t4 := hk4.size; simp at t1 t2 t4 ⊢; (try omega))
    have hlo : v3.heap.size ≤ v2.heap.size := by first | exact Nat.le_refl _ | exact hb4.size | exact hb2.size | exact hb1.size
    have hLD : Landed v3 ((v5.setCell ⟨v2.heap.size, 0, none⟩ (.slice xa xl xc)).setCell ⟨v2.heap.size, 1, none⟩ (.int .i64 dx)) v2.heap.size xa xl xc dx mx := landB hb5 hI5 hz2 hlo hf6
    have hfx : xl = 0 ∨ ∃ g, xa = some ⟨g, 0, none⟩ ∧ v3.heap.size ≤ g := far_up hf6 (by omega)
    clear hfin q0 q1 KM KS KP KF hS0 hf6 hlo hz2 hb1 hb2 hb4 hb5 hI1 hI2 hI4 hI5 hk1 hk2 hk4 hk5 hf5
    generalize (v5.setCell ⟨v2.heap.size, 0, none⟩ (.slice xa xl xc)).setCell ⟨v2.heap.size, 1, none⟩ (.int .i64 dx) = W at *
    generalize v2.heap.size = bx at *
    have hL6 := bstep HL5.out hLD.bel
    have HIP6 : Hid (Ints W (some ⟨g3, 0, none⟩) al (Num.priceL p at' al)) := Ints.below HIP.out hLD.bel (Nat.le_refl _)
    obtain ⟨_, p0, p1, hIX, hlo, hhi⟩ := hLD
    have HIX : Hid (Ints W xa xl mx) := hIX
    have HFX : Hid (xl = 0 ∨ ∃ g, xa = some ⟨g, 0, none⟩ ∧ w.heap.size + 1 + 1 ≤ g) := far_up hfx (by have := HL5.out.size; simp at this; omega)
    clear hIX hfx HIP HLC5 HBV hlo
    generalize W.heap.size = dummy at hhi
    clear hhi dummy
    go_wp2_with fail
    refine (point_capz den _ _ _ (Num.priceL p at' al) _ HIP6.out (by omega) my dy zy HY.out).mono ?_
    rintro e w6 ⟨ya, yl, yc, rfl, hIY, hyn, hb6, hfy, hqy⟩
    have HQ7 : Hid (Fz w6 ya) := hqy
    clear hqy
    have hL7 := bstep hL6 hb6
    have p0' := carry hb6 p0
    have p1' := carry hb6 p1
    have HIX7 : Hid (Ints w6 xa xl mx) := Ints.below HIX.out hb6 (Nat.le_refl _)
    have HIP7 : Hid (Ints w6 (some ⟨g3, 0, none⟩) al (Num.priceL p at' al)) := Ints.below HIP6.out hb6 (Nat.le_refl _)
    have HIY7 : Hid (Ints w6 ya yl my) := hIY
    have HFY : Hid (yl = 0 ∨ ∃ g, ya = some ⟨g, 0, none⟩ ∧ w.heap.size + 1 + 1 ≤ g) := far_up hfy (by have := hL6.size; simp at this; omega)
    have hL8 := bstep hL7 (balloc w6 (.cells #[.slice ya yl yc, .int .i64 dy] 34))
    obtain ⟨⟨b0, b1⟩, _, _, hz, hB⟩ := box26 hL7
    have hB8 := bstep hB (balloc w6 (.cells #[.slice ya yl yc, .int .i64 dy] 34))
    have hlt0 : w.heap.size < w6.heap.size := by omega
    clear hIY hfy hb6 p0 p1 HIX HIP6 hL6 hL7 hz hB
    go_wp2_with fail
    refine (gains_any _ _ _ _ _ _ p _ (Ints.below HC.out hB8 (Nat.le_refl _)) (RowsAt.below HR.out hB8 (Nat.le_refl _)) HM.out _ _ (Num.priceL p at' al) (Ints.below HIP7.out (balloc _ _) (Nat.le_refl _)) den N hN (HDB.out h4) (HPB.out h4)).mono ?_
    rintro e w7 ⟨gg, rfl, hgg, hIG, hb7⟩
    have HIG : Hid (Ints w7 (some ⟨gg, 0, none⟩) N (Num.gainL p at' al N)) := by
      have e : Num.gainL p at' al N = (List.range N).map (Num.gainF p (Num.priceL p at' al) den) := by rw [← HDEN.out]; rfl
      rw [e]; exact hIG
    have r0 := carry hb7 (carry (balloc _ _) p0')
    have r1 := carry hb7 (carry (balloc _ _) p1')
    obtain ⟨⟨s0, s1⟩, _⟩ := kept2 hb7
    have HIX8 : Hid (Ints w7 xa xl mx) := Ints.below (Ints.below HIX7.out (balloc _ _) (Nat.le_refl _)) hb7 (Nat.le_refl _)
    have HQ8 : Hid (Fz w7 ya) := Fz.below (Fz.below HQ7.out (balloc _ _)) hb7
    have HIY8 : Hid (Ints w7 ya yl my) := Ints.below (Ints.below HIY7.out (balloc _ _) (Nat.le_refl _)) hb7 (Nat.le_refl _)
    have hL9 := bstep hL8 hb7
    clear hIG hb7 hL8 hB8 p0' p1' b0 b1 HIX7 HIY7 HIP7 hgg
    go_wp2_with fail
    refine (point_cap den _ _ _ (Num.gainL p at' al N) _ HIG.out (by omega) mg dg zg HG.out).mono ?_
    rintro e w8 ⟨ga, gl, gk, rfl, hIZ, hzn, hb8, hfz⟩
    have hL10 := bstep hL9 hb8
    have HFZ : Hid (gl = 0 ∨ ∃ g, ga = some ⟨g, 0, none⟩ ∧ w.heap.size + 1 + 1 ≤ g) := far_up hfz (by have := hL9.size; simp at this; omega)
    have r0' := carry hb8 r0
    have r1' := carry hb8 r1
    have s0' := carry hb8 s0
    have s1' := carry hb8 s1
    have HIX9 : Hid (Ints w8 xa xl mx) := Ints.below HIX8.out hb8 (Nat.le_refl _)
    have HQ9 : Hid (Fz w8 ya) := Fz.below HQ8.out hb8
    have HIY9 : Hid (Ints w8 ya yl my) := Ints.below HIY8.out hb8 (Nat.le_refl _)
    have HIZ9 : Hid (Ints w8 ga gl mg) := hIZ
    have l0 := World.block_lt_of_cell? w8 _ r0'
    have l1 := World.block_lt_of_cell? w8 _ s0'
    dsimp only at l0 l1
    obtain ⟨_, ⟨c0, c1, c2, c3, c4, c5⟩, f0, hz, hB⟩ := box26 hL10
    clear r0 r1 s0 s1 hb8 hL9 hL10 hIZ hfz HIX8 HIY8 HIG
    go_wp2_with fail
    generalize hWX : ((((((w8.setCell ⟨w.heap.size + 1, 0, none⟩ (.slice xa xl xc)).setCell ⟨w.heap.size + 1, 1, none⟩ (.int .i64 dx)).setCell ⟨w.heap.size + 1, 2, none⟩ (.slice ya yl yc)).setCell ⟨w.heap.size + 1, 3, none⟩ (.int .i64 dy)).setCell ⟨w.heap.size + 1, 4, none⟩ (.slice ga gl gk)).setCell ⟨w.heap.size + 1, 5, none⟩ (.int .i64 dg)).alloc (.cells #[.slice ga gl gk, .int .i64 dg] 34) = WX
    obtain ⟨x0, x1, x2, x3, x4, x5⟩ := six_set c0 c1 c2 c3 c4 c5 _ _ _ _ _ _ _ WX hWX.symm
    refine bodyPost_ret (v := .tuple #[.agg #[.slice xa xl xc, .int .i64 dx, .slice ya yl yc, .int .i64 dy, .slice ga gl gk, .int .i64 dg], .int .i64 0]) (by simp [results, Tryz.results29, go_sem, x0, x1, x2, x3, x4, x5]) rfl ⟨xa, xl, xc, ya, yl, yc, ga, gl, gk, rfl, ?_, ?_, ?_, hn5.1, by omega, by omega, ?_, ⟨hn5.2, hyn.2, hzn.2⟩, far_up HFX.out (by omega), far_up HFY.out (by omega), far_up HFZ.out (by omega), ?_⟩
    · rw [← hWX]; exact Ints.below (Ints.set6 HIX9.out HFX.out _ _ _ _ _ _) (balloc _ _) (Nat.le_refl _)
    · rw [← hWX]; exact Ints.below (Ints.set6 HIY9.out HFY.out _ _ _ _ _ _) (balloc _ _) (Nat.le_refl _)
    · rw [← hWX]; exact Ints.below (Ints.set6 HIZ9.out HFZ.out _ _ _ _ _ _) (balloc _ _) (Nat.le_refl _)
    · rw [← hWX]; exact bstep (set6 hB (by simp) _ _ _ _ _ _) (balloc _ _)
    · rw [← hWX]; exact Fz.below (Fz.set6 HQ9.out _ _ _ _ _ _ _) (balloc _ _)
  · rename_i hfin
    have hf6 : xl = 0 ∨ ∃ g, xa = some ⟨g, 0, none⟩ ∧ v1.heap.size + 1 ≤ g := far_up hf5 (by have t1 := hk1.size; have t2 := hk2.size; have t4 := hk4.size; simp at t1 t2 t4 ⊢; (try omega))
    have hlo : v3.heap.size ≤ v1.heap.size := by first | exact Nat.le_refl _ | exact hb4.size | exact hb2.size | exact hb1.size
    have hLD : Landed v3 ((v5.setCell ⟨v1.heap.size, 0, none⟩ (.slice xa xl xc)).setCell ⟨v1.heap.size, 1, none⟩ (.int .i64 dx)) v1.heap.size xa xl xc dx mx := landB hb5 hI5 hz2 hlo hf6
    have hfx : xl = 0 ∨ ∃ g, xa = some ⟨g, 0, none⟩ ∧ v3.heap.size ≤ g := far_up hf6 (by omega)
    clear hfin q0 q1 KM KS KP KF hS0 hf6 hlo hz2 hb1 hb2 hb4 hb5 hI1 hI2 hI4 hI5 hk1 hk2 hk4 hk5 hf5
    generalize (v5.setCell ⟨v1.heap.size, 0, none⟩ (.slice xa xl xc)).setCell ⟨v1.heap.size, 1, none⟩ (.int .i64 dx) = W at *
    generalize v1.heap.size = bx at *
    have hL6 := bstep HL5.out hLD.bel
    have HIP6 : Hid (Ints W (some ⟨g3, 0, none⟩) al (Num.priceL p at' al)) := Ints.below HIP.out hLD.bel (Nat.le_refl _)
    obtain ⟨_, p0, p1, hIX, hlo, hhi⟩ := hLD
    have HIX : Hid (Ints W xa xl mx) := hIX
    have HFX : Hid (xl = 0 ∨ ∃ g, xa = some ⟨g, 0, none⟩ ∧ w.heap.size + 1 + 1 ≤ g) := far_up hfx (by have := HL5.out.size; simp at this; omega)
    clear hIX hfx HIP HLC5 HBV hlo
    generalize W.heap.size = dummy at hhi
    clear hhi dummy
    go_wp2_with fail
    refine (point_capz den _ _ _ (Num.priceL p at' al) _ HIP6.out (by omega) my dy zy HY.out).mono ?_
    rintro e w6 ⟨ya, yl, yc, rfl, hIY, hyn, hb6, hfy, hqy⟩
    have HQ7 : Hid (Fz w6 ya) := hqy
    clear hqy
    have hL7 := bstep hL6 hb6
    have p0' := carry hb6 p0
    have p1' := carry hb6 p1
    have HIX7 : Hid (Ints w6 xa xl mx) := Ints.below HIX.out hb6 (Nat.le_refl _)
    have HIP7 : Hid (Ints w6 (some ⟨g3, 0, none⟩) al (Num.priceL p at' al)) := Ints.below HIP6.out hb6 (Nat.le_refl _)
    have HIY7 : Hid (Ints w6 ya yl my) := hIY
    have HFY : Hid (yl = 0 ∨ ∃ g, ya = some ⟨g, 0, none⟩ ∧ w.heap.size + 1 + 1 ≤ g) := far_up hfy (by have := hL6.size; simp at this; omega)
    have hL8 := bstep hL7 (balloc w6 (.cells #[.slice ya yl yc, .int .i64 dy] 34))
    obtain ⟨⟨b0, b1⟩, _, _, hz, hB⟩ := box26 hL7
    have hB8 := bstep hB (balloc w6 (.cells #[.slice ya yl yc, .int .i64 dy] 34))
    have hlt0 : w.heap.size < w6.heap.size := by omega
    clear hIY hfy hb6 p0 p1 HIX HIP6 hL6 hL7 hz hB
    go_wp2_with fail
    refine (gains_any _ _ _ _ _ _ p _ (Ints.below HC.out hB8 (Nat.le_refl _)) (RowsAt.below HR.out hB8 (Nat.le_refl _)) HM.out _ _ (Num.priceL p at' al) (Ints.below HIP7.out (balloc _ _) (Nat.le_refl _)) den N hN (HDB.out h4) (HPB.out h4)).mono ?_
    rintro e w7 ⟨gg, rfl, hgg, hIG, hb7⟩
    have HIG : Hid (Ints w7 (some ⟨gg, 0, none⟩) N (Num.gainL p at' al N)) := by
      have e : Num.gainL p at' al N = (List.range N).map (Num.gainF p (Num.priceL p at' al) den) := by rw [← HDEN.out]; rfl
      rw [e]; exact hIG
    have r0 := carry hb7 (carry (balloc _ _) p0')
    have r1 := carry hb7 (carry (balloc _ _) p1')
    obtain ⟨⟨s0, s1⟩, _⟩ := kept2 hb7
    have HIX8 : Hid (Ints w7 xa xl mx) := Ints.below (Ints.below HIX7.out (balloc _ _) (Nat.le_refl _)) hb7 (Nat.le_refl _)
    have HQ8 : Hid (Fz w7 ya) := Fz.below (Fz.below HQ7.out (balloc _ _)) hb7
    have HIY8 : Hid (Ints w7 ya yl my) := Ints.below (Ints.below HIY7.out (balloc _ _) (Nat.le_refl _)) hb7 (Nat.le_refl _)
    have hL9 := bstep hL8 hb7
    clear hIG hb7 hL8 hB8 p0' p1' b0 b1 HIX7 HIY7 HIP7 hgg
    go_wp2_with fail
    refine (point_cap den _ _ _ (Num.gainL p at' al N) _ HIG.out (by omega) mg dg zg HG.out).mono ?_
    rintro e w8 ⟨ga, gl, gk, rfl, hIZ, hzn, hb8, hfz⟩
    have hL10 := bstep hL9 hb8
    have HFZ : Hid (gl = 0 ∨ ∃ g, ga = some ⟨g, 0, none⟩ ∧ w.heap.size + 1 + 1 ≤ g) := far_up hfz (by have := hL9.size; simp at this; omega)
    have r0' := carry hb8 r0
    have r1' := carry hb8 r1
    have s0' := carry hb8 s0
    have s1' := carry hb8 s1
    have HIX9 : Hid (Ints w8 xa xl mx) := Ints.below HIX8.out hb8 (Nat.le_refl _)
    have HQ9 : Hid (Fz w8 ya) := Fz.below HQ8.out hb8
    have HIY9 : Hid (Ints w8 ya yl my) := Ints.below HIY8.out hb8 (Nat.le_refl _)
    have HIZ9 : Hid (Ints w8 ga gl mg) := hIZ
    have l0 := World.block_lt_of_cell? w8 _ r0'
    have l1 := World.block_lt_of_cell? w8 _ s0'
    dsimp only at l0 l1
    obtain ⟨_, ⟨c0, c1, c2, c3, c4, c5⟩, f0, hz, hB⟩ := box26 hL10
    clear r0 r1 s0 s1 hb8 hL9 hL10 hIZ hfz HIX8 HIY8 HIG
    go_wp2_with fail
    generalize hWX : ((((((w8.setCell ⟨w.heap.size + 1, 0, none⟩ (.slice xa xl xc)).setCell ⟨w.heap.size + 1, 1, none⟩ (.int .i64 dx)).setCell ⟨w.heap.size + 1, 2, none⟩ (.slice ya yl yc)).setCell ⟨w.heap.size + 1, 3, none⟩ (.int .i64 dy)).setCell ⟨w.heap.size + 1, 4, none⟩ (.slice ga gl gk)).setCell ⟨w.heap.size + 1, 5, none⟩ (.int .i64 dg)).alloc (.cells #[.slice ga gl gk, .int .i64 dg] 34) = WX
    obtain ⟨x0, x1, x2, x3, x4, x5⟩ := six_set c0 c1 c2 c3 c4 c5 _ _ _ _ _ _ _ WX hWX.symm
    refine bodyPost_ret (v := .tuple #[.agg #[.slice xa xl xc, .int .i64 dx, .slice ya yl yc, .int .i64 dy, .slice ga gl gk, .int .i64 dg], .int .i64 0]) (by simp [results, Tryz.results29, go_sem, x0, x1, x2, x3, x4, x5]) rfl ⟨xa, xl, xc, ya, yl, yc, ga, gl, gk, rfl, ?_, ?_, ?_, hn5.1, by omega, by omega, ?_, ⟨hn5.2, hyn.2, hzn.2⟩, far_up HFX.out (by omega), far_up HFY.out (by omega), far_up HFZ.out (by omega), ?_⟩
    · rw [← hWX]; exact Ints.below (Ints.set6 HIX9.out HFX.out _ _ _ _ _ _) (balloc _ _) (Nat.le_refl _)
    · rw [← hWX]; exact Ints.below (Ints.set6 HIY9.out HFY.out _ _ _ _ _ _) (balloc _ _) (Nat.le_refl _)
    · rw [← hWX]; exact Ints.below (Ints.set6 HIZ9.out HFZ.out _ _ _ _ _ _) (balloc _ _) (Nat.le_refl _)
    · rw [← hWX]; exact bstep (set6 hB (by simp) _ _ _ _ _ _) (balloc _ _)
    · rw [← hWX]; exact Fz.below (Fz.set6 HQ9.out _ _ _ _ _ _ _) (balloc _ _)
  · rename_i hfin
    have hf6 : xl = 0 ∨ ∃ g, xa = some ⟨g, 0, none⟩ ∧ v3.heap.size + 1 ≤ g := far_up hf5 (by have t1 := hk1.size; have t2 := hk2.size; have t4 := hk4.size; simp at t1 t2 t4 ⊢; (try omega))
    have hlo : v3.heap.size ≤ v3.heap.size := by first | exact Nat.le_refl _ | exact hb4.size | exact hb2.size | exact hb1.size
    have hLD : Landed v3 ((v5.setCell ⟨v3.heap.size, 0, none⟩ (.slice xa xl xc)).setCell ⟨v3.heap.size, 1, none⟩ (.int .i64 dx)) v3.heap.size xa xl xc dx mx := landB hb5 hI5 hz2 hlo hf6
    have hfx : xl = 0 ∨ ∃ g, xa = some ⟨g, 0, none⟩ ∧ v3.heap.size ≤ g := far_up hf6 (by omega)
    clear hfin q0 q1 KM KS KP KF hS0 hf6 hlo hz2 hb1 hb2 hb4 hb5 hI1 hI2 hI4 hI5 hk1 hk2 hk4 hk5 hf5
    generalize (v5.setCell ⟨v3.heap.size, 0, none⟩ (.slice xa xl xc)).setCell ⟨v3.heap.size, 1, none⟩ (.int .i64 dx) = W at *
    generalize hbx : v3.heap.size = bx at *
    have hL6 := bstep HL5.out hLD.bel
    have HIP6 : Hid (Ints W (some ⟨g3, 0, none⟩) al (Num.priceL p at' al)) := Ints.below HIP.out hLD.bel (Nat.le_refl _)
    obtain ⟨_, p0, p1, hIX, hlo, hhi⟩ := hLD
    have HIX : Hid (Ints W xa xl mx) := hIX
    have HFX : Hid (xl = 0 ∨ ∃ g, xa = some ⟨g, 0, none⟩ ∧ w.heap.size + 1 + 1 ≤ g) := far_up hfx (by have := HL5.out.size; simp at this; omega)
    clear hIX hfx HIP HLC5 HBV hlo
    generalize W.heap.size = dummy at hhi
    clear hhi dummy
    go_wp2_with fail
    refine (point_capz den _ _ _ (Num.priceL p at' al) _ HIP6.out (by omega) my dy zy HY.out).mono ?_
    rintro e w6 ⟨ya, yl, yc, rfl, hIY, hyn, hb6, hfy, hqy⟩
    have HQ7 : Hid (Fz w6 ya) := hqy
    clear hqy
    have hL7 := bstep hL6 hb6
    have p0' := carry hb6 p0
    have p1' := carry hb6 p1
    have HIX7 : Hid (Ints w6 xa xl mx) := Ints.below HIX.out hb6 (Nat.le_refl _)
    have HIP7 : Hid (Ints w6 (some ⟨g3, 0, none⟩) al (Num.priceL p at' al)) := Ints.below HIP6.out hb6 (Nat.le_refl _)
    have HIY7 : Hid (Ints w6 ya yl my) := hIY
    have HFY : Hid (yl = 0 ∨ ∃ g, ya = some ⟨g, 0, none⟩ ∧ w.heap.size + 1 + 1 ≤ g) := far_up hfy (by have := hL6.size; simp at this; omega)
    have hL8 := bstep hL7 (balloc w6 (.cells #[.slice ya yl yc, .int .i64 dy] 34))
    obtain ⟨⟨b0, b1⟩, _, _, hz, hB⟩ := box26 hL7
    have hB8 := bstep hB (balloc w6 (.cells #[.slice ya yl yc, .int .i64 dy] 34))
    have hlt0 : w.heap.size < w6.heap.size := by omega
    clear hIY hfy hb6 p0 p1 HIX HIP6 hL6 hL7 hz hB
    go_wp2_with fail
    refine (gains_any _ _ _ _ _ _ p _ (Ints.below HC.out hB8 (Nat.le_refl _)) (RowsAt.below HR.out hB8 (Nat.le_refl _)) HM.out _ _ (Num.priceL p at' al) (Ints.below HIP7.out (balloc _ _) (Nat.le_refl _)) den N hN (HDB.out h4) (HPB.out h4)).mono ?_
    rintro e w7 ⟨gg, rfl, hgg, hIG, hb7⟩
    have HIG : Hid (Ints w7 (some ⟨gg, 0, none⟩) N (Num.gainL p at' al N)) := by
      have e : Num.gainL p at' al N = (List.range N).map (Num.gainF p (Num.priceL p at' al) den) := by rw [← HDEN.out]; rfl
      rw [e]; exact hIG
    have r0 := carry hb7 (carry (balloc _ _) p0')
    have r1 := carry hb7 (carry (balloc _ _) p1')
    obtain ⟨⟨s0, s1⟩, _⟩ := kept2 hb7
    have HIX8 : Hid (Ints w7 xa xl mx) := Ints.below (Ints.below HIX7.out (balloc _ _) (Nat.le_refl _)) hb7 (Nat.le_refl _)
    have HQ8 : Hid (Fz w7 ya) := Fz.below (Fz.below HQ7.out (balloc _ _)) hb7
    have HIY8 : Hid (Ints w7 ya yl my) := Ints.below (Ints.below HIY7.out (balloc _ _) (Nat.le_refl _)) hb7 (Nat.le_refl _)
    have hL9 := bstep hL8 hb7
    clear hIG hb7 hL8 hB8 p0' p1' b0 b1 HIX7 HIY7 HIP7 hgg
    go_wp2_with fail
    refine (point_cap den _ _ _ (Num.gainL p at' al N) _ HIG.out (by omega) mg dg zg HG.out).mono ?_
    rintro e w8 ⟨ga, gl, gk, rfl, hIZ, hzn, hb8, hfz⟩
    have hL10 := bstep hL9 hb8
    have HFZ : Hid (gl = 0 ∨ ∃ g, ga = some ⟨g, 0, none⟩ ∧ w.heap.size + 1 + 1 ≤ g) := far_up hfz (by have := hL9.size; simp at this; omega)
    have r0' := carry hb8 r0
    have r1' := carry hb8 r1
    have s0' := carry hb8 s0
    have s1' := carry hb8 s1
    have HIX9 : Hid (Ints w8 xa xl mx) := Ints.below HIX8.out hb8 (Nat.le_refl _)
    have HQ9 : Hid (Fz w8 ya) := Fz.below HQ8.out hb8
    have HIY9 : Hid (Ints w8 ya yl my) := Ints.below HIY8.out hb8 (Nat.le_refl _)
    have HIZ9 : Hid (Ints w8 ga gl mg) := hIZ
    have l0 := World.block_lt_of_cell? w8 _ r0'
    have l1 := World.block_lt_of_cell? w8 _ s0'
    dsimp only at l0 l1
    obtain ⟨_, ⟨c0, c1, c2, c3, c4, c5⟩, f0, hz, hB⟩ := box26 hL10
    clear r0 r1 s0 s1 hb8 hL9 hL10 hIZ hfz HIX8 HIY8 HIG
    go_wp2_with fail
    generalize hWX : ((((((w8.setCell ⟨w.heap.size + 1, 0, none⟩ (.slice xa xl xc)).setCell ⟨w.heap.size + 1, 1, none⟩ (.int .i64 dx)).setCell ⟨w.heap.size + 1, 2, none⟩ (.slice ya yl yc)).setCell ⟨w.heap.size + 1, 3, none⟩ (.int .i64 dy)).setCell ⟨w.heap.size + 1, 4, none⟩ (.slice ga gl gk)).setCell ⟨w.heap.size + 1, 5, none⟩ (.int .i64 dg)).alloc (.cells #[.slice ga gl gk, .int .i64 dg] 34) = WX
    obtain ⟨x0, x1, x2, x3, x4, x5⟩ := six_set c0 c1 c2 c3 c4 c5 _ _ _ _ _ _ _ WX hWX.symm
    refine bodyPost_ret (v := .tuple #[.agg #[.slice xa xl xc, .int .i64 dx, .slice ya yl yc, .int .i64 dy, .slice ga gl gk, .int .i64 dg], .int .i64 0]) (by simp [results, Tryz.results29, go_sem, x0, x1, x2, x3, x4, x5]) rfl ⟨xa, xl, xc, ya, yl, yc, ga, gl, gk, rfl, ?_, ?_, ?_, hn5.1, by omega, by omega, ?_, ⟨hn5.2, hyn.2, hzn.2⟩, far_up HFX.out (by omega), far_up HFY.out (by omega), far_up HFZ.out (by omega), ?_⟩
    · rw [← hWX]; exact Ints.below (Ints.set6 HIX9.out HFX.out _ _ _ _ _ _) (balloc _ _) (Nat.le_refl _)
    · rw [← hWX]; exact Ints.below (Ints.set6 HIY9.out HFY.out _ _ _ _ _ _) (balloc _ _) (Nat.le_refl _)
    · rw [← hWX]; exact Ints.below (Ints.set6 HIZ9.out HFZ.out _ _ _ _ _ _) (balloc _ _) (Nat.le_refl _)
    · rw [← hWX]; exact bstep (set6 hB (by simp) _ _ _ _ _ _) (balloc _ _)
    · rw [← hWX]; exact Fz.below (Fz.set6 HQ9.out _ _ _ _ _ _ _) (balloc _ _)

end Go.Proofs.YtipcbhodlgoflabGreat

/- What corner.Look does, in one contract. -/
namespace Go.Proofs.YtipcbhodlgoflabGreat
open Go.RowKit

theorem Ints.empty (w : World) : Ints w none 0 [] := ⟨rfl, Or.inl rfl⟩

theorem look_new (ca : Option Addr) (cl cc : Nat) (ra : Option Addr) (rl rc : Nat) (p : Num.Lp) (w : World) (hc : Ints w ca cl p.costs) (hcl : cl ≤ 9223372036854775807) (hr : RowsAt w ra rl p.rows) (hrl : rl ≤ 9223372036854775807)
    (aa : Option Addr) (al ac : Nat) (at' : List Int) (ha : Ints w aa al at') (hal : al ≤ 9223372036854775807) :
    Calls Tryz.prog 29 #[.agg #[.slice ca cl cc, .slice ra rl rc], .slice aa al ac] w fun e w' => ∃ xa xl xc ya yl yc ga gl gc, e = .returned (.tuple #[.agg #[.slice xa xl xc, .int .i64 (Num.look p at').xd, .slice ya yl yc, .int .i64 (Num.look p at').yd, .slice ga gl gc, .int .i64 (Num.look p at').gd], .int .i64 (Num.look p at').err]) ∧
      Ints w' xa xl (Num.look p at').x ∧ Ints w' ya yl (Num.look p at').y ∧ Ints w' ga gl (Num.look p at').g ∧ xl ≤ 8 ∧ yl ≤ 8 ∧ gl ≤ 8 ∧ Below w.heap.size w w' ∧ (xl ≤ xc ∧ yl ≤ yc ∧ gl ≤ gc) ∧ Newly w.heap.size w' xa xl ya yl ga gl := by
  cases hm : p.may with
  | false =>
    have e0 : Num.look p at' = Num.noLook 2 := by unfold Num.look; rw [if_pos hm]
    rw [e0]
    refine (look_form ca cl cc ra rl rc p w hc hcl hr hrl aa al ac at' ha hal hm).mono fun e w' ⟨he, hb⟩ => ?_
    exact ⟨none, 0, 0, none, 0, 0, none, 0, 0, he, Ints.empty _, Ints.empty _, Ints.empty _, by omega, by omega, by omega, hb, by omega, Newly.nil _ _⟩
  | true =>
    have hN8 : cl + rl ≤ 8 := by have := hc.1; have := hr.1; have := (p.may_of hm).1.2; have := (p.may_of hm).2.2.1.2; omega
    have e1 : rl = p.rows.length := hr.1
    have e2 : cl = p.costs.length := hc.1
    cases hri : Num.rightB at' rl (cl + rl) with
    | false =>
      have e0 : Num.look p at' = Num.noLook 3 := by unfold Num.look; rw [if_neg (by simp [hm]), if_pos (by rw [← e1, ← e2]; exact hri)]
      rw [e0]
      refine (look_range ca cl cc ra rl rc p w hc hcl hr hrl aa al ac at' ha hal hm (cl + rl) rfl hN8 hri).mono fun e w' ⟨he, hb⟩ => ?_
      exact ⟨none, 0, 0, none, 0, 0, none, 0, 0, he, Ints.empty _, Ints.empty _, Ints.empty _, by omega, by omega, by omega, hb, by omega, Newly.nil _ _⟩
    | true =>
      by_cases hd : Num.denL p at' rl = 0
      · have e0 : Num.look p at' = Num.noLook 4 := by unfold Num.look; rw [if_neg (by simp [hm]), if_neg (by rw [← e1, ← e2, hri]; decide), if_pos (by rw [← e1]; exact hd)]
        rw [e0]
        refine (look_none ca cl cc ra rl rc p w hc hcl hr hrl aa al ac at' ha hal hm (cl + rl) rfl hN8 hri hd).mono fun e w' ⟨he, hb⟩ => ?_
        exact ⟨none, 0, 0, none, 0, 0, none, 0, 0, he, Ints.empty _, Ints.empty _, Ints.empty _, by omega, by omega, by omega, hb, by omega, Newly.nil _ _⟩
      · have e0 : Num.look p at' = ⟨0, (Num.pt (Num.xL p at' rl (cl + rl)) (Num.denL p at' rl)).1, (Num.pt (Num.xL p at' rl (cl + rl)) (Num.denL p at' rl)).2.1, (Num.pt (Num.priceL p at' rl) (Num.denL p at' rl)).1, (Num.pt (Num.priceL p at' rl) (Num.denL p at' rl)).2.1,
            (Num.pt (Num.gainL p at' rl (cl + rl)) (Num.denL p at' rl)).1, (Num.pt (Num.gainL p at' rl (cl + rl)) (Num.denL p at' rl)).2.1⟩ := by
          unfold Num.look; rw [if_neg (by simp [hm]), if_neg (by rw [← e1, ← e2, hri]; decide), if_neg (by rw [← e1]; exact hd), ← e1, ← e2]
        rw [e0]
        exact look_ok ca cl cc ra rl rc p w hc hcl hr hrl aa al ac at' ha hal hm (cl + rl) rfl hN8 hri (by simpa using hd) _ _ _ _ _ _ (Num.pt (Num.xL p at' rl (cl + rl)) (Num.denL p at' rl)).2.2 (Num.pt (Num.priceL p at' rl) (Num.denL p at' rl)).2.2 (Num.pt (Num.gainL p at' rl (cl + rl)) (Num.denL p at' rl)).2.2 rfl rfl rfl

theorem look_cap (ca : Option Addr) (cl cc : Nat) (ra : Option Addr) (rl rc : Nat) (p : Num.Lp) (w : World) (hc : Ints w ca cl p.costs) (hcl : cl ≤ 9223372036854775807) (hr : RowsAt w ra rl p.rows) (hrl : rl ≤ 9223372036854775807)
    (aa : Option Addr) (al ac : Nat) (at' : List Int) (ha : Ints w aa al at') (hal : al ≤ 9223372036854775807) :
    Calls Tryz.prog 29 #[.agg #[.slice ca cl cc, .slice ra rl rc], .slice aa al ac] w fun e w' => ∃ xa xl xc ya yl yc ga gl gc, e = .returned (.tuple #[.agg #[.slice xa xl xc, .int .i64 (Num.look p at').xd, .slice ya yl yc, .int .i64 (Num.look p at').yd, .slice ga gl gc, .int .i64 (Num.look p at').gd], .int .i64 (Num.look p at').err]) ∧
      Ints w' xa xl (Num.look p at').x ∧ Ints w' ya yl (Num.look p at').y ∧ Ints w' ga gl (Num.look p at').g ∧ xl ≤ 8 ∧ yl ≤ 8 ∧ gl ≤ 8 ∧ Below w.heap.size w w' ∧ (xl ≤ xc ∧ yl ≤ yc ∧ gl ≤ gc) :=
  (look_new ca cl cc ra rl rc p w hc hcl hr hrl aa al ac at' ha hal).mono fun _ _ ⟨xa, xl, xc, ya, yl, yc, ga, gl, gc, h1, h2, h3, h4, h5, h6, h7, h8, h9, _⟩ => ⟨xa, xl, xc, ya, yl, yc, ga, gl, gc, h1, h2, h3, h4, h5, h6, h7, h8, h9⟩

theorem look_any (ca : Option Addr) (cl cc : Nat) (ra : Option Addr) (rl rc : Nat) (p : Num.Lp) (w : World) (hc : Ints w ca cl p.costs) (hcl : cl ≤ 9223372036854775807) (hr : RowsAt w ra rl p.rows) (hrl : rl ≤ 9223372036854775807)
    (aa : Option Addr) (al ac : Nat) (at' : List Int) (ha : Ints w aa al at') (hal : al ≤ 9223372036854775807) :
    Calls Tryz.prog 29 #[.agg #[.slice ca cl cc, .slice ra rl rc], .slice aa al ac] w fun e w' => ∃ xa xl xc ya yl yc ga gl gc, e = .returned (.tuple #[.agg #[.slice xa xl xc, .int .i64 (Num.look p at').xd, .slice ya yl yc, .int .i64 (Num.look p at').yd, .slice ga gl gc, .int .i64 (Num.look p at').gd], .int .i64 (Num.look p at').err]) ∧
      Ints w' xa xl (Num.look p at').x ∧ Ints w' ya yl (Num.look p at').y ∧ Ints w' ga gl (Num.look p at').g ∧ xl ≤ 8 ∧ yl ≤ 8 ∧ gl ≤ 8 ∧ Below w.heap.size w w' :=
  (look_cap ca cl cc ra rl rc p w hc hcl hr hrl aa al ac at' ha hal).mono fun _ _ ⟨xa, xl, xc, ya, yl, yc, ga, gl, gc, h1, h2, h3, h4, h5, h6, h7, h8, _⟩ => ⟨xa, xl, xc, ya, yl, yc, ga, gl, gc, h1, h2, h3, h4, h5, h6, h7, h8⟩

theorem Num.look_form (p : Num.Lp) (at' : List Int) (hm : p.may = false) : Num.look p at' = Num.noLook 2 := by unfold Num.look; rw [if_pos hm]
theorem Num.look_range (p : Num.Lp) (at' : List Int) (hm : p.may = true) (hr : Num.rightB at' p.rows.length (p.costs.length + p.rows.length) = false) : Num.look p at' = Num.noLook 3 := by unfold Num.look; rw [if_neg (by simp [hm]), if_pos hr]
theorem Num.look_none (p : Num.Lp) (at' : List Int) (hm : p.may = true) (hr : Num.rightB at' p.rows.length (p.costs.length + p.rows.length) = true) (hd : Num.denL p at' p.rows.length = 0) : Num.look p at' = Num.noLook 4 := by
  unfold Num.look; rw [if_neg (by simp [hm]), if_neg (by simp [hr]), if_pos hd]
theorem Num.look_some (p : Num.Lp) (at' : List Int) (hm : p.may = true) (hr : Num.rightB at' p.rows.length (p.costs.length + p.rows.length) = true) (hd : Num.denL p at' p.rows.length ≠ 0) (m N : Nat) (hM : m = p.rows.length) (hN : N = p.costs.length + p.rows.length) :
    Num.look p at' = ⟨0, (Num.pt (Num.xL p at' m N) (Num.denL p at' m)).1, (Num.pt (Num.xL p at' m N) (Num.denL p at' m)).2.1, (Num.pt (Num.priceL p at' m) (Num.denL p at' m)).1, (Num.pt (Num.priceL p at' m) (Num.denL p at' m)).2.1,
            (Num.pt (Num.gainL p at' m N) (Num.denL p at' m)).1, (Num.pt (Num.gainL p at' m N) (Num.denL p at' m)).2.1⟩ := by
  subst hM hN
  unfold Num.look; rw [if_neg (by simp [hm]), if_neg (by simp [hr]), if_neg hd]

end Go.Proofs.YtipcbhodlgoflabGreat
