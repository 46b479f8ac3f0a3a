/- What a region that draws its order, with calls and with a store of a result of two cells, keeps. -/
import Derived.Test.YtipcbhodlgoflabGreatBaseA
import Derived.Deep.RegionHeld3
import Derived.Lib.SmallJoins
namespace Go.Proofs.YtipcbhodlgoflabGreat
open Go.RowKit

/-- Below B all is as it was; block r, from B on, has two cells. -/
structure Held (B : Nat) (V : World) (r : Nat) (w : World) : Prop where
  bel : Below B V w
  two : ∃ a b t, w.heap[r]? = some (.cells #[a, b] t (0, 0))

theorem heap_new {w : World} {k : Nat} (hk : k = w.heap.size) (o : Obj) : (w.alloc o).heap[k]? = some o := by
  subst hk; show (w.heap.push o)[w.heap.size]? = some o; simp

/-- What a cell holds is there behind a callee that writes nothing that was there. -/
theorem carry {w w' : World} (k : Below w.heap.size w w') {p : Addr} {v : Value} (h : w.cell? p = some v) : w'.cell? p = some v := by
  rw [k.cell (World.block_lt_of_cell? w p h)]; exact h

theorem carryF {w w' : World} (k : Below w.heap.size w w') {p : Addr} {v : Value} (h : w.cell? p = some v) (hf : w.frozen? p = false) : w'.frozen? p = false := by
  rw [k.frozen (World.block_lt_of_cell? w p h)]; exact hf

/-- Two cells that were laid just ahead of a callee. -/
theorem kept2 {w w' : World} {a b : Value} {t : TypeId} (k : Below (w.alloc (.cells #[a, b] t)).heap.size (w.alloc (.cells #[a, b] t)) w') :
    (w'.cell? ⟨w.heap.size, 0, none⟩ = some a ∧ w'.cell? ⟨w.heap.size, 1, none⟩ = some b) ∧ (w'.frozen? ⟨w.heap.size, 0, none⟩ = false ∧ w'.frozen? ⟨w.heap.size, 1, none⟩ = false) :=
  ⟨⟨carry k (cell_new2 rfl a b t).1, carry k (cell_new2 rfl a b t).2⟩, carryF k (cell_new2 rfl a b t).1 (by go_simp), carryF k (cell_new2 rfl a b t).2 (by go_simp)⟩

theorem kept2d {w w' : World} {a b : Value} {t : TypeId} (k : Below (w.alloc (.cells #[a, b] t)).drew.heap.size (w.alloc (.cells #[a, b] t)).drew w') :
    (w'.cell? ⟨w.heap.size, 0, none⟩ = some a ∧ w'.cell? ⟨w.heap.size, 1, none⟩ = some b) ∧ (w'.frozen? ⟨w.heap.size, 0, none⟩ = false ∧ w'.frozen? ⟨w.heap.size, 1, none⟩ = false) :=
  kept2 (((Below.refl _ _).drew).trans k)

theorem carry2 {w w' : World} (k : Below w.heap.size w w') {p q : Addr} {a b : Value} (h : (w.cell? p = some a ∧ w.cell? q = some b) ∧ (w.frozen? p = false ∧ w.frozen? q = false)) :
    (w'.cell? p = some a ∧ w'.cell? q = some b) ∧ (w'.frozen? p = false ∧ w'.frozen? q = false) :=
  ⟨⟨carry k h.1.1, carry k h.1.2⟩, carryF k h.1.1 h.2.1, carryF k h.1.2 h.2.2⟩

theorem Held.drew {B : Nat} {V : World} {r : Nat} {w : World} (h : Held B V r w) : Held B V r w.drew := ⟨h.bel.drew, h.two⟩

theorem Held.step {B : Nat} {V : World} {r : Nat} {w w' : World} (h : Held B V r w) (k : Below w.heap.size w w') (hB : B ≤ w.heap.size) : Held B V r w' := by
  refine ⟨h.bel.trans (k.mono hB), ?_⟩
  obtain ⟨a, b, t, e⟩ := h.two
  have hr : r < w.heap.size := by
    rcases Nat.lt_or_ge r w.heap.size with h | h
    · exact h
    · rw [Array.getElem?_eq_none h] at e; cases e
  exact ⟨a, b, t, by rw [k.block r hr]; exact e⟩

theorem Held.set {B : Nat} {V : World} {r : Nat} {w : World} (h : Held B V r w) (hB : B ≤ r) (i : Nat) (u : Value) (hi : i < 2) : Held B V r (w.setCell ⟨r, i, none⟩ u) := by
  refine ⟨h.bel.setCell hB _, ?_⟩
  obtain ⟨a, b, t, e⟩ := h.two
  match i, hi with
  | 0, _ => exact ⟨u, b, t, by simpa using Joins.block_setCell (i := 0) e u⟩
  | 1, _ => exact ⟨a, u, t, by simpa using Joins.block_setCell (i := 1) e u⟩

theorem Held.cells {B : Nat} {V : World} {r : Nat} : ∃ F G : World → Value, (∀ w, Held B V r w → w.cell? ⟨r, 0, none⟩ = some (F w)) ∧ (∀ w, Held B V r w → w.cell? ⟨r, 1, none⟩ = some (G w)) ∧
    (∀ w, Held B V r w → w.frozen? ⟨r, 0, none⟩ = false) ∧ (∀ w, Held B V r w → w.frozen? ⟨r, 1, none⟩ = false) := by
  refine ⟨fun w => (w.cell? ⟨r, 0, none⟩).getD undef, fun w => (w.cell? ⟨r, 1, none⟩).getD undef, ?_, ?_, ?_, ?_⟩
  · intro w h; obtain ⟨a, b, t, e⟩ := h.two; show w.cell? ⟨r, 0, none⟩ = some ((w.cell? ⟨r, 0, none⟩).getD undef); rw [Joins.cell_of_block e]; simp
  · intro w h; obtain ⟨a, b, t, e⟩ := h.two; show w.cell? ⟨r, 1, none⟩ = some ((w.cell? ⟨r, 1, none⟩).getD undef); rw [Joins.cell_of_block e]; simp
  · intro w h; obtain ⟨a, b, t, e⟩ := h.two; exact Joins.unfrozen_of_block e 0
  · intro w h; obtain ⟨a, b, t, e⟩ := h.two; exact Joins.unfrozen_of_block e 1

end Go.Proofs.YtipcbhodlgoflabGreat

/- Stores into one cell, and what the others hold. -/
namespace Go.Proofs.YtipcbhodlgoflabGreat
open Go.RowKit

theorem cell_set_ne {v : World} {b i j : Nat} {u : Value} (h : i ≠ j) : (v.setCell ⟨b, j, none⟩ u).cell? ⟨b, i, none⟩ = v.cell? ⟨b, i, none⟩ := World.cell?_setCell_other _ _ _ _ (fun e => h (by injection e with _ e2; exact e2.symm))
theorem cell_set_eq {v : World} {b j : Nat} {u a : Value} (h : v.cell? ⟨b, j, none⟩ = some a) : (v.setCell ⟨b, j, none⟩ u).cell? ⟨b, j, none⟩ = some u := World.cell?_setCell_same' _ _ _ (by rw [h]; rfl)

end Go.Proofs.YtipcbhodlgoflabGreat

/- What frac.MayPoint, layout.fits, layout.Goes and layout.Worth do. -/
namespace Go.Proofs.YtipcbhodlgoflabGreat
open Go.RowKit

/-- Two boxes of two cells each, in every later world. -/
theorem box2 {w w1 : World} {a b c d : Value} {t u : TypeId} (hb : Below ((w.alloc (.cells #[a, b] t)).alloc (.cells #[c, d] u)).heap.size ((w.alloc (.cells #[a, b] t)).alloc (.cells #[c, d] u)) w1) :
    (w1.cell? ⟨w.heap.size, 0, none⟩ = some a ∧ w1.cell? ⟨w.heap.size, 1, none⟩ = some b) ∧ (w1.cell? ⟨w.heap.size + 1, 0, none⟩ = some c ∧ w1.cell? ⟨w.heap.size + 1, 1, none⟩ = some d) ∧ w.heap.size + 1 < w1.heap.size ∧ Below w.heap.size w w1 := by
  refine ⟨⟨?_, ?_⟩, ⟨?_, ?_⟩, ?_, ?_⟩
  · rw [hb.cell (by simp; omega)]; go_simp
  · rw [hb.cell (by simp; omega)]; go_simp
  · rw [hb.cell (by simp)]; go_simp
  · rw [hb.cell (by simp)]; go_simp
  · have := hb.size; simp at this; omega
  · exact (((Below.refl _ _).alloc (Nat.le_refl _) _).alloc (by simp) _).trans (hb.mono (by simp; omega))

theorem box2_refl (w : World) (a b c d : Value) (t u : TypeId) : Below ((w.alloc (.cells #[a, b] t)).alloc (.cells #[c, d] u)).heap.size ((w.alloc (.cells #[a, b] t)).alloc (.cells #[c, d] u)) ((w.alloc (.cells #[a, b] t)).alloc (.cells #[c, d] u)) := Below.refl _ _

theorem bstep {V w1 w2 : World} (h : Below V.heap.size V w1) (k : Below w1.heap.size w1 w2) : Below V.heap.size V w2 := h.trans (k.mono h.size)

set_option maxHeartbeats 400000 in
theorem fmayPoint_any (d : Int) (a : Option Addr) (len cap : Nat) (l : List Int) (w : World) (hi : Ints w a len l) (hlen : len ≤ 9223372036854775807) :
    Calls Tryz.prog 89 #[.agg #[.slice a len cap, .int .i64 d]] w fun e w' => e = .returned (.bool (Num.mayPB d l)) ∧ Below w.heap.size w w' := by
  have HI : Hid (Ints w a len l) := hi
  have HL : Hid (len = l.length) := hi.1
  clear hi
  by_cases h : (len : Int) ≤ 8
  · have HF : Hid (Num.mayPB d l = Num.mayB d l) := by
      have : l.length ≤ 8 := by have := HL.out; omega
      show Num.mayPB d l = _
      unfold Num.mayPB; simp [this]
    go_enter Tryz.func89, Tryz.ntmps89
    go_wp2_with fail
    refine (mayParts_any d _ _ _ l _ (Ints.below HI.out (balloc _ _) (Nat.le_refl _)) (by omega)).mono ?_
    rintro e w' ⟨rfl, hb⟩
    go_wp2_with fail
    go_ret
    exact ⟨ret_bool HF.out.symm, binto hb⟩
  · have HF : Hid (Num.mayPB d l = false) := by
      have : ¬ l.length ≤ 8 := by have := HL.out; omega
      show Num.mayPB d l = _
      unfold Num.mayPB; simp [this]
    have h' : decide ((len : Int) ≤ 8) = false := by simpa using h
    go_enter Tryz.func89, Tryz.ntmps89
    go_wp2_with fail
    go_ret
    exact ⟨ret_bool HF.out.symm, balloc _ _⟩

set_option maxHeartbeats 400000 in
theorem fits_any (ca : Option Addr) (cl cc : Nat) (ra : Option Addr) (rl rc : Nat) (p : Num.Lp) (w : World) (hc : Ints w ca cl p.costs) (hcl : cl ≤ 9223372036854775807) (hr : RowsAt w ra rl p.rows) (hrl : rl ≤ 9223372036854775807)
    (xa : Option Addr) (xl xc : Nat) (x : List Int) (d : Int) (hx : Ints w xa xl x) (hxl : xl ≤ 9223372036854775807) :
    Calls Tryz.prog 60 #[.agg #[.slice ca cl cc, .slice ra rl rc], .agg #[.slice xa xl xc, .int .i64 d]] w fun e w' => e = .returned (.bool (p.fits x d)) ∧ Below w.heap.size w w' := by
  have HC : Hid (Ints w ca cl p.costs) := hc
  have HR : Hid (RowsAt w ra rl p.rows) := hr
  have HX : Hid (Ints w xa xl x) := hx
  have HCL : Hid (cl = p.costs.length) := hc.1
  have HXL : Hid (xl = x.length) := hx.1
  clear hc hr hx
  have HV := box2 (box2_refl w (.slice ca cl cc) (.slice ra rl rc) (.slice xa xl xc) (.int .i64 d) 25 34)
  have HB : Hid _ := HV.2.2.2
  clear HV
  cases h1 : p.may with
  | false =>
    have HF : Hid (p.fits x d = false) := by show p.fits x d = _; unfold Num.Lp.fits; rw [h1]; rfl
    go_enter Tryz.func60, Tryz.ntmps60
    go_wp2_with fail
    refine (lmay_any _ _ _ _ _ _ p _ (Ints.below HC.out HB.out (Nat.le_refl _)) hcl (RowsAt.below HR.out HB.out (Nat.le_refl _)) hrl).mono ?_
    rintro e w1 ⟨rfl, hb1⟩
    rw [h1]
    go_wp2_with fail
    go_ret
    exact ⟨ret_bool HF.out.symm, (box2 hb1).2.2.2⟩
  | true =>
    by_cases h2 : xl = cl
    · have HF : Hid (p.fits x d = Num.mayPB d x) := by
        have : x.length = p.costs.length := by have := HCL.out; have := HXL.out; omega
        show p.fits x d = _; unfold Num.Lp.fits; rw [h1, this]; simp
      subst h2
      go_enter Tryz.func60, Tryz.ntmps60
      go_wp2_with fail
      refine (lmay_any _ _ _ _ _ _ p _ (Ints.below HC.out HB.out (Nat.le_refl _)) hcl (RowsAt.below HR.out HB.out (Nat.le_refl _)) hrl).mono ?_
      rintro e w1 ⟨rfl, hb1⟩
      rw [h1]
      obtain ⟨⟨c0, c1⟩, ⟨c2, c3⟩, hz, hB⟩ := box2 hb1
      go_wp2_with fail
      refine (fmayPoint_any d _ _ _ x _ (Ints.below HX.out hB (Nat.le_refl _)) hxl).mono ?_
      rintro e w2 ⟨rfl, hb2⟩
      go_wp2_with fail
      go_ret
      exact ⟨ret_bool HF.out.symm, bstep hB hb2⟩
    · have HF : Hid (p.fits x d = false) := by
        have : (x.length == p.costs.length) = false := by have := HCL.out; have := HXL.out; simp; omega
        show p.fits x d = _; unfold Num.Lp.fits; rw [h1, this]; simp
      have h2' : ((xl : Int) == (cl : Int)) = false := by simp; omega
      go_enter Tryz.func60, Tryz.ntmps60
      go_wp2_with fail
      refine (lmay_any _ _ _ _ _ _ p _ (Ints.below HC.out HB.out (Nat.le_refl _)) hcl (RowsAt.below HR.out HB.out (Nat.le_refl _)) hrl).mono ?_
      rintro e w1 ⟨rfl, hb1⟩
      rw [h1]
      obtain ⟨⟨c0, c1⟩, ⟨c2, c3⟩, hz, hB⟩ := box2 hb1
      go_wp2_with fail
      go_ret
      exact ⟨ret_bool HF.out.symm, hB⟩

end Go.Proofs.YtipcbhodlgoflabGreat

/- What layout.Goes and layout.Worth do. -/
namespace Go.Proofs.YtipcbhodlgoflabGreat
open Go.RowKit

theorem below_of_drew {P : Program} {f : FuncId} {args : Array Value} {w : World} {v : Value} (h : Calls P f args w fun e w' => e = .returned v ∧ ∃ n, w' = w.drewN n) : Calls P f args w fun e w' => e = .returned v ∧ Below w.heap.size w w' :=
  h.mono fun _ w' ⟨he, n, hn⟩ => ⟨he, by rw [hn]; exact bdrewN (Below.refl _ _) n⟩

set_option maxHeartbeats 800000 in
theorem goes_any (ca : Option Addr) (cl cc : Nat) (ra : Option Addr) (rl rc : Nat) (p : Num.Lp) (w : World) (hc : Ints w ca cl p.costs) (hcl : cl ≤ 9223372036854775807) (hr : RowsAt w ra rl p.rows) (hrl : rl ≤ 9223372036854775807)
    (xa : Option Addr) (xl xc : Nat) (x : List Int) (d : Int) (hx : Ints w xa xl x) (hxl : xl ≤ 9223372036854775807) :
    Calls Tryz.prog 91 #[.agg #[.slice ca cl cc, .slice ra rl rc], .agg #[.slice xa xl xc, .int .i64 d]] w fun e w' => e = .returned (.bool (p.goes x d)) ∧ Below w.heap.size w w' := by
  have HC : Hid (Ints w ca cl p.costs) := hc
  have HR : Hid (RowsAt w ra rl p.rows) := hr
  have HX : Hid (Ints w xa xl x) := hx
  have HCL : Hid (cl = p.costs.length) := hc.1
  have HRL : Hid (rl = p.rows.length) := hr.1
  have HXL : Hid (xl = x.length) := hx.1
  clear hc hr hx
  have HV := box2 (box2_refl w (.slice ca cl cc) (.slice ra rl rc) (.slice xa xl xc) (.int .i64 d) 25 34)
  have HB : Hid _ := HV.2.2.2
  clear HV
  cases h1 : p.fits x d with
  | false =>
    have HF : Hid (p.goes x d = false) := p.goes_no x d h1
    go_enter Tryz.func91, Tryz.ntmps91
    go_wp2_with fail
    refine (fits_any _ _ _ _ _ _ p _ (Ints.below HC.out HB.out (Nat.le_refl _)) hcl (RowsAt.below HR.out HB.out (Nat.le_refl _)) hrl _ _ _ x d (Ints.below HX.out HB.out (Nat.le_refl _)) hxl).mono ?_
    rintro e w1 ⟨rfl, hb1⟩
    rw [h1]
    go_wp2_with fail
    go_ret
    exact ⟨ret_bool HF.out.symm, (box2 hb1).2.2.2⟩
  | true =>
    cases h2 : Num.anyNeg x with
    | true =>
      have HF : Hid (p.goes x d = false) := p.goes_neg x d h2
      go_enter Tryz.func91, Tryz.ntmps91
      go_wp2_with fail
      refine (fits_any _ _ _ _ _ _ p _ (Ints.below HC.out HB.out (Nat.le_refl _)) hcl (RowsAt.below HR.out HB.out (Nat.le_refl _)) hrl _ _ _ x d (Ints.below HX.out HB.out (Nat.le_refl _)) hxl).mono ?_
      rintro e w1 ⟨rfl, hb1⟩
      rw [h1]
      obtain ⟨⟨c0, c1⟩, ⟨c2, c3⟩, hz, hB⟩ := box2 hb1
      go_wp2_with fail
      refine (below_any _ _ _ x _ (Ints.below HX.out hB (Nat.le_refl _)) hxl).mono ?_
      rintro e w2 ⟨rfl, rfl⟩
      rw [h2]
      go_wp2_with fail
      go_ret
      exact ⟨ret_bool HF.out.symm, hB⟩
    | false =>
      have HF : Hid (p.goes x d = p.rows.all (Num.rowGoes x d)) := p.goes_rows x d h1 h2
      obtain ⟨hm, hxc, hd, hw⟩ := p.fits_of x d h1
      have hc4 := (p.may_of hm).1
      have HM : Hid (p.may = true) := hm
      have HW : Hid (∀ j : Nat, -1073741824 ≤ x[j]?.getD 0 ∧ x[j]?.getD 0 ≤ 1073741824) := Num.withinB_iff _ _ hw (by omega)
      have hxe : xl = cl := by have := HCL.out; have := HXL.out; omega
      have hc5 : cl ≤ 4 := by have := HCL.out; omega
      have HXC : Hid _ := hxc
      clear hm hw hc4 hxc
      subst hxe
      go_enter Tryz.func91, Tryz.ntmps91
      go_wp2_with fail
      refine (fits_any _ _ _ _ _ _ p _ (Ints.below HC.out HB.out (Nat.le_refl _)) hcl (RowsAt.below HR.out HB.out (Nat.le_refl _)) hrl _ _ _ x d (Ints.below HX.out HB.out (Nat.le_refl _)) hxl).mono ?_
      rintro e w1 ⟨rfl, hb1⟩
      rw [h1]
      obtain ⟨⟨c0, c1⟩, ⟨c2, c3⟩, hz, hB⟩ := box2 hb1
      go_wp2_with fail
      refine (below_any _ _ _ x _ (Ints.below HX.out hB (Nat.le_refl _)) hxl).mono ?_
      rintro e w2 ⟨rfl, rfl⟩
      rw [h2]
      go_wp2_with fail
      clear c0 c1 c2 c3 hz
      go_loopw [19] (fun i wr => ∃ k : Nat, k ≤ rl ∧ i = .int .i64 k ∧ (p.rows.take k).all (Num.rowGoes x d) = true ∧ Below ((w.alloc (.cells #[.slice ca xl cc, .slice ra rl rc] 25)).alloc (.cells #[.slice xa xl xc, .int .i64 d] 34)).heap.size ((w.alloc (.cells #[.slice ca xl cc, .slice ra rl rc] 25)).alloc (.cells #[.slice xa xl xc, .int .i64 d] 34)) wr) (fun i _ => rl - (intOf i).toNat)
      case atStart => exact ⟨0, Nat.zero_le _, rfl, rfl, hb1⟩
      case round =>
        obtain ⟨k, hk, rfl, hw, hbl⟩ := hrel
        have HAL : Hid _ := hw
        clear hw
        by_cases hlt : k < rl
        · obtain ⟨⟨c0, c1⟩, ⟨c2, c3⟩, hz, hB2⟩ := box2 hbl
          rcases (RowsAt.below HR.out hB2 (Nat.le_refl _)).2 with h | ⟨b, off, ha, hbs, hc⟩
          · omega
          obtain ⟨ya, yl, yc, d0, d1, hy, hyl⟩ := hc k hlt
          clear hc
          have hrow := p.row_of HM.out k (by have := HRL.out; omega)
          have HS : Hid ((p.rows.take (k + 1)).all (Num.rowGoes x d) = ((p.rows.take k).all (Num.rowGoes x d) && Num.rowGoes x d (p.rows[k]?.getD ([], 0)))) := Num.all_take_succ (Num.rowGoes x d) p.rows k (by have := HRL.out; omega) ([], 0)
          have HN : Hid (Num.rowGoes x d (p.rows[k]?.getD ([], 0)) = false → p.rows.all (Num.rowGoes x d) = false) := Num.all_false_of (Num.rowGoes x d) p.rows k (by have := HRL.out; omega) ([], 0)
          generalize (p.rows[k]?.getD ([], 0)) = r at *
          obtain ⟨r1, r2⟩ := r
          dsimp only at *
          obtain ⟨hr0, hr1, hr2⟩ := hrow
          have hye : yl = xl := by have := hy.1; have := HCL.out; omega
          have HY : Hid (Ints wr ya yl r1) := hy
          have HWR : Hid (∀ j : Nat, -12 ≤ r1[j]?.getD 0 ∧ r1[j]?.getD 0 ≤ 12) := Num.withinB_iff _ _ hr1 (by omega)
          have HG : Hid (Num.rowGoes x d (r1, r2) = decide (Num.dotN r1 x xl ≤ r2 * d)) := Num.rowGoes_eq x d r1 r2 xl HXL.out
          clear hr0 hr1 hy
          have hpd := Num.mul_bd2 r2 d 12 1073741824 hr2 (by omega)
          simp only [show (12 : Int) * 1073741824 = 12884901888 from rfl] at hpd
          have hwr : wrap64 (r2 * d) = r2 * d := IntWalk.wrap64_in _ (by omega)
          subst ha hye
          clear hB HB
          go_wp2_with fail
          have q0 := later_cell (V := wr.alloc (.cells #[.slice ya yl yc, .int .i64 r2] 32)) (p := ⟨wr.heap.size, 0, none⟩) (v := .slice ya yl yc) (cell_new2 rfl _ _ _).1 (by simp)
          have q1 := later_cell (V := wr.alloc (.cells #[.slice ya yl yc, .int .i64 r2] 32)) (p := ⟨wr.heap.size, 1, none⟩) (v := .int .i64 r2) (cell_new2 rfl _ _ _).2 (by simp)
          have q2 := later_cell (V := wr.alloc (.cells #[.slice ya yl yc, .int .i64 r2] 32)) (p := ⟨w.heap.size + 1, 0, none⟩) (v := .slice xa yl xc) (by rw [(balloc _ _).cell (p := ⟨w.heap.size + 1, 0, none⟩) hz]; exact c2) (by simp; omega)
          have q3 := later_cell (V := wr.alloc (.cells #[.slice ya yl yc, .int .i64 r2] 32)) (p := ⟨w.heap.size + 1, 1, none⟩) (v := .int .i64 d) (by rw [(balloc _ _).cell (p := ⟨w.heap.size + 1, 1, none⟩) hz]; exact c3) (by simp; omega)
          have hBV : Below w.heap.size w (wr.alloc (.cells #[.slice ya yl yc, .int .i64 r2] 32)) := bstep hB2 (balloc _ _)
          have hBL := bstep hbl (balloc wr (.cells #[.slice ya yl yc, .int .i64 r2] 32))
          have HYV : Hid (Ints (wr.alloc (.cells #[.slice ya yl yc, .int .i64 r2] 32)) ya yl r1) := Ints.below HY.out (balloc _ _) (Nat.le_refl _)
          clear c0 c1 c2 c3 d0 d1 hb1
          generalize wr.alloc (.cells #[.slice ya yl yc, .int .i64 r2] 32) = V at *
          have hne := later_some V
          have KT : Hid (∀ n : Later V, Calls Tryz.prog 41 #[.slice ya yl yc, .slice xa yl xc] n.w fun e w' => e = .returned (.int .i64 (Num.dotN r1 x yl)) ∧ Below n.w.heap.size n.w w') := by
            intro n
            exact below_of_drew (together_any ya xa yl yc yl xc r1 x n.w 12 1073741824 (Ints.below HYV.out n.ok (Nat.le_refl _)) (Ints.below HX.out (bstep hBV n.ok) (Nat.le_refl _)) rfl (by omega) HWR.out HW.out (by omega))
          refine wp_region_later (by kernel_rfl) (by kernel_rfl) ?_
          repeat (go_big_quiet_step ((go_at_call 41; exact calls_later (KT.out _))))
          refine wpQuiet_nil ?_
          rintro w5 ⟨n5, rfl⟩
          clear q0 q1 q2 q3
          by_cases hg : r2 * d < Num.dotN r1 x yl
          · go_wp2_with fail
            go_ret
            refine ⟨ret_bool ?_, bstep hBV n5.ok⟩
            rw [HF.out]
            exact (HN.out (by rw [HG.out]; simp; omega)).symm
          · have hg' : decide (r2 * d < Num.dotN r1 x yl) = false := by simpa using hg
            go_wp2_with fail
            go_roundw
            case rel => exact ⟨k + 1, hlt, by go_num, by rw [HS.out, HAL.out, HG.out]; simp; omega, bstep hBL n5.ok⟩
            case measure => simp [intOf]; omega
        · obtain ⟨⟨c0, c1⟩, ⟨c2, c3⟩, hz, hB2⟩ := box2 hbl
          go_wp2_with fail
          go_ret
          have hke : k = p.rows.length := by have := HRL.out; omega
          refine ⟨ret_bool ?_, hB2⟩
          rw [HF.out]
          exact (Num.all_full _ _ _ hke HAL.out).symm

/-- Three boxes of two cells each, in every later world. -/
theorem box3 {w w1 : World} {a b c d e f : Value} {t u v : TypeId} (hb : Below (((w.alloc (.cells #[a, b] t)).alloc (.cells #[c, d] u)).alloc (.cells #[e, f] v)).heap.size (((w.alloc (.cells #[a, b] t)).alloc (.cells #[c, d] u)).alloc (.cells #[e, f] v)) w1) :
    (w1.cell? ⟨w.heap.size, 0, none⟩ = some a ∧ w1.cell? ⟨w.heap.size, 1, none⟩ = some b) ∧ (w1.cell? ⟨w.heap.size + 1, 0, none⟩ = some c ∧ w1.cell? ⟨w.heap.size + 1, 1, none⟩ = some d) ∧
      (w1.cell? ⟨w.heap.size + 1 + 1, 0, none⟩ = some e ∧ w1.cell? ⟨w.heap.size + 1 + 1, 1, none⟩ = some f) ∧ (w1.frozen? ⟨w.heap.size + 1 + 1, 0, none⟩ = false ∧ w1.frozen? ⟨w.heap.size + 1 + 1, 1, none⟩ = false) ∧ w.heap.size + 2 < w1.heap.size ∧ Below w.heap.size w w1 := by
  refine ⟨⟨?_, ?_⟩, ⟨?_, ?_⟩, ⟨?_, ?_⟩, ⟨?_, ?_⟩, ?_, ?_⟩
  · rw [hb.cell (by simp; omega)]; go_simp
  · rw [hb.cell (by simp; omega)]; go_simp
  · rw [hb.cell (by simp)]; go_simp
  · rw [hb.cell (by simp)]; go_simp
  · rw [hb.cell (by simp)]; go_simp
  · rw [hb.cell (by simp)]; go_simp
  · rw [hb.frozen (by simp)]; go_simp
  · rw [hb.frozen (by simp)]; go_simp
  · have := hb.size; simp at this; omega
  · exact ((((Below.refl _ _).alloc (Nat.le_refl _) _).alloc (by simp) _).alloc (by simp; omega) _).trans (hb.mono (by simp; omega))

/-- What a point is worth. -/
def Num.worth (p : Num.Lp) (x : List Int) (d : Int) : Int × Int × Int := if p.fits x d = true then Num.mk (Num.dotN p.costs x x.length) d else (0, 0, 2)

set_option maxHeartbeats 800000 in
theorem worth_any (ca : Option Addr) (cl cc : Nat) (ra : Option Addr) (rl rc : Nat) (p : Num.Lp) (w : World) (hc : Ints w ca cl p.costs) (hcl : cl ≤ 9223372036854775807) (hr : RowsAt w ra rl p.rows) (hrl : rl ≤ 9223372036854775807)
    (xa : Option Addr) (xl xc : Nat) (x : List Int) (d : Int) (hx : Ints w xa xl x) (hxl : xl ≤ 9223372036854775807) (u v z : Int) (hv : Num.worth p x d = (u, v, z)) :
    Calls Tryz.prog 34 #[.agg #[.slice ca cl cc, .slice ra rl rc], .agg #[.slice xa xl xc, .int .i64 d]] w fun e w' => e = .returned (.tuple #[.agg #[.int .i64 u, .int .i64 v], .int .i64 z]) ∧ Below w.heap.size w w' := by
  have HC : Hid (Ints w ca cl p.costs) := hc
  have HR : Hid (RowsAt w ra rl p.rows) := hr
  have HX : Hid (Ints w xa xl x) := hx
  have HCL : Hid (cl = p.costs.length) := hc.1
  have HXL : Hid (xl = x.length) := hx.1
  clear hc hr hx
  have HV := box2 (box2_refl w (.slice ca cl cc) (.slice ra rl rc) (.slice xa xl xc) (.int .i64 d) 25 34)
  have HB : Hid _ := HV.2.2.2
  clear HV
  cases h1 : p.fits x d with
  | false =>
    unfold Num.worth at hv
    rw [if_neg (by simp [h1])] at hv
    simp only [Prod.mk.injEq] at hv
    obtain ⟨rfl, rfl, rfl⟩ := hv
    go_enter Tryz.func34, Tryz.ntmps34
    go_wp2_with fail
    refine (fits_any _ _ _ _ _ _ p _ (Ints.below HC.out (bstep HB.out (balloc _ _)) (Nat.le_refl _)) hcl (RowsAt.below HR.out (bstep HB.out (balloc _ _)) (Nat.le_refl _)) hrl _ _ _ x d (Ints.below HX.out (bstep HB.out (balloc _ _)) (Nat.le_refl _)) hxl).mono ?_
    rintro e w1 ⟨rfl, hb1⟩
    rw [h1]
    obtain ⟨⟨c0, c1⟩, ⟨c2, c3⟩, ⟨c4, c5⟩, ⟨f0, f1⟩, hz, hB⟩ := box3 hb1
    go_wp2_with fail
    exact bodyPost_ret (v := .tuple #[.agg #[.int .i64 0, .int .i64 0], .int .i64 2]) (by simp [results, Tryz.results34, go_sem, c4, c5]) rfl ⟨rfl, (hB.setCell (by simp; omega) _).setCell (by simp; omega) _⟩
  | true =>
    unfold Num.worth at hv
    rw [if_pos h1] at hv
    obtain ⟨hm, hxc, hd, hw⟩ := p.fits_of x d h1
    have hc4 := (p.may_of hm).1
    have HWC : Hid (∀ j : Nat, -400 ≤ p.costs[j]?.getD 0 ∧ p.costs[j]?.getD 0 ≤ 400) := Num.withinB_iff _ _ (p.may_of hm).2.1 (by omega)
    have HW : Hid (∀ j : Nat, -1073741824 ≤ x[j]?.getD 0 ∧ x[j]?.getD 0 ≤ 1073741824) := Num.withinB_iff _ _ hw (by omega)
    have hxe : xl = cl := by have := HCL.out; have := HXL.out; omega
    have hc5 : cl ≤ 4 := by have := HCL.out; omega
    subst hxe
    have HE : Hid (Num.mk (Num.dotN p.costs x xl) d = (u, v, z)) := by have := HXL.out; rw [← this] at hv; exact hv
    clear hm hw hc4 hxc hv
    go_enter Tryz.func34, Tryz.ntmps34
    go_wp2_with fail
    refine (fits_any _ _ _ _ _ _ p _ (Ints.below HC.out (bstep HB.out (balloc _ _)) (Nat.le_refl _)) hcl (RowsAt.below HR.out (bstep HB.out (balloc _ _)) (Nat.le_refl _)) hrl _ _ _ x d (Ints.below HX.out (bstep HB.out (balloc _ _)) (Nat.le_refl _)) hxl).mono ?_
    rintro e w1 ⟨rfl, hb1⟩
    rw [h1]
    go_wp2_with fail
    obtain ⟨⟨c0, c1⟩, ⟨c2, c3⟩, _, _, hz, hB⟩ := box3 hb1
    have hH : Held (w.heap.size + 1 + 1) w1 (w.heap.size + 1 + 1) w1 := ⟨Below.refl _ _, _, _, _, by rw [hb1.block _ (by simp)]; exact heap_new (by simp) _⟩
    have HK : Hid (∀ w', Held (w.heap.size + 1 + 1) w1 (w.heap.size + 1 + 1) w' → Below w.heap.size w w' ∧ w.heap.size + 1 + 1 ≤ w'.heap.size) := fun w' h => ⟨hB.trans (h.bel.mono (by omega)), by have := h.bel.size; omega⟩
    have q0 : ∀ w', Held (w.heap.size + 1 + 1) w1 (w.heap.size + 1 + 1) w' → w'.cell? ⟨w.heap.size, 0, none⟩ = some (.slice ca xl cc) := fun w' h => by rw [h.bel.cell (by simp; omega)]; exact c0
    have q2 : ∀ w', Held (w.heap.size + 1 + 1) w1 (w.heap.size + 1 + 1) w' → w'.cell? ⟨w.heap.size + 1, 0, none⟩ = some (.slice xa xl xc) := fun w' h => by rw [h.bel.cell (by simp)]; exact c2
    have q3 : ∀ w', Held (w.heap.size + 1 + 1) w1 (w.heap.size + 1 + 1) w' → w'.cell? ⟨w.heap.size + 1, 1, none⟩ = some (.int .i64 d) := fun w' h => by rw [h.bel.cell (by simp)]; exact c3
    obtain ⟨F, G, q4, q5, q6, q7⟩ := Held.cells (B := w.heap.size + 1 + 1) (V := w1) (r := w.heap.size + 1 + 1)
    have KT : Hid (∀ w', Held (w.heap.size + 1 + 1) w1 (w.heap.size + 1 + 1) w' → Calls Tryz.prog 41 #[.slice ca xl cc, .slice xa xl xc] w' fun e w'' => e = .returned (.int .i64 (Num.dotN p.costs x xl)) ∧ Held (w.heap.size + 1 + 1) w1 (w.heap.size + 1 + 1) w'') := by
      intro w' h
      obtain ⟨hB, hs⟩ := HK.out w' h
      exact (below_of_drew (together_any ca xa xl cc xl xc p.costs x w' 400 1073741824 (Ints.below HC.out hB (Nat.le_refl _)) (Ints.below HX.out hB (Nat.le_refl _)) rfl (by omega) HWC.out HW.out (by omega))).mono fun _ _ k => ⟨k.1, h.step k.2 hs⟩
    have KM : Hid (∀ w', Held (w.heap.size + 1 + 1) w1 (w.heap.size + 1 + 1) w' → Calls Tryz.prog 40 #[.int .i64 (Num.dotN p.costs x xl), .int .i64 d] w' fun e w'' => e = .returned (.tuple #[.agg #[.int .i64 u, .int .i64 v], .int .i64 z]) ∧ Held (w.heap.size + 1 + 1) w1 (w.heap.size + 1 + 1) w'') := by
      intro w' h
      exact (make_any _ _ w' _ _ _ HE.out).mono fun _ _ k => ⟨k.1, h.step k.2 (HK.out w' h).2⟩
    clear hb1 c0 c1 c2 c3
    go_region_held3 (fun w' => Held (w.heap.size + 1 + 1) w1 (w.heap.size + 1 + 1) w') (first | assumption | exact Held.drew hH | (refine Held.set (Held.set ?_ ?_ 0 _ ?_) ?_ 1 _ ?_ <;> first | assumption | exact Nat.le_refl _ | omega))
      (first | (go_at_call 41; refine (KT.out _ ?_).mono ?_; assumption; rintro e w' ⟨rfl, hb⟩) | (go_at_call 40; refine (KM.out _ ?_).mono ?_; assumption; rintro e w' ⟨rfl, hb⟩))
    rename_i hfin
    have p4 := q4 _ hb
    have p5 := q5 _ hb
    clear q0 q2 q3 q4 q5 q6 q7 KT KM
    go_wp2_with fail
    exact bodyPost_ret (v := .tuple #[.agg #[.int .i64 u, .int .i64 v], .int .i64 z]) (by simp [results, Tryz.results34, go_sem, p4, p5]) rfl ⟨rfl, (HK.out _ hfin).1⟩

end Go.Proofs.YtipcbhodlgoflabGreat
