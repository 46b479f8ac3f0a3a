/- What corner.Look does, for every program and columns. -/
import Derived.Test.YtjlkegchkngliaaCornWB
namespace Go.Proofs.Ytjlkegchkngliaa
open Go.RowKit

/-- The zero corner. -/
def corner0 : Value := .agg #[.slice none 0 0, .int .i64 0, .slice none 0 0, .int .i64 0, .slice none 0 0, .int .i64 0]

/-- A box of two cells, and a box of six, in every later world. -/
theorem box26 {w w1 : World} {a b c d e f g h : Value} {t u : TypeId} (hb : Below ((w.alloc (.cells #[a, b] t)).alloc (.cells #[c, d, e, f, g, h] u)).heap.size ((w.alloc (.cells #[a, b] t)).alloc (.cells #[c, d, e, f, g, h] u)) w1) :
    (w1.cell? ⟨w.heap.size, 0, none⟩ = some a ∧ w1.cell? ⟨w.heap.size, 1, none⟩ = some b) ∧
      (w1.cell? ⟨w.heap.size + 1, 0, none⟩ = some c ∧ w1.cell? ⟨w.heap.size + 1, 1, none⟩ = some d ∧ w1.cell? ⟨w.heap.size + 1, 2, none⟩ = some e ∧ w1.cell? ⟨w.heap.size + 1, 3, none⟩ = some f ∧ w1.cell? ⟨w.heap.size + 1, 4, none⟩ = some g ∧ w1.cell? ⟨w.heap.size + 1, 5, none⟩ = some h) ∧
      (∀ i, w1.frozen? ⟨w.heap.size + 1, i, none⟩ = false) ∧ w.heap.size + 1 < w1.heap.size ∧ Below w.heap.size w w1 := by
  refine ⟨⟨?_, ?_⟩, ⟨?_, ?_, ?_, ?_, ?_, ?_⟩, ?_, ?_, ?_⟩
  · rw [hb.cell (by simp; omega)]; go_simp
  · rw [hb.cell (by simp; omega)]; go_simp
  · rw [hb.cell (by simp)]; go_simp
  · rw [hb.cell (by simp)]; go_simp
  · rw [hb.cell (by simp)]; go_simp
  · rw [hb.cell (by simp)]; go_simp
  · rw [hb.cell (by simp)]; go_simp
  · rw [hb.cell (by simp)]; go_simp
  · intro i; rw [hb.frozen (by simp)]; go_simp
  · have := hb.size; simp at this; omega
  · exact (((Below.refl _ _).alloc (Nat.le_refl _) _).alloc (by simp) _).trans (hb.mono (by simp; omega))

def zeros6 : Obj := .cells #[.slice none 0 0, .int .i64 0, .slice none 0 0, .int .i64 0, .slice none 0 0, .int .i64 0] 47

theorem set6 {B : Nat} {a w : World} (h : Below B a w) {g : Nat} (hg : B ≤ g) (u0 u1 u2 u3 u4 u5 : Value) :
    Below B a ((((((w.setCell ⟨g, 0, none⟩ u0).setCell ⟨g, 1, none⟩ u1).setCell ⟨g, 2, none⟩ u2).setCell ⟨g, 3, none⟩ u3).setCell ⟨g, 4, none⟩ u4).setCell ⟨g, 5, none⟩ u5) :=
  bset (bset (bset (bset (bset (bset h hg _) hg _) hg _) hg _) hg _) hg _

set_option maxHeartbeats 800000 in
theorem look_form (ca : Option Addr) (cl cc : Nat) (ra : Option Addr) (rl rc : Nat) (p : Num.Lp) (w : World) (hc : Ints w ca cl p.costs) (hcl : cl ≤ 9223372036854775807) (hr : RowsAt w ra rl p.rows) (hrl : rl ≤ 9223372036854775807)
    (aa : Option Addr) (al ac : Nat) (at' : List Int) (ha : Ints w aa al at') (_hal : al ≤ 9223372036854775807) (hm : p.may = false) :
    Calls Try.prog 30 #[.agg #[.slice ca cl cc, .slice ra rl rc], .slice aa al ac] w fun e w' => e = .returned (.tuple #[corner0, .int .i64 2]) ∧ Below w.heap.size w w' := by
  have HC : Hid (Ints w ca cl p.costs) := hc
  have HR : Hid (RowsAt w ra rl p.rows) := hr
  have HA : Hid (Ints w aa al at') := ha
  clear hc hr ha
  have HB0 : Hid _ := (box26 (Below.refl ((w.alloc (.cells #[.slice ca cl cc, .slice ra rl rc] 40)).alloc zeros6).heap.size ((w.alloc (.cells #[.slice ca cl cc, .slice ra rl rc] 40)).alloc zeros6))).2.2.2.2
  go_enter Try.func30, Try.ntmps30
  go_wp2_with fail
  refine (lmay_any _ _ _ _ _ _ p _ (Ints.below HC.out HB0.out (Nat.le_refl _)) hcl (RowsAt.below HR.out HB0.out (Nat.le_refl _)) hrl).mono ?_
  rintro e w1 ⟨rfl, hb1⟩
  rw [hm]
  obtain ⟨⟨b0, b1⟩, ⟨c0, c1, c2, c3, c4, c5⟩, f0, hz, hB⟩ := box26 hb1
  go_wp2_with fail
  exact bodyPost_ret (v := .tuple #[corner0, .int .i64 2]) (by simp [results, Try.results30, go_sem, corner0, c0, c1, c2, c3, c4, c5]) rfl ⟨rfl, set6 hB (by simp) _ _ _ _ _ _⟩

set_option maxHeartbeats 800000 in
theorem look_range (ca : Option Addr) (cl cc : Nat) (ra : Option Addr) (rl rc : Nat) (p : Num.Lp) (w : World) (hc : Ints w ca cl p.costs) (hcl : cl ≤ 9223372036854775807) (hr : RowsAt w ra rl p.rows) (hrl : rl ≤ 9223372036854775807)
    (aa : Option Addr) (al ac : Nat) (at' : List Int) (ha : Ints w aa al at') (hal : al ≤ 9223372036854775807) (hm : p.may = true) (N : Nat) (hN : cl + rl = N) (h8 : N ≤ 8) (hri : Num.rightB at' rl N = false) :
    Calls Try.prog 30 #[.agg #[.slice ca cl cc, .slice ra rl rc], .slice aa al ac] w fun e w' => e = .returned (.tuple #[corner0, .int .i64 3]) ∧ Below w.heap.size w w' := by
  have HC : Hid (Ints w ca cl p.costs) := hc
  have HR : Hid (RowsAt w ra rl p.rows) := hr
  have HA : Hid (Ints w aa al at') := ha
  clear hc hr ha
  have HB0 : Hid _ := (box26 (Below.refl ((w.alloc (.cells #[.slice ca cl cc, .slice ra rl rc] 40)).alloc zeros6).heap.size ((w.alloc (.cells #[.slice ca cl cc, .slice ra rl rc] 40)).alloc zeros6))).2.2.2.2
  go_enter Try.func30, Try.ntmps30
  go_wp2_with fail
  refine (lmay_any _ _ _ _ _ _ p _ (Ints.below HC.out HB0.out (Nat.le_refl _)) hcl (RowsAt.below HR.out HB0.out (Nat.le_refl _)) hrl).mono ?_
  rintro e w1 ⟨rfl, hb1⟩
  rw [hm]
  obtain ⟨⟨b0, b1⟩, _⟩ := box26 hb1
  go_wp2_with fail
  refine (chosen_any _ _ _ _ _ _ _ _ _ _ at' (Ints.below HA.out (box26 hb1).2.2.2.2 (Nat.le_refl _)) hal N hN h8).mono ?_
  rintro e w2 ⟨rfl, hb2⟩
  rw [hri]
  have hL2 := bstep hb1 hb2
  clear b0 b1 hb1 hb2
  obtain ⟨⟨b0, b1⟩, ⟨c0, c1, c2, c3, c4, c5⟩, f0, hz, hB⟩ := box26 hL2
  go_wp2_with fail
  exact bodyPost_ret (v := .tuple #[corner0, .int .i64 3]) (by simp [results, Try.results30, go_sem, corner0, c0, c1, c2, c3, c4, c5]) rfl ⟨rfl, set6 hB (by simp) _ _ _ _ _ _⟩

set_option maxHeartbeats 800000 in
theorem look_none (ca : Option Addr) (cl cc : Nat) (ra : Option Addr) (rl rc : Nat) (p : Num.Lp) (w : World) (hc : Ints w ca cl p.costs) (hcl : cl ≤ 9223372036854775807) (hr : RowsAt w ra rl p.rows) (hrl : rl ≤ 9223372036854775807)
    (aa : Option Addr) (al ac : Nat) (at' : List Int) (ha : Ints w aa al at') (hal : al ≤ 9223372036854775807) (hm : p.may = true) (N : Nat) (hN : cl + rl = N) (h8 : N ≤ 8) (hri : Num.rightB at' rl N = true) (hd : Num.denL p at' rl = 0) :
    Calls Try.prog 30 #[.agg #[.slice ca cl cc, .slice ra rl rc], .slice aa al ac] w fun e w' => e = .returned (.tuple #[corner0, .int .i64 4]) ∧ Below w.heap.size w w' := by
  have HC : Hid (Ints w ca cl p.costs) := hc
  have HR : Hid (RowsAt w ra rl p.rows) := hr
  have HA : Hid (Ints w aa al at') := ha
  clear hc hr ha
  have HB0 : Hid _ := (box26 (Below.refl ((w.alloc (.cells #[.slice ca cl cc, .slice ra rl rc] 40)).alloc zeros6).heap.size ((w.alloc (.cells #[.slice ca cl cc, .slice ra rl rc] 40)).alloc zeros6))).2.2.2.2
  have h4 : rl ≤ 4 := by have := HR.out.1; have := (p.may_of hm).2.2.1.2; omega
  have h1 : 1 ≤ rl := by have := HR.out.1; have := (p.may_of hm).2.2.1.1; omega
  obtain ⟨hal2, hat⟩ := Num.right_all at' rl N hri
  have hale : al = rl := by have := HA.out.1; omega
  have HAT : Hid (∀ k, k < rl → 0 ≤ at'[k]?.getD 0 ∧ at'[k]?.getD 0 < N) := hat
  have HM : Hid (p.may = true) := hm
  have HCH : Hid (Num.BdL 400 (Num.chosenL p at' rl)) := Num.chosen_bd p hm at' rl
  have HCN : Hid ((Num.chosenL p at' rl).length = rl ∧ ∀ l ∈ Num.chosenL p at' rl, l.length = rl) := Num.chosen_len p at' rl
  clear hal2 hat
  subst hale
  go_enter Try.func30, Try.ntmps30
  go_wp2_with fail
  refine (lmay_any _ _ _ _ _ _ p _ (Ints.below HC.out HB0.out (Nat.le_refl _)) hcl (RowsAt.below HR.out HB0.out (Nat.le_refl _)) hrl).mono ?_
  rintro e w1 ⟨rfl, hb1⟩
  rw [hm]
  obtain ⟨⟨b0, b1⟩, _⟩ := box26 hb1
  go_wp2_with fail
  refine (chosen_any _ _ _ _ _ _ _ _ _ _ at' (Ints.below HA.out (box26 hb1).2.2.2.2 (Nat.le_refl _)) hal N hN h8).mono ?_
  rintro e w2 ⟨rfl, hb2⟩
  rw [hri]
  have hL2 := bstep hb1 hb2
  clear b0 b1 hb1 hb2
  obtain ⟨⟨b0, b1⟩, _, _, _, hB⟩ := box26 hL2
  go_wp2_with fail
  refine (columns_any _ _ _ _ _ _ p _ (RowsAt.below HR.out hB (Nat.le_refl _)) HM.out _ _ _ at' (Ints.below HA.out hB (Nat.le_refl _)) h4 (fun k hk => by have := HAT.out k hk; omega)).mono ?_
  rintro e w3 ⟨gc, rfl, hgc, hLc, hb3⟩
  have HLC : Hid (Lines w3 (some ⟨gc, 0, none⟩) al (Num.chosenL p at' al)) := hLc
  have hL3 := bstep hL2 hb3
  clear b0 b1 hB hL2 hb3 hLc
  go_wp2_with fail
  refine (volume_any (Num.chosenL p at' al) _ _ _ _ HLC.out (Nat.le_refl _) h4 (fun l hl => by have := HCN.out.2 l hl; omega) HCH.out).mono ?_
  rintro e w4 ⟨rfl, hb4⟩
  have HLC4 : Hid (Lines w4 (some ⟨gc, 0, none⟩) al (Num.chosenL p at' al)) := Lines.below HLC.out hb4 (Nat.le_refl _)
  have hL4 := bstep hL3 hb4
  clear hL3 hb4 HLC
  rw [show Num.vol (Num.chosenL p at' al) Num.none4 = Num.denL p at' al from rfl]
  rw [hd]
  obtain ⟨⟨b0, b1⟩, ⟨c0, c1, c2, c3, c4, c5⟩, f0, hz, hB⟩ := box26 hL4
  go_wp2_with fail
  exact bodyPost_ret (v := .tuple #[corner0, .int .i64 4]) (by simp [results, Try.results30, go_sem, corner0, c0, c1, c2, c3, c4, c5]) rfl ⟨rfl, set6 hB (by simp) _ _ _ _ _ _⟩

end Go.Proofs.Ytjlkegchkngliaa
