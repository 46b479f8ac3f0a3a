/- The law TextPrints, walked. -/
import Derived.Test.YtipcbhodlgoflabDoorTxG
namespace Go.Proofs.YtipcbhodlgoflabDoor
open Go.RowKit

/-- text.Print, for every program. -/
def codeP (p : Num.Lp) : Int := if p.may = true then 0 else 2
def textP (p : Num.Lp) : List UInt8 := if p.may = true then Num.textW p else []

theorem print_any (ca : Option Addr) (cl cc : Nat) (ra : Option Addr) (rl rc : Nat) (p : Num.Lp) (w : World) (hc : Ints w ca cl p.costs) (hcl : cl ≤ 9223372036854775807) (hr : RowsAt w ra rl p.rows) (hrl : rl ≤ 9223372036854775807)
    (ht : Lib.TabIs Tryd.prog w "internal/strconv.uint64pow10" .u64 Lib.pow10Tab) :
    Calls Tryd.prog 7 #[.agg #[.slice ca cl cc, .slice ra rl rc]] w fun e w' => e = .returned (.tuple #[.string (B8 (textP p)), .int .i64 (codeP p)]) ∧ Below w.heap.size w w' := by
  unfold textP codeP
  cases hm : p.may with
  | true => exact print_may ca cl cc ra rl rc p w hc hcl hr hrl hm ht
  | false => exact print_not ca cl cc ra rl rc p w hc hcl hr hrl hm

set_option maxRecDepth 8000 in
set_option maxHeartbeats 800000 in
theorem textPrints_walk (ca : Option Addr) (cl cc : Nat) (ra : Option Addr) (rl rc : Nat) (p : Num.Lp) (w : World) (hc : Ints w ca cl p.costs) (hcl : cl ≤ 9223372036854775807) (hr : RowsAt w ra rl p.rows) (hrl : rl ≤ 9223372036854775807)
    (ht : Lib.TabIs Tryd.prog w "internal/strconv.uint64pow10" .u64 Lib.pow10Tab) :
    Calls Tryd.prog 3 #[.agg #[.slice ca cl cc, .slice ra rl rc]] w fun e w' => e = .returned (.bool true) ∧ Below w.heap.size w w' := by
  have HC : Hid (Ints w ca cl p.costs) := hc
  have HR : Hid (RowsAt w ra rl p.rows) := hr
  have HT : Hid (Lib.TabIs Tryd.prog w "internal/strconv.uint64pow10" .u64 Lib.pow10Tab) := ht
  clear hc hr ht
  go_enter Tryd.func3, Tryd.ntmps3
  go_wp2_with fail
  have hbV : Below w.heap.size w (w.alloc (.cells #[.slice ca cl cc, .slice ra rl rc] 25)) := balloc _ _
  have k0 := (cell_new2 (w := w) rfl (.slice ca cl cc) (.slice ra rl rc) 25).1
  have k1 := (cell_new2 (w := w) rfl (.slice ca cl cc) (.slice ra rl rc) 25).2
  have hsV : (w.alloc (.cells #[.slice ca cl cc, .slice ra rl rc] 25)).heap.size = w.heap.size + 1 := by simp
  generalize w.alloc (.cells #[.slice ca cl cc, .slice ra rl rc] 25) = V at *
  refine (print_any ca cl cc ra rl rc p V (HC.out.below hbV (Nat.le_refl _)) hcl (HR.out.below hbV (Nat.le_refl _)) hrl (tab_later HT.out hbV)).mono ?_
  rintro e w1 ⟨rfl, hb1⟩
  have c0 := carry hb1 k0
  have c1 := carry hb1 k1
  have hB1 : Below w.heap.size w w1 := hbV.trans (hb1.mono (by omega))
  generalize hcd : codeP p = cd
  generalize htx : textP p = tx
  have HCD : Hid (codeP p = cd) := hcd
  have HTX : Hid (textP p = tx) := htx
  clear k0 k1 hcd htx
  go_wp2_with fail
  refine (r2may_any ca cl cc ra rl rc p w1 (HC.out.below hB1 (Nat.le_refl _)) hcl (HR.out.below hB1 (Nat.le_refl _)) hrl).mono ?_
  rintro e w2 ⟨rfl, hb2⟩
  have d0 := carry hb2 c0
  have d1 := carry hb2 c1
  have hB2 : Below w.heap.size w w2 := bstep hB1 hb2
  clear c0 c1
  cases hm : p.may with
  | false =>
    have e1 : cd = 2 := by rw [← HCD.out, codeP, hm]; rfl
    have e2 : tx = [] := by rw [← HTX.out, textP, hm]; rfl
    subst e1 e2
    have hq : (B8 []).toList.isEmpty = true := by rw [B8_toList]; rfl
    generalize B8 [] = S at hq
    clear hm
    go_wp2_with fail
    go_ret
    exact ⟨rfl, hB2⟩
  | true =>
    have e1 : cd = 0 := by rw [← HCD.out, codeP, hm]; rfl
    have e2 : tx = Num.textW p := by rw [← HTX.out, textP, hm]; rfl
    have HM : Hid (p.may = true) := hm
    subst e1 e2
    clear hm
    go_wp2_with fail
    refine (rtext_may ca cl cc ra rl rc p w2 (HC.out.below hB2 (Nat.le_refl _)) (HR.out.below hB2 (Nat.le_refl _)) HM.out).mono ?_
    rintro e w3 ⟨rfl, hb3⟩
    have hB3 : Below w.heap.size w w3 := bstep hB2 hb3
    have hq := eq_B8 (Num.textW p) (Num.textW p)
    rw [decide_eq_true rfl] at hq
    generalize B8 (Num.textW p) = S at hq
    go_wp2_with fail
    go_ret
    exact ⟨rfl, hB3⟩

end Go.Proofs.YtipcbhodlgoflabDoor
