/- The walk of ProofTells: for every program and answer it answers true. -/
import Derived.Test.YtipcbhodlgoflaaRef4B
import Derived.Test.YtipcbhodlgoflaaPrfAB
namespace Go.Proofs.Ytipcbhodlgoflaa
open Go.RowKit

theorem rholds_any (ca : Option Addr) (cl cc : Nat) (ra : Option Addr) (m rc : Nat) (p : Num.Lp) (w : World) (hc : Ints w ca cl p.costs) (hcl : cl ≤ 9223372036854775807) (hr : RowsAt w ra m p.rows) (hrl : m ≤ 9223372036854775807) (a : Num.Ans)
    (xa : Option Addr) (xl xc : Nat) (ya : Option Addr) (yl yc : Nat) (za : Option Addr) (zl zc : Nat) (hx : Ints w xa xl a.x) (hxl : xl ≤ 9223372036854775807) (hy : Ints w ya yl a.y) (hyl : yl ≤ 9223372036854775807) (hz : Ints w za zl a.r) (hzl : zl ≤ 9223372036854775807) :
    Calls Try.prog 35 #[.agg #[.slice ca cl cc, .slice ra m rc], .agg #[.int .i64 a.kind, .slice xa xl xc, .int .i64 a.xd, .slice ya yl yc, .int .i64 a.yd, .slice za zl zc, .int .i64 a.rd, .int .i64 a.wn, .int .i64 a.wd]] w fun e w' =>
      e = .returned (.bool (Num.holds p a)) ∧ Below w.heap.size w w' := by
  cases hm : p.may with
  | false => exact rholds_no ca cl cc ra m rc p w hc hcl hr hrl a xa xl xc ya yl yc za zl zc hx hxl hy hyl hz hzl hm
  | true =>
    by_cases k1 : a.kind = 1
    · exact rholds_best ca cl cc ra m rc p w hc hcl hr hrl a xa xl xc ya yl yc za zl zc hx hxl hy hyl hz hzl hm k1
    by_cases k2 : a.kind = 2
    · exact rholds_endless ca cl cc ra m rc p w hc hcl hr hrl a xa xl xc ya yl yc za zl zc hx hxl hy hyl hz hzl hm k2
    by_cases k3 : a.kind = 3
    · exact rholds_nothing ca cl cc ra m rc p w hc hcl hr hrl a xa xl xc ya yl yc za zl zc hx hxl hy hyl hz hzl hm k3
    exact rholds_other ca cl cc ra m rc p w hc hcl hr hrl a xa xl xc ya yl yc za zl zc hx hxl hy hyl hz hzl hm k1 k2 k3

set_option maxHeartbeats 800000 in
theorem proofTells.walk (ca : Option Addr) (cl cc : Nat) (ra : Option Addr) (m rc : Nat) (p : Num.Lp) (w : World) (hc : Ints w ca cl p.costs) (hcl : cl ≤ 9223372036854775807) (hr : RowsAt w ra m p.rows) (hrl : m ≤ 9223372036854775807) (a : Num.Ans)
    (xa : Option Addr) (xl xc : Nat) (ya : Option Addr) (yl yc : Nat) (za : Option Addr) (zl zc : Nat) (hx : Ints w xa xl a.x) (hxl : xl ≤ 9223372036854775807) (hy : Ints w ya yl a.y) (hyl : yl ≤ 9223372036854775807) (hz : Ints w za zl a.r) (hzl : zl ≤ 9223372036854775807) :
    Calls Try.prog 8 #[.agg #[.slice ca cl cc, .slice ra m rc], .agg #[.int .i64 a.kind, .slice xa xl xc, .int .i64 a.xd, .slice ya yl yc, .int .i64 a.yd, .slice za zl zc, .int .i64 a.rd, .int .i64 a.wn, .int .i64 a.wd]] w fun e w' => e = .returned (.bool true) ∧ Below w.heap.size w w' := by
  have KH : Hid (∀ w', Below w.heap.size w w' → Calls Try.prog 34 #[.agg #[.slice ca cl cc, .slice ra m rc], .agg #[.int .i64 a.kind, .slice xa xl xc, .int .i64 a.xd, .slice ya yl yc, .int .i64 a.yd, .slice za zl zc, .int .i64 a.rd, .int .i64 a.wn, .int .i64 a.wd]] w' fun e w'' => e = .returned (.bool (Num.holds p a)) ∧ Below w'.heap.size w' w'') := fun w' h =>
    holds_any ca cl cc ra m rc p w' (hc.below h (Nat.le_refl _)) hcl (hr.below h (Nat.le_refl _)) hrl a xa xl xc ya yl yc za zl zc (hx.below h (Nat.le_refl _)) hxl (hy.below h (Nat.le_refl _)) hyl (hz.below h (Nat.le_refl _)) hzl
  have KR : Hid (∀ w', Below w.heap.size w w' → Calls Try.prog 35 #[.agg #[.slice ca cl cc, .slice ra m rc], .agg #[.int .i64 a.kind, .slice xa xl xc, .int .i64 a.xd, .slice ya yl yc, .int .i64 a.yd, .slice za zl zc, .int .i64 a.rd, .int .i64 a.wn, .int .i64 a.wd]] w' fun e w'' => e = .returned (.bool (Num.holds p a)) ∧ Below w'.heap.size w' w'') := fun w' h =>
    rholds_any ca cl cc ra m rc p w' (hc.below h (Nat.le_refl _)) hcl (hr.below h (Nat.le_refl _)) hrl a xa xl xc ya yl yc za zl zc (hx.below h (Nat.le_refl _)) hxl (hy.below h (Nat.le_refl _)) hyl (hz.below h (Nat.le_refl _)) hzl
  clear hc hr hx hy hz
  generalize Num.holds p a = b at *
  have hL0 : Below ((w.alloc (.cells #[.slice ca cl cc, .slice ra m rc] 40)).alloc (.cells #[.int .i64 a.kind, .slice xa xl xc, .int .i64 a.xd, .slice ya yl yc, .int .i64 a.yd, .slice za zl zc, .int .i64 a.rd, .int .i64 a.wn, .int .i64 a.wd] 57)).heap.size ((w.alloc (.cells #[.slice ca cl cc, .slice ra m rc] 40)).alloc (.cells #[.int .i64 a.kind, .slice xa xl xc, .int .i64 a.xd, .slice ya yl yc, .int .i64 a.yd, .slice za zl zc, .int .i64 a.rd, .int .i64 a.wn, .int .i64 a.wd] 57)) ((w.alloc (.cells #[.slice ca cl cc, .slice ra m rc] 40)).alloc (.cells #[.int .i64 a.kind, .slice xa xl xc, .int .i64 a.xd, .slice ya yl yc, .int .i64 a.yd, .slice za zl zc, .int .i64 a.rd, .int .i64 a.wn, .int .i64 a.wd] 57)) := Below.refl _ _
  go_enter Try.func8, Try.ntmps8
  go_wp2_with fail
  obtain ⟨⟨c0, c1⟩, ⟨n0, n1, n2, n3, n4, n5, n6, n7, n8⟩, hz1, hB1⟩ := box29 hL0
  refine (KH.out _ hB1).mono ?_
  rintro e w1 ⟨rfl, hk1⟩
  clear c0 c1 n0 n1 n2 n3 n4 n5 n6 n7 n8 hz1 hB1
  have hL1 := bstep hL0 hk1
  obtain ⟨⟨c0, c1⟩, ⟨n0, n1, n2, n3, n4, n5, n6, n7, n8⟩, hz1, hB1⟩ := box29 hL1
  have hbb : (b == b) = true := by simp
  go_wp2_with fail
  refine (KR.out _ hB1).mono ?_
  rintro e w2 ⟨rfl, hk2⟩
  go_wp2_with fail
  go_ret
  exact ⟨rfl, bstep hB1 hk2⟩

end Go.Proofs.Ytipcbhodlgoflaa
