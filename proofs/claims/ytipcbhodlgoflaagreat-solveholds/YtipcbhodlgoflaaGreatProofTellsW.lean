/- The walk of ProofTells: for every program and answer it answers true. -/
import Derived.Test.YtipcbhodlgoflaaGreatRef4B
import Derived.Test.YtipcbhodlgoflaaGreatPrfAB
namespace Go.Proofs.YtipcbhodlgoflaaGreat
open Go.RowKit

theorem rholds_any (ca : Option Addr) (cl cc : Nat) (ra : Option Addr) (m rc : Nat) (p : Num.Lp) (w : World) (hc : Ints w ca cl p.costs) (hcl : cl ≤ 9223372036854775807) (hr : RowsAt w ra m p.rows) (hrl : m ≤ 9223372036854775807) (a : Num.Ans)
    (xa : Option Addr) (xl xc : Nat) (ya : Option Addr) (yl yc : Nat) (za : Option Addr) (zl zc : Nat) (hx : Ints w xa xl a.x) (hxl : xl ≤ 9223372036854775807) (hy : Ints w ya yl a.y) (hyl : yl ≤ 9223372036854775807) (hz : Ints w za zl a.r) (hzl : zl ≤ 9223372036854775807) :
    Calls Tryz.prog 6 #[.agg #[.slice ca cl cc, .slice ra m rc], .agg #[.int .i64 a.kind, .slice xa xl xc, .int .i64 a.xd, .slice ya yl yc, .int .i64 a.yd, .slice za zl zc, .int .i64 a.rd, .int .i64 a.wn, .int .i64 a.wd]] w fun e w' =>
      e = .returned (.bool (Num.holds p a)) ∧ Below w.heap.size w w' := by
  cases hm : p.may with
  | false => exact rholds_no ca cl cc ra m rc p w hc hcl hr hrl a xa xl xc ya yl yc za zl zc hx hxl hy hyl hz hzl hm
  | true =>
    by_cases k1 : a.kind = 1
    · exact rholds_best ca cl cc ra m rc p w hc hcl hr hrl a xa xl xc ya yl yc za zl zc hx hxl hy hyl hz hzl hm k1
    by_cases k2 : a.kind = 2
    · exact rholds_endless ca cl cc ra m rc p w hc hcl hr hrl a xa xl xc ya yl yc za zl zc hx hxl hy hyl hz hzl hm k2
    by_cases k3 : a.kind = 3
    · exact rholds_nothing ca cl cc ra m rc p w hc hcl hr hrl a xa xl xc ya yl yc za zl zc hx hxl hy hyl hz hzl hm k3
    exact rholds_other ca cl cc ra m rc p w hc hcl hr hrl a xa xl xc ya yl yc za zl zc hx hxl hy hyl hz hzl hm k1 k2 k3

end Go.Proofs.YtipcbhodlgoflaaGreat
