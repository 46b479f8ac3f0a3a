/- The law TextParses, walked. -/
import Derived.Test.YtipcbhodlgoflabDoorTxQ
import Derived.Test.YtipcbhodlgoflabDoorTxS
namespace Go.Proofs.YtipcbhodlgoflabDoor
open Go.RowKit

set_option maxRecDepth 8000 in
set_option maxHeartbeats 1600000 in
theorem textParses_walk (l : List UInt8) (hl : l.length ≤ 1048576) (w : World) (hL : Laid w) :
    Calls Tryd.prog 4 #[.string (B8 l)] w fun e w' => e = .returned (.bool true) ∧ Below w.heap.size w w' := by
  have HT : Hid (Laid w) := hL
  have HLL : Hid (l.length ≤ 1048576) := hl
  clear hL hl
  go_enter Tryd.func4, Tryd.ntmps4
  go_wp2_with fail
  refine (parseT_any l (by have := HLL.out; omega) w HT.out).mono ?_
  rintro e w1 ⟨ca, cl, cc, ra, rl, rc, rfl, ⟨hc, hcl⟩, ⟨hr, hrl⟩, hb1⟩
  have HC : Hid (Ints w1 ca cl (progR l).costs) := hc
  have HR : Hid (RowsAt w1 ra rl (progR l).rows) := hr
  generalize hcd : codeR l = cd
  generalize hat : atR l = k
  have HCD : Hid (codeR l = cd) := hcd
  have HAT : Hid (atR l = k) := hat
  clear hc hr hcd hat
  go_wp2_with fail
  obtain ⟨⟨⟨k0, k1⟩, ⟨k2, k3⟩⟩, _, _⟩ := boxes2 w1 (.slice ca cl cc) (.slice ra rl rc) (.int .i64 cd) (.int .i64 k) 25 32
  have hbV : Below w1.heap.size w1 ((w1.alloc (.cells #[.slice ca cl cc, .slice ra rl rc] 25)).alloc (.cells #[.int .i64 cd, .int .i64 k] 32)) := (balloc _ _).alloc (by simp) _
  have hsV : ((w1.alloc (.cells #[.slice ca cl cc, .slice ra rl rc] 25)).alloc (.cells #[.int .i64 cd, .int .i64 k] 32)).heap.size = w1.heap.size + 1 + 1 := by simp
  generalize (w1.alloc (.cells #[.slice ca cl cc, .slice ra rl rc] 25)).alloc (.cells #[.int .i64 cd, .int .i64 k] 32) = V at *
  have key := rparse_any l HLL.out V
  rw [HCD.out, HAT.out] at key
  refine key.mono ?_
  rintro e w2 ⟨da, dl, dc, sa, sl, sc, rfl, ⟨hd, hdl⟩, ⟨hs, hsl⟩, hb2⟩
  clear key
  have hdl' : dl = cl := by have := hd.1; have := HC.out.1; omega
  have hsl' : sl = rl := by have := hs.1; have := HR.out.1; omega
  subst hdl' hsl'
  have HD : Hid (Ints w2 da dl (progR l).costs) := hd
  have HS : Hid (RowsAt w2 sa sl (progR l).rows) := hs
  have c0 := carry hb2 k0
  have c1 := carry hb2 k1
  have c2 := carry hb2 k2
  have c3 := carry hb2 k3
  have hb12 : Below w1.heap.size w1 w2 := bstep hbV hb2
  have hs2 : w1.heap.size + 1 < w2.heap.size := by have := hb2.size; omega
  have hs3 : w1.heap.size < w2.heap.size := by omega
  clear hd hs k0 k1 k2 k3
  have hcd : (cd == cd) = true := by simp
  have hkk : (k == k) = true := by simp
  go_wp2_with fail
  have hb3 : Below w2.heap.size w2 ((w2.alloc (.cells #[.slice da dl dc, .slice sa sl sc] 25)).alloc (.cells #[.int .i64 cd, .int .i64 k] 32)) := (balloc _ _).alloc (by simp) _
  have hb13 := bstep hb12 hb3
  refine (sameP_yes ca dl cc ra sl rc da dc sa sc (progR l) _ (HC.out.below hb13 (Nat.le_refl _)) (by omega) (HR.out.below hb13 (Nat.le_refl _)) (by omega) (HD.out.below hb3 (Nat.le_refl _)) (HS.out.below hb3 (Nat.le_refl _))).mono ?_
  rintro e w4 ⟨rfl, hb4⟩
  have hB4 := bstep (bstep hb1 hb13) hb4
  clear hb4 hb3 hb13 c0 c1 c2 c3
  go_wp2_with fail
  go_ret
  exact ⟨rfl, hB4⟩

end Go.Proofs.YtipcbhodlgoflabDoor
