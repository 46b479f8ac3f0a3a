/- The law TextAgain, walked. -/
import Derived.Test.YtipcbhodlgoflabDoorTextPrintsW
import Derived.Test.YtipcbhodlgoflabDoorTxD
namespace Go.Proofs.YtipcbhodlgoflabDoor
open Go.RowKit

/-- The text that the law reads first. -/
def knownT : List UInt8 := [109, 111, 115, 116, 32, 49, 10, 50, 32, 60, 61, 32, 51, 10]

theorem known_read : Num.readW knownT = .ok ⟨[1], [([2], 3)]⟩ := by rfl

theorem prog_code (l : List UInt8) : (codeR l = 2 ∧ progR l = ⟨[], []⟩) ∨ (codeR l = 0 ∧ (progR l).may = true ∧ Num.textW (progR l) = l) := by
  cases h : Num.readW l with
  | ok p =>
    refine Or.inr ?_
    have := Num.text_again l p h
    unfold codeR progR
    rw [h]
    exact ⟨rfl, this.1, this.2⟩
  | error k =>
    refine Or.inl ?_
    unfold codeR progR
    rw [h]
    exact ⟨rfl, rfl⟩

set_option maxRecDepth 8000 in
set_option maxHeartbeats 800000 in
theorem textAgain_walk (l : List UInt8) (hl : l.length < 4294967280) (w : World) (hL : Laid w) :
    Calls Tryd.prog 6 #[.string (B8 l)] w fun e w' => e = .returned (.bool true) ∧ Below w.heap.size w w' := by
  have HT : Hid (Laid w) := hL
  have HLL : Hid (l.length < 4294967280) := hl
  have HK : Hid (∀ W, Laid W → Calls Tryd.prog 10 #[.string (B8 knownT)] W fun e w' => ∃ ca cl cc ra rc, e = .returned (.tuple #[.agg #[.slice ca cl cc, .slice ra 1 rc], .agg #[.int .i64 0, .int .i64 0]]) ∧ Below W.heap.size W w') := by
    intro W hW
    have := parseT_any knownT (by decide) W hW
    have e1 : codeR knownT = 0 := by unfold codeR; rw [known_read]
    have e2 : atR knownT = 0 := by unfold atR; rw [known_read]
    have e3 : progR knownT = ⟨[1], [([2], 3)]⟩ := by unfold progR; rw [known_read]
    rw [e1, e2, e3] at this
    refine this.mono ?_
    rintro e w' ⟨ca, cl, cc, ra, rl, rc, rfl, _, ⟨hr, _⟩, hb⟩
    have h1 : rl = 1 := hr.1
    subst h1
    exact ⟨ca, cl, cc, ra, rc, rfl, hb⟩
  clear hL hl
  go_enter Tryd.func6, Tryd.ntmps6
  go_wp2_with fail
  refine (HK.out w HT.out).mono ?_
  rintro e w1 ⟨xa, xl, xc, ya, yc, rfl, hb1⟩
  clear HK
  go_wp2_with fail
  have hbV : Below w1.heap.size w1 ((w1.alloc (.cells #[.slice xa xl xc, .slice ya 1 yc] 25)).alloc (.cells #[.int .i64 0, .int .i64 0] 32)) := (balloc _ _).alloc (by simp) _
  have hB1 := bstep hb1 hbV
  generalize (w1.alloc (.cells #[.slice xa xl xc, .slice ya 1 yc] 25)).alloc (.cells #[.int .i64 0, .int .i64 0] 32) = V at *
  refine (parseT_any l HLL.out V (HT.out.later hB1)).mono ?_
  rintro e w2 ⟨ca, cl, cc, ra, rl, rc, rfl, ⟨hc, hcl⟩, ⟨hr, hrl⟩, hb2⟩
  have hB2 := bstep hB1 hb2
  have HC : Hid (Ints w2 ca cl (progR l).costs) := hc
  have HR : Hid (RowsAt w2 ra rl (progR l).rows) := hr
  have hcl' : cl = (progR l).costs.length := hc.1
  have hrl' : rl = (progR l).rows.length := hr.1
  generalize hat : atR l = k
  clear hc hr hb1 hb2 hbV hat
  rcases prog_code l with ⟨h1, h2⟩ | ⟨h1, h2, h3⟩
  · rw [h1]
    rw [h2] at hcl' hrl'
    have hc0 : cl = 0 := hcl'
    have hr0 : rl = 0 := hrl'
    subst hc0 hr0
    clear h1 h2 hcl' hrl'
    go_wp2_with fail
    go_ret
    exact ⟨rfl, (hB2.alloc hB2.size _).alloc (by have := hB2.size; simp; omega) _⟩
  · rw [h1]
    have HM : Hid ((progR l).may = true) := h2
    have E : Hid (Num.textW (progR l) = l) := h3
    clear h1 h2 h3 hcl' hrl'
    go_wp2_with fail
    have hb3 : Below w2.heap.size w2 ((w2.alloc (.cells #[.slice ca cl cc, .slice ra rl rc] 25)).alloc (.cells #[.int .i64 0, .int .i64 k] 32)) := (balloc _ _).alloc (by simp) _
    have hB3 := bstep hB2 hb3
    generalize (w2.alloc (.cells #[.slice ca cl cc, .slice ra rl rc] 25)).alloc (.cells #[.int .i64 0, .int .i64 k] 32) = V2 at *
    refine (print_may ca cl cc ra rl rc (progR l) V2 (HC.out.below hb3 (Nat.le_refl _)) (by omega) (HR.out.below hb3 (Nat.le_refl _)) (by omega) HM.out (tab_later HT.out.tab hB3)).mono ?_
    rintro e w4 ⟨rfl, hb4⟩
    have hB4 := bstep hB3 hb4
    rw [E.out]
    have hq := eq_B8 l l
    rw [decide_eq_true rfl] at hq
    generalize B8 l = S at hq
    clear hb4 hb3 hB3
    go_wp2_with fail
    go_ret
    exact ⟨rfl, hB4⟩

end Go.Proofs.YtipcbhodlgoflabDoor
