/- The law TextBack, walked. -/
import Derived.Test.YtipcbhodlgoflabDoorTextPrintsW
import Derived.Test.YtipcbhodlgoflabDoorTxD
import Derived.Test.YtipcbhodlgoflabDoorTxS
namespace Go.Proofs.YtipcbhodlgoflabDoor
open Go.RowKit

set_option maxRecDepth 8000 in
set_option maxHeartbeats 800000 in
theorem textBack_walk (ca : Option Addr) (cl cc : Nat) (ra : Option Addr) (rl rc : Nat) (p : Num.Lp) (w : World) (hc : Ints w ca cl p.costs) (hcl : cl ≤ 9223372036854775807) (hr : RowsAt w ra rl p.rows) (hrl : rl ≤ 9223372036854775807) (hL : Laid w) :
    Calls Tryd.prog 5 #[.agg #[.slice ca cl cc, .slice ra rl rc]] w fun e w' => e = .returned (.bool true) ∧ Below w.heap.size w w' := by
  have HC : Hid (Ints w ca cl p.costs) := hc
  have HR : Hid (RowsAt w ra rl p.rows) := hr
  have HT : Hid (Laid w) := hL
  clear hc hr hL
  go_enter Tryd.func5, Tryd.ntmps5
  go_wp2_with fail
  have hbV : Below w.heap.size w (w.alloc (.cells #[.slice ca cl cc, .slice ra rl rc] 25)) := balloc _ _
  have k0 := (cell_new2 (w := w) rfl (.slice ca cl cc) (.slice ra rl rc) 25).1
  have k1 := (cell_new2 (w := w) rfl (.slice ca cl cc) (.slice ra rl rc) 25).2
  have hsV : (w.alloc (.cells #[.slice ca cl cc, .slice ra rl rc] 25)).heap.size = w.heap.size + 1 := by simp
  generalize w.alloc (.cells #[.slice ca cl cc, .slice ra rl rc] 25) = V at *
  refine (print_any ca cl cc ra rl rc p V (HC.out.below hbV (Nat.le_refl _)) hcl (HR.out.below hbV (Nat.le_refl _)) hrl (tab_later HT.out.tab hbV)).mono ?_
  rintro e w1 ⟨rfl, hb1⟩
  have c0 := carry hb1 k0
  have c1 := carry hb1 k1
  have hB1 : Below w.heap.size w w1 := hbV.trans (hb1.mono (by omega))
  generalize hcd : codeP p = cd
  generalize htx : textP p = tx
  have HCD : Hid (codeP p = cd) := hcd
  have HTX : Hid (textP p = tx) := htx
  clear k0 k1 hcd htx
  cases hm : p.may with
  | false =>
    have e1 : cd = 2 := by rw [← HCD.out, codeP, hm]; rfl
    have e2 : tx = [] := by rw [← HTX.out, textP, hm]; rfl
    subst e1 e2
    have hq : (B8 []).toList.isEmpty = true := by rw [B8_toList]; rfl
    generalize B8 [] = S at hq
    clear hm
    go_wp2_with fail
    go_ret
    exact ⟨rfl, hB1⟩
  | true =>
    have e1 : cd = 0 := by rw [← HCD.out, codeP, hm]; rfl
    have e2 : tx = Num.textW p := by rw [← HTX.out, textP, hm]; rfl
    have HM : Hid (p.may = true) := hm
    have HRD : Hid (Num.readW (Num.textW p) = .ok p) := Num.text_back p hm
    have HLN : Hid ((Num.textW p).length ≤ 600) := by
      show _ ≤ _
      have h1 := upTo_len p hm p.rows.length (Nat.le_refl _)
      have h2 := (p.may_of hm).2.2.1
      rw [upTo_all] at h1
      omega
    have hq : (B8 (Num.textW p)).toList.isEmpty = false := by
      rw [B8_toList, Num.text_lines, Num.join_head]
      rfl
    have HPR : Hid (codeR (Num.textW p) = 0 ∧ atR (Num.textW p) = 0 ∧ progR (Num.textW p) = p) := by
      show _ ∧ _
      unfold codeR atR progR
      rw [HRD.out]
      exact ⟨rfl, rfl, rfl⟩
    have HPC : Hid (∀ W, Laid W → Calls Tryd.prog 10 #[.string (B8 (Num.textW p))] W fun e w' => ∃ ca cl cc ra rl rc, e = .returned (.tuple #[.agg #[.slice ca cl cc, .slice ra rl rc], .agg #[.int .i64 0, .int .i64 0]]) ∧ (Ints w' ca cl p.costs ∧ cl ≤ 2000001) ∧ (RowsAt w' ra rl p.rows ∧ rl ≤ 5) ∧ Below W.heap.size W w') := by
      intro W hW
      have := parseT_any (Num.textW p) (by have := HLN.out; omega) W hW
      rw [HPR.out.1, HPR.out.2.1, HPR.out.2.2] at this
      exact this
    subst e1 e2
    generalize B8 (Num.textW p) = S at hq HPC
    clear hm
    go_wp2_with fail
    refine (HPC.out w1 (HT.out.later hB1)).mono ?_
    rintro e w2 ⟨da, dl, dc, sa, sl, sc, rfl, ⟨hd, hdl⟩, ⟨hs, hsl⟩, hb2⟩
    have d0 := carry hb2 c0
    have d1 := carry hb2 c1
    have hB2 : Below w.heap.size w w2 := bstep hB1 hb2
    have hdl' : dl = cl := by have := hd.1; have := HC.out.1; omega
    have hsl' : sl = rl := by have := hs.1; have := HR.out.1; omega
    subst hdl' hsl'
    have HD : Hid (Ints w2 da dl p.costs) := hd
    have HS : Hid (RowsAt w2 sa sl p.rows) := hs
    have hz2 : w.heap.size < w2.heap.size := by have := hb1.size; have := hb2.size; omega
    clear hd hs hb2 c0 c1 hb1 HPC
    go_wp2_with fail
    have hb3 : Below w2.heap.size w2 ((w2.alloc (.cells #[.slice da dl dc, .slice sa sl sc] 25)).alloc (.cells #[.int .i64 0, .int .i64 0] 32)) := (balloc _ _).alloc (by simp) _
    have hB3 := bstep hB2 hb3
    refine (sameP_yes ca dl cc ra sl rc da dc sa sc p _ (HC.out.below hB3 (Nat.le_refl _)) hcl (HR.out.below hB3 (Nat.le_refl _)) hrl (HD.out.below hb3 (Nat.le_refl _)) (HS.out.below hb3 (Nat.le_refl _))).mono ?_
    rintro e w4 ⟨rfl, hb4⟩
    have hB4 := bstep hB3 hb4
    clear hb4 hb3 hB3 d0 d1
    go_wp2_with fail
    go_ret
    exact ⟨rfl, hB4⟩

end Go.Proofs.YtipcbhodlgoflabDoor
