/- What walk.Falls does. -/
import Derived.Test.YtjlkegchkngliaaWlkW2
import Derived.Test.YtjlkegchkngliaaZeroC
namespace Go.Proofs.Ytjlkegchkngliaa
open Go.RowKit

set_option maxHeartbeats 3200000 in
theorem falls_any (ca : Option Addr) (cl cc : Nat) (ra : Option Addr) (rl rc : Nat) (p : Num.Lp) (w : World) (hc : Ints w ca cl p.costs) (hr : RowsAt w ra rl p.rows) (hm : p.may = true)
    (aa : Option Addr) (al ac : Nat) (at' : List Int) (ha : Ints w aa al at') (hg : Num.Good p at' rl cl) (s : Nat) (hs : s < cl + rl) :
    Calls Try.prog 79 #[.agg #[.slice ca cl cc, .slice ra rl rc], .slice aa al ac, .int .i64 s] w fun e w' => ∃ xa xc, e = .returned (.agg #[.slice xa (cl + rl) xc, .int .i64 (Num.look (Num.askP p s) at').xd]) ∧ Ints w' xa (cl + rl) (Num.look (Num.askP p s) at').x ∧ Below w.heap.size w w' := by
  have HC : Hid (Ints w ca cl p.costs) := hc
  have HR : Hid (RowsAt w ra rl p.rows) := hr
  have HA : Hid (Ints w aa al at') := ha
  have HM : Hid (p.may = true) := hm
  have hc4 : cl ≤ 4 ∧ 1 ≤ cl := by have := hc.1; have := (p.may_of hm).1; omega
  have hr4 : rl ≤ 4 ∧ 1 ≤ rl := by have := hr.1; have := (p.may_of hm).2.2.1; omega
  have hal4 : al ≤ 4 := by have := ha.1; have := (Num.right_all at' rl _ hg.right).1; omega
  have HLX : Hid ((Num.look (Num.askP p s) at').x.length = cl + rl) := (Num.ask_parts p at' rl cl s hm hr.1 hc.1 hg).2.1
  have HBV : Hid (∀ w', Below ((w.alloc (.cells #[.slice ca cl cc, .slice ra rl rc] 40)).alloc (.cells #[.slice none 0 0, .int .i64 0] 29)).heap.size ((w.alloc (.cells #[.slice ca cl cc, .slice ra rl rc] 40)).alloc (.cells #[.slice none 0 0, .int .i64 0] 29)) w' → Below w.heap.size w w') := fun w' h => binto (binto h)
  clear hc hr ha hm hg
  generalize hV : ((w.alloc (.cells #[.slice ca cl cc, .slice ra rl rc] 40)).alloc (.cells #[.slice none 0 0, .int .i64 0] 29)) = V at HBV
  have hZ : ZP (w.heap.size + 1) V := by subst hV; have := ZP.new (w.alloc (.cells #[.slice ca cl cc, .slice ra rl rc] 40)); rwa [World.size_alloc] at this
  have q0 : ∀ w', Below V.heap.size V w' → w'.cell? ⟨w.heap.size, 0, none⟩ = some (.slice ca cl cc) := fun w' h => by subst hV; exact carry h (carry (balloc _ _) (cell_new2 rfl _ _ _).1)
  have q1 : ∀ w', Below V.heap.size V w' → w'.cell? ⟨w.heap.size, 1, none⟩ = some (.slice ra rl rc) := fun w' h => by subst hV; exact carry h (carry (balloc _ _) (cell_new2 rfl _ _ _).2)
  have KC : Hid (∀ w', Below V.heap.size V w' → Calls Try.prog 88 #[.agg #[.slice ca cl cc, .slice ra rl rc], .int .i64 s] w' fun e w'' => ∃ g, e = .returned (.slice (some ⟨g, 0, none⟩) rl rl) ∧ Below V.heap.size V w'' ∧ Ints w'' (some ⟨g, 0, none⟩) rl (Num.colF p rl s) ∧ Below w'.heap.size w' w'') := by
    intro w' h
    refine (column_any _ _ _ _ _ _ p w' (RowsAt.below HR.out (HBV.out w' h) (Nat.le_refl _)) HM.out s (by omega)).mono ?_
    rintro e w'' ⟨g, rfl, _, hl, hb⟩
    exact ⟨g, rfl, bstep h hb, hl, hb⟩
  have KA : Hid (∀ w' g, Below V.heap.size V w' → Ints w' (some ⟨g, 0, none⟩) rl (Num.colF p rl s) → Calls Try.prog 101 #[.agg #[.slice ca cl cc, .slice ra rl rc], .slice (some ⟨g, 0, none⟩) rl rl] w' fun e w'' => ∃ g2, e = .returned (.agg #[.slice ca cl cc, .slice (some ⟨g2, 0, none⟩) rl rl]) ∧ Below V.heap.size V w'' ∧ RowsAt w'' (some ⟨g2, 0, none⟩) rl (Num.askP p s).rows ∧ Below w'.heap.size w' w'') := by
    intro w' g h hi
    refine (asking_any _ _ _ _ _ _ p w' (RowsAt.below HR.out (HBV.out w' h) (Nat.le_refl _)) HM.out s _ _ hi).mono ?_
    rintro e w'' ⟨g2, rfl, hl, hb⟩
    exact ⟨g2, rfl, bstep h hb, hl, hb⟩
  have KL : Hid (∀ w' g, Below V.heap.size V w' → RowsAt w' (some ⟨g, 0, none⟩) rl (Num.askP p s).rows → Calls Try.prog 30 #[.agg #[.slice ca cl cc, .slice (some ⟨g, 0, none⟩) rl rl], .slice aa al ac] w' fun e w'' => ∃ xa xc ya yl yc ga gl gc dy dg er, e = .returned (.tuple #[.agg #[.slice xa (cl + rl) xc, .int .i64 (Num.look (Num.askP p s) at').xd, .slice ya yl yc, .int .i64 dy, .slice ga gl gc, .int .i64 dg], .int .i64 er]) ∧ Below V.heap.size V w'' ∧ Ints w'' xa (cl + rl) (Num.look (Num.askP p s) at').x ∧ Below w'.heap.size w' w'') := by
    intro w' g h hi
    refine (look_any _ _ _ _ _ _ (Num.askP p s) w' (Ints.below HC.out (HBV.out w' h) (Nat.le_refl _)) (by omega) hi (by omega) _ _ _ at' (Ints.below HA.out (HBV.out w' h) (Nat.le_refl _)) (by omega)).mono ?_
    rintro e w'' ⟨xa, xl, xc, ya, yl, yc, ga, gl, gc, rfl, hx, _, _, _, _, _, hb⟩
    have hxl : xl = cl + rl := by have := hx.1; have := HLX.out; omega
    subst hxl
    exact ⟨xa, xc, ya, yl, yc, ga, gl, gc, _, _, _, rfl, bstep h hb, hx, hb⟩
  have hS0 : Below V.heap.size V V.drew := (Below.refl _ _).drew
  generalize Num.look (Num.askP p s) at' = L at *
  obtain ⟨er, lx, dx, ly, dy, lg, dg⟩ := L
  dsimp only at *
  go_enter Try.func79, Try.ntmps79
  go_wp2_with fail
  clear hV
  go_region_held3 (fun w' => Below V.heap.size V w') (first | (with_reducible assumption) | (with_reducible exact (Below.refl _ _).drew) | (with_reducible exact ((Below.refl _ _).alloc (Nat.le_refl _) _).drew) | (with_reducible refine Below.alloc ?_ ?_ _ <;> first | (with_reducible assumption) | (apply Below.size; with_reducible assumption)) | (with_reducible refine set6 ?_ ?_ _ _ _ _ _ _ <;> first | (with_reducible assumption) | (with_reducible exact Nat.le_refl _) | (apply Below.size; with_reducible assumption)))
    (first | (go_at_call 88; refine (KC.out _ ?_).mono ?_; assumption; rintro e v1 ⟨g1, rfl, hb1, hI1, hk1⟩; (first | (with_reducible have hz2 := zeroC hk1) | (with_reducible have hz2 := zeroCd hk1) | skip))
           | (go_at_call 101; (first | (with_reducible refine (KA.out _ _ ?_ hI1).mono ?_) | (with_reducible refine (KA.out _ _ ?_ (Ints.below hI1 (balloc _ _) (Nat.le_refl _))).mono ?_)); assumption; rintro e v2 ⟨g2, rfl, hb2, hI2, hk2⟩; (first | (with_reducible have hz2 := ZC.step hz2 hk2) | (with_reducible have hz2 := zeroC hk2) | (with_reducible have hz2 := zeroCd hk2) | skip))
           | (go_at_call 30; (first | (with_reducible refine (KL.out _ _ ?_ hI2).mono ?_) | (with_reducible refine (KL.out _ _ ?_ (RowsAt.below hI2 (balloc _ _) (Nat.le_refl _))).mono ?_)); assumption; rintro e v3 ⟨xa, xc, ya, yl, yc, ga, gl, gc, uy, ug, ur, rfl, hb3, hI3, hk3⟩; (first | (with_reducible have hz2 := ZC.step hz2 hk3) | (with_reducible have hz2 := zeroC hk3) | (with_reducible have hz2 := zeroCd hk3) | skip)))
  · rename_i hfin
    clear KC KA KL q0 q1
    have hsx := Six.new v3 (.slice xa (cl + rl) xc) (.int .i64 dx) (.slice ya yl yc) (.int .i64 uy) (.slice ga gl gc) (.int .i64 ug) 47
    have HIX : Hid (Ints (v3.alloc (.cells #[.slice xa (cl + rl) xc, .int .i64 dx, .slice ya yl yc, .int .i64 uy, .slice ga gl gc, .int .i64 ug] 47)) xa (cl + rl) lx) := Ints.below hI3 (balloc _ _) (Nat.le_refl _)
    have x0 := hsx.c0
    have x1 := hsx.c1
    clear hsx
    generalize v3.alloc (.cells #[.slice xa (cl + rl) xc, .int .i64 dx, .slice ya yl yc, .int .i64 uy, .slice ga gl gc, .int .i64 ug] 47) = X at *
    generalize v3.heap.size = bx at *
    have hZX := hZ.step hfin
    have z0 := hZX.c0
    have z1 := hZX.c1
    have zf0 := hZX.f0
    have zf1 := hZX.f1
    have HZX : Hid (ZP (w.heap.size + 1) X) := hZX
    have HFIN : Hid (Below w.heap.size w X) := HBV.out _ hfin
    clear hZX hfin
    go_wp2_with fail
    generalize hY : (World.setCell X ⟨w.heap.size + 1, 0, none⟩ (.slice xa (cl + rl) xc)).setCell ⟨w.heap.size + 1, 1, none⟩ (.int .i64 dx) = Y
    obtain ⟨hIY, y0, y1⟩ := ZP.fill HZX.out HIX.out (by omega) _ _ Y hY.symm
    refine bodyPost_ret (v := .agg #[.slice xa (cl + rl) xc, .int .i64 dx]) (by simp [results, Try.results79, go_sem, y0, y1]) rfl ⟨xa, xc, rfl, hIY, ?_⟩
    rw [← hY]
    exact bset (bset HFIN.out (Nat.le_succ _) _) (Nat.le_succ _) _
  · rename_i hfin
    clear KC KA KL q0 q1
    generalize hX : (((((v3.setCell ⟨v2.heap.size, 0, none⟩ (.slice xa (cl + rl) xc)).setCell ⟨v2.heap.size, 1, none⟩ (.int .i64 dx)).setCell ⟨v2.heap.size, 2, none⟩ (.slice ya yl yc)).setCell ⟨v2.heap.size, 3, none⟩ (.int .i64 uy)).setCell ⟨v2.heap.size, 4, none⟩ (.slice ga gl gc)).setCell ⟨v2.heap.size, 5, none⟩ (.int .i64 ug) = X at *
    have HIX : Hid (Ints X xa (cl + rl) lx) := by rw [← hX]; exact ZC.kept hz2 hI3 (by omega) _ _ _ _ _ _
    obtain ⟨_, ⟨c0, c1, c2, c3, c4, c5⟩, _⟩ := hz2
    obtain ⟨x0, x1, x2, x3, x4, x5⟩ := six_set' c0 c1 c2 c3 c4 c5 _ _ _ _ _ _ X hX.symm
    clear hX c0 c1 c2 c3 c4 c5
    have hZX := hZ.step hfin
    have z0 := hZX.c0
    have z1 := hZX.c1
    have zf0 := hZX.f0
    have zf1 := hZX.f1
    have HZX : Hid (ZP (w.heap.size + 1) X) := hZX
    have HFIN : Hid (Below w.heap.size w X) := HBV.out _ hfin
    clear hZX hfin
    go_wp2_with fail
    generalize hY : (World.setCell X ⟨w.heap.size + 1, 0, none⟩ (.slice xa (cl + rl) xc)).setCell ⟨w.heap.size + 1, 1, none⟩ (.int .i64 dx) = Y
    obtain ⟨hIY, y0, y1⟩ := ZP.fill HZX.out HIX.out (by omega) _ _ Y hY.symm
    refine bodyPost_ret (v := .agg #[.slice xa (cl + rl) xc, .int .i64 dx]) (by simp [results, Try.results79, go_sem, y0, y1]) rfl ⟨xa, xc, rfl, hIY, ?_⟩
    rw [← hY]
    exact bset (bset HFIN.out (Nat.le_succ _) _) (Nat.le_succ _) _
  · rename_i hfin
    clear KC KA KL q0 q1
    generalize hX : (((((v3.setCell ⟨v1.heap.size, 0, none⟩ (.slice xa (cl + rl) xc)).setCell ⟨v1.heap.size, 1, none⟩ (.int .i64 dx)).setCell ⟨v1.heap.size, 2, none⟩ (.slice ya yl yc)).setCell ⟨v1.heap.size, 3, none⟩ (.int .i64 uy)).setCell ⟨v1.heap.size, 4, none⟩ (.slice ga gl gc)).setCell ⟨v1.heap.size, 5, none⟩ (.int .i64 ug) = X at *
    have HIX : Hid (Ints X xa (cl + rl) lx) := by rw [← hX]; exact ZC.kept hz2 hI3 (by omega) _ _ _ _ _ _
    obtain ⟨_, ⟨c0, c1, c2, c3, c4, c5⟩, _⟩ := hz2
    obtain ⟨x0, x1, x2, x3, x4, x5⟩ := six_set' c0 c1 c2 c3 c4 c5 _ _ _ _ _ _ X hX.symm
    clear hX c0 c1 c2 c3 c4 c5
    have hZX := hZ.step hfin
    have z0 := hZX.c0
    have z1 := hZX.c1
    have zf0 := hZX.f0
    have zf1 := hZX.f1
    have HZX : Hid (ZP (w.heap.size + 1) X) := hZX
    have HFIN : Hid (Below w.heap.size w X) := HBV.out _ hfin
    clear hZX hfin
    go_wp2_with fail
    generalize hY : (World.setCell X ⟨w.heap.size + 1, 0, none⟩ (.slice xa (cl + rl) xc)).setCell ⟨w.heap.size + 1, 1, none⟩ (.int .i64 dx) = Y
    obtain ⟨hIY, y0, y1⟩ := ZP.fill HZX.out HIX.out (by omega) _ _ Y hY.symm
    refine bodyPost_ret (v := .agg #[.slice xa (cl + rl) xc, .int .i64 dx]) (by simp [results, Try.results79, go_sem, y0, y1]) rfl ⟨xa, xc, rfl, hIY, ?_⟩
    rw [← hY]
    exact bset (bset HFIN.out (Nat.le_succ _) _) (Nat.le_succ _) _
  · rename_i hfin
    clear KC KA KL q0 q1
    generalize hX : (((((v3.setCell ⟨V.heap.size, 0, none⟩ (.slice xa (cl + rl) xc)).setCell ⟨V.heap.size, 1, none⟩ (.int .i64 dx)).setCell ⟨V.heap.size, 2, none⟩ (.slice ya yl yc)).setCell ⟨V.heap.size, 3, none⟩ (.int .i64 uy)).setCell ⟨V.heap.size, 4, none⟩ (.slice ga gl gc)).setCell ⟨V.heap.size, 5, none⟩ (.int .i64 ug) = X at *
    have HIX : Hid (Ints X xa (cl + rl) lx) := by rw [← hX]; exact ZC.kept hz2 hI3 (by omega) _ _ _ _ _ _
    obtain ⟨_, ⟨c0, c1, c2, c3, c4, c5⟩, _⟩ := hz2
    obtain ⟨x0, x1, x2, x3, x4, x5⟩ := six_set' c0 c1 c2 c3 c4 c5 _ _ _ _ _ _ X hX.symm
    clear hX c0 c1 c2 c3 c4 c5
    have hZX := hZ.step hfin
    have z0 := hZX.c0
    have z1 := hZX.c1
    have zf0 := hZX.f0
    have zf1 := hZX.f1
    have HZX : Hid (ZP (w.heap.size + 1) X) := hZX
    have HFIN : Hid (Below w.heap.size w X) := HBV.out _ hfin
    clear hZX hfin
    go_wp2_with fail
    generalize hY : (World.setCell X ⟨w.heap.size + 1, 0, none⟩ (.slice xa (cl + rl) xc)).setCell ⟨w.heap.size + 1, 1, none⟩ (.int .i64 dx) = Y
    obtain ⟨hIY, y0, y1⟩ := ZP.fill HZX.out HIX.out (by omega) _ _ Y hY.symm
    refine bodyPost_ret (v := .agg #[.slice xa (cl + rl) xc, .int .i64 dx]) (by simp [results, Try.results79, go_sem, y0, y1]) rfl ⟨xa, xc, rfl, hIY, ?_⟩
    rw [← hY]
    exact bset (bset HFIN.out (Nat.le_succ _) _) (Nat.le_succ _) _

end Go.Proofs.Ytjlkegchkngliaa
