/- What corner.Look does, in one contract. -/
import Derived.Test.YtjlkegchkngliaaCornW10
namespace Go.Proofs.Ytjlkegchkngliaa
open Go.RowKit

theorem Ints.empty (w : World) : Ints w none 0 [] := ⟨rfl, Or.inl rfl⟩

theorem look_new (ca : Option Addr) (cl cc : Nat) (ra : Option Addr) (rl rc : Nat) (p : Num.Lp) (w : World) (hc : Ints w ca cl p.costs) (hcl : cl ≤ 9223372036854775807) (hr : RowsAt w ra rl p.rows) (hrl : rl ≤ 9223372036854775807)
    (aa : Option Addr) (al ac : Nat) (at' : List Int) (ha : Ints w aa al at') (hal : al ≤ 9223372036854775807) :
    Calls Try.prog 30 #[.agg #[.slice ca cl cc, .slice ra rl rc], .slice aa al ac] w fun e w' => ∃ xa xl xc ya yl yc ga gl gc, e = .returned (.tuple #[.agg #[.slice xa xl xc, .int .i64 (Num.look p at').xd, .slice ya yl yc, .int .i64 (Num.look p at').yd, .slice ga gl gc, .int .i64 (Num.look p at').gd], .int .i64 (Num.look p at').err]) ∧
      Ints w' xa xl (Num.look p at').x ∧ Ints w' ya yl (Num.look p at').y ∧ Ints w' ga gl (Num.look p at').g ∧ xl ≤ 8 ∧ yl ≤ 8 ∧ gl ≤ 8 ∧ Below w.heap.size w w' ∧ (xl ≤ xc ∧ yl ≤ yc ∧ gl ≤ gc) ∧ Newly w.heap.size w' xa xl ya yl ga gl := by
  cases hm : p.may with
  | false =>
    have e0 : Num.look p at' = Num.noLook 2 := by unfold Num.look; rw [if_pos hm]
    rw [e0]
    refine (look_form ca cl cc ra rl rc p w hc hcl hr hrl aa al ac at' ha hal hm).mono fun e w' ⟨he, hb⟩ => ?_
    exact ⟨none, 0, 0, none, 0, 0, none, 0, 0, he, Ints.empty _, Ints.empty _, Ints.empty _, by omega, by omega, by omega, hb, by omega, Newly.nil _ _⟩
  | true =>
    have hN8 : cl + rl ≤ 8 := by have := hc.1; have := hr.1; have := (p.may_of hm).1.2; have := (p.may_of hm).2.2.1.2; omega
    have e1 : rl = p.rows.length := hr.1
    have e2 : cl = p.costs.length := hc.1
    cases hri : Num.rightB at' rl (cl + rl) with
    | false =>
      have e0 : Num.look p at' = Num.noLook 3 := by unfold Num.look; rw [if_neg (by simp [hm]), if_pos (by rw [← e1, ← e2]; exact hri)]
      rw [e0]
      refine (look_range ca cl cc ra rl rc p w hc hcl hr hrl aa al ac at' ha hal hm (cl + rl) rfl hN8 hri).mono fun e w' ⟨he, hb⟩ => ?_
      exact ⟨none, 0, 0, none, 0, 0, none, 0, 0, he, Ints.empty _, Ints.empty _, Ints.empty _, by omega, by omega, by omega, hb, by omega, Newly.nil _ _⟩
    | true =>
      by_cases hd : Num.denL p at' rl = 0
      · have e0 : Num.look p at' = Num.noLook 4 := by unfold Num.look; rw [if_neg (by simp [hm]), if_neg (by rw [← e1, ← e2, hri]; decide), if_pos (by rw [← e1]; exact hd)]
        rw [e0]
        refine (look_none ca cl cc ra rl rc p w hc hcl hr hrl aa al ac at' ha hal hm (cl + rl) rfl hN8 hri hd).mono fun e w' ⟨he, hb⟩ => ?_
        exact ⟨none, 0, 0, none, 0, 0, none, 0, 0, he, Ints.empty _, Ints.empty _, Ints.empty _, by omega, by omega, by omega, hb, by omega, Newly.nil _ _⟩
      · have e0 : Num.look p at' = ⟨0, (Num.pt (Num.xL p at' rl (cl + rl)) (Num.denL p at' rl)).1, (Num.pt (Num.xL p at' rl (cl + rl)) (Num.denL p at' rl)).2.1, (Num.pt (Num.priceL p at' rl) (Num.denL p at' rl)).1, (Num.pt (Num.priceL p at' rl) (Num.denL p at' rl)).2.1,
            (Num.pt (Num.gainL p at' rl (cl + rl)) (Num.denL p at' rl)).1, (Num.pt (Num.gainL p at' rl (cl + rl)) (Num.denL p at' rl)).2.1⟩ := by
          unfold Num.look; rw [if_neg (by simp [hm]), if_neg (by rw [← e1, ← e2, hri]; decide), if_neg (by rw [← e1]; exact hd), ← e1, ← e2]
        rw [e0]
        exact look_ok ca cl cc ra rl rc p w hc hcl hr hrl aa al ac at' ha hal hm (cl + rl) rfl hN8 hri (by simpa using hd) _ _ _ _ _ _ (Num.pt (Num.xL p at' rl (cl + rl)) (Num.denL p at' rl)).2.2 (Num.pt (Num.priceL p at' rl) (Num.denL p at' rl)).2.2 (Num.pt (Num.gainL p at' rl (cl + rl)) (Num.denL p at' rl)).2.2 rfl rfl rfl

theorem look_cap (ca : Option Addr) (cl cc : Nat) (ra : Option Addr) (rl rc : Nat) (p : Num.Lp) (w : World) (hc : Ints w ca cl p.costs) (hcl : cl ≤ 9223372036854775807) (hr : RowsAt w ra rl p.rows) (hrl : rl ≤ 9223372036854775807)
    (aa : Option Addr) (al ac : Nat) (at' : List Int) (ha : Ints w aa al at') (hal : al ≤ 9223372036854775807) :
    Calls Try.prog 30 #[.agg #[.slice ca cl cc, .slice ra rl rc], .slice aa al ac] w fun e w' => ∃ xa xl xc ya yl yc ga gl gc, e = .returned (.tuple #[.agg #[.slice xa xl xc, .int .i64 (Num.look p at').xd, .slice ya yl yc, .int .i64 (Num.look p at').yd, .slice ga gl gc, .int .i64 (Num.look p at').gd], .int .i64 (Num.look p at').err]) ∧
      Ints w' xa xl (Num.look p at').x ∧ Ints w' ya yl (Num.look p at').y ∧ Ints w' ga gl (Num.look p at').g ∧ xl ≤ 8 ∧ yl ≤ 8 ∧ gl ≤ 8 ∧ Below w.heap.size w w' ∧ (xl ≤ xc ∧ yl ≤ yc ∧ gl ≤ gc) :=
  (look_new ca cl cc ra rl rc p w hc hcl hr hrl aa al ac at' ha hal).mono fun _ _ ⟨xa, xl, xc, ya, yl, yc, ga, gl, gc, h1, h2, h3, h4, h5, h6, h7, h8, h9, _⟩ => ⟨xa, xl, xc, ya, yl, yc, ga, gl, gc, h1, h2, h3, h4, h5, h6, h7, h8, h9⟩

theorem look_any (ca : Option Addr) (cl cc : Nat) (ra : Option Addr) (rl rc : Nat) (p : Num.Lp) (w : World) (hc : Ints w ca cl p.costs) (hcl : cl ≤ 9223372036854775807) (hr : RowsAt w ra rl p.rows) (hrl : rl ≤ 9223372036854775807)
    (aa : Option Addr) (al ac : Nat) (at' : List Int) (ha : Ints w aa al at') (hal : al ≤ 9223372036854775807) :
    Calls Try.prog 30 #[.agg #[.slice ca cl cc, .slice ra rl rc], .slice aa al ac] w fun e w' => ∃ xa xl xc ya yl yc ga gl gc, e = .returned (.tuple #[.agg #[.slice xa xl xc, .int .i64 (Num.look p at').xd, .slice ya yl yc, .int .i64 (Num.look p at').yd, .slice ga gl gc, .int .i64 (Num.look p at').gd], .int .i64 (Num.look p at').err]) ∧
      Ints w' xa xl (Num.look p at').x ∧ Ints w' ya yl (Num.look p at').y ∧ Ints w' ga gl (Num.look p at').g ∧ xl ≤ 8 ∧ yl ≤ 8 ∧ gl ≤ 8 ∧ Below w.heap.size w w' :=
  (look_cap ca cl cc ra rl rc p w hc hcl hr hrl aa al ac at' ha hal).mono fun _ _ ⟨xa, xl, xc, ya, yl, yc, ga, gl, gc, h1, h2, h3, h4, h5, h6, h7, h8, _⟩ => ⟨xa, xl, xc, ya, yl, yc, ga, gl, gc, h1, h2, h3, h4, h5, h6, h7, h8⟩

theorem Num.look_form (p : Num.Lp) (at' : List Int) (hm : p.may = false) : Num.look p at' = Num.noLook 2 := by unfold Num.look; rw [if_pos hm]
theorem Num.look_range (p : Num.Lp) (at' : List Int) (hm : p.may = true) (hr : Num.rightB at' p.rows.length (p.costs.length + p.rows.length) = false) : Num.look p at' = Num.noLook 3 := by unfold Num.look; rw [if_neg (by simp [hm]), if_pos hr]
theorem Num.look_none (p : Num.Lp) (at' : List Int) (hm : p.may = true) (hr : Num.rightB at' p.rows.length (p.costs.length + p.rows.length) = true) (hd : Num.denL p at' p.rows.length = 0) : Num.look p at' = Num.noLook 4 := by
  unfold Num.look; rw [if_neg (by simp [hm]), if_neg (by simp [hr]), if_pos hd]
theorem Num.look_some (p : Num.Lp) (at' : List Int) (hm : p.may = true) (hr : Num.rightB at' p.rows.length (p.costs.length + p.rows.length) = true) (hd : Num.denL p at' p.rows.length ≠ 0) (m N : Nat) (hM : m = p.rows.length) (hN : N = p.costs.length + p.rows.length) :
    Num.look p at' = ⟨0, (Num.pt (Num.xL p at' m N) (Num.denL p at' m)).1, (Num.pt (Num.xL p at' m N) (Num.denL p at' m)).2.1, (Num.pt (Num.priceL p at' m) (Num.denL p at' m)).1, (Num.pt (Num.priceL p at' m) (Num.denL p at' m)).2.1,
            (Num.pt (Num.gainL p at' m N) (Num.denL p at' m)).1, (Num.pt (Num.gainL p at' m N) (Num.denL p at' m)).2.1⟩ := by
  subst hM hN
  unfold Num.look; rw [if_neg (by simp [hm]), if_neg (by simp [hr]), if_neg hd]

end Go.Proofs.Ytjlkegchkngliaa
