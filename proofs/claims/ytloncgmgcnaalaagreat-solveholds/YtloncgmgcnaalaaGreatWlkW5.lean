/- What walk.Walk does. -/
import Derived.Test.YtloncgmgcnaalaaGreatWlkW4
import Derived.Test.YtloncgmgcnaalaaGreatLinesO
namespace Go.Proofs.YtloncgmgcnaalaaGreat
open Go.RowKit

theorem Num.next_may (p : Num.Lp) (at' : List Int) (h : (Num.nextN p at').2.2 = 0) : p.may = true := by
  cases hm : p.may with
  | true => rfl
  | false =>
    rw [Num.next_err p at' 2 (by rw [Num.look_form p at' hm]; rfl) (by omega)] at h
    simp at h

/-- What a walk answers. -/
def Num.Walked (p : Num.Lp) (at' : List Int) (l : List (List Int)) (kind err : Int) : Prop :=
  (err ≠ 0 ∧ kind = 0 ∧ l = [] ∧ Num.nextN p at' = ([], 0, err)) ∨ (err = 0 ∧ p.may = true ∧ Num.IsWalk p at' l kind)

/-- A round of a walk: what Next answers, in plain words. -/
theorem Num.round (p : Num.Lp) (at' : List Int) (l : List (List Int)) (now : List Int) (h : Num.Path p at' l now) (hm : l = [] ∨ p.may = true) :
    (∃ e, e ≠ 0 ∧ Num.nextN p now = ([], 0, e) ∧ Num.Walked p at' [] 0 e) ∨
    (∃ k, k ≠ 0 ∧ Num.nextN p now = ([], k, 0) ∧ p.may = true ∧ Num.Good p now p.rows.length p.costs.length ∧ l.length < 4096 ∧ Num.Walked p at' (l ++ [now]) k 0) ∨
    (∃ nx, Num.nextN p now = (nx, 0, 0) ∧ nx.length = p.rows.length ∧ p.may = true ∧ Num.Good p now p.rows.length p.costs.length ∧ l.length < 4096 ∧ Num.Path p at' (l ++ [now]) nx) := by
  by_cases he : (Num.nextN p now).2.2 = 0
  · have hmay := Num.next_may p now he
    have hs := Num.path_short p.rows.length p.costs.length hmay rfl rfl h
    rcases Num.next_cases p now p.rows.length p.costs.length hmay rfl rfl with ⟨e, he', h1, _⟩ | ⟨hg, ⟨k, hk, _, h1⟩ | ⟨nx, s, k, h1, h2, h3, h4⟩⟩
    · rw [h1] at he; exact absurd he he'
    · exact Or.inr (Or.inl ⟨k, hk, h1, hmay, hg, hs, Or.inr ⟨rfl, hmay, h.ends h1 hk⟩⟩)
    · exact Or.inr (Or.inr ⟨nx, h1, h2, hmay, hg, hs, h.push h1⟩)
  · have hl : l = [] := by
      rcases hm with hm | hm
      · exact hm
      · by_cases hl : l = []
        · exact hl
        · have hg := Num.path_now p.rows.length p.costs.length hm rfl rfl h hl
          rcases Num.next_cases p now p.rows.length p.costs.length hm rfl rfl with ⟨e, _, _, hn⟩ | ⟨_, ⟨k, _, _, h1⟩ | ⟨nx, s, k, h1, _⟩⟩
          · exact absurd hg hn
          · rw [h1] at he; exact absurd rfl he
          · rw [h1] at he; exact absurd rfl he
    have hnow : now = at' := by
      have := h.1
      rw [hl] at this
      simpa using this
    subst hl hnow
    have hE : ∃ e, e ≠ 0 ∧ Num.nextN p now = ([], 0, e) := by
      unfold Num.nextN at he ⊢
      split
      · rename_i h0; exact ⟨_, h0, rfl⟩
      · rename_i h0
        rw [if_neg h0] at he
        split
        · exact ⟨3, by omega, rfl⟩
        · rename_i h1
          rw [if_neg h1] at he
          split at he
          · exact absurd rfl he
          · split at he
            · exact absurd rfl he
            · exact absurd rfl he
    obtain ⟨e, he0, hne⟩ := hE
    exact Or.inl ⟨e, he0, hne, Or.inl ⟨he0, rfl, rfl, hne⟩⟩

set_option maxRecDepth 4000 in
set_option maxHeartbeats 3200000 in
theorem walk_any (ca : Option Addr) (cl cc : Nat) (ra : Option Addr) (rl rc : Nat) (p : Num.Lp) (w : World) (hc : Ints w ca cl p.costs) (hcl : cl ≤ 9223372036854775807) (hr : RowsAt w ra rl p.rows) (hrl : rl ≤ 9223372036854775807)
    (aa : Option Addr) (al ac : Nat) (at' : List Int) (ha : Ints w aa al at') (hal : al ≤ 9223372036854775807) :
    Calls Tryz.prog 29 #[.agg #[.slice ca cl cc, .slice ra rl rc], .slice aa al ac] w fun e w' => ∃ la ll lc k er, e = .returned (.tuple #[.slice la ll lc, .int .i64 k, .int .i64 er]) ∧ ∃ l, LinesN w' la ll l ∧ ll ≤ 4096 ∧ Num.Walked p at' l k er ∧ Below w.heap.size w w' := by
  have HC : Hid (Ints w ca cl p.costs) := hc
  have HR : Hid (RowsAt w ra rl p.rows) := hr
  have HA : Hid (Ints w aa al at') := ha
  have HRL : Hid (rl = p.rows.length) := hr.1
  clear hc hr ha
  obtain ⟨i0, hif, hz0, hz1, hz2⟩ := info_parts Tryz.infoSlI
  have HBV : Hid (∀ w', Below (w.alloc (.cells #[.slice ca cl cc, .slice ra rl rc] 25)).heap.size (w.alloc (.cells #[.slice ca cl cc, .slice ra rl rc] 25)) w' → (w'.cell? ⟨w.heap.size, 0, none⟩ = some (.slice ca cl cc) ∧ w'.cell? ⟨w.heap.size, 1, none⟩ = some (.slice ra rl rc)) ∧ Below w.heap.size w w' ∧ w.heap.size < w'.heap.size) := fun w' h => ⟨(kept2 h).1, binto h, by have := h.size; simp at this; omega⟩
  go_enter Tryz.func29, Tryz.ntmps29
  go_wp2_with fail
  generalize hV : w.alloc (.cells #[.slice ca cl cc, .slice ra rl rc] 25) = V at *
  have HIV : Hid (Ints V aa al at') := by rw [← hV]; exact Ints.below HA.out (balloc _ _) (Nat.le_refl _)
  clear hV
  go_loopw [1, 7] (fun t v wr => ∃ l now na nl nc, Num.Path p at' l now ∧ (l = [] ∨ p.may = true) ∧ t = .slice na nl nc ∧ nl ≤ 9223372036854775807 ∧ Ints wr na nl now ∧ LinesO wr V.heap.size v l ∧ Below V.heap.size V wr) (fun _ v _ => 4096 - lenOf v)
  case atStart => exact ⟨[], at', aa, al, ac, Num.Path.start p at', Or.inl rfl, rfl, hal, HIV.out, LinesO.nil _ _, Below.refl _ _⟩
  case round =>
    obtain ⟨l, now, na, nl, nc, hpath, hlm, rfl, hnl, hin, hlo, hbl⟩ := hrel
    clear HIV
    have HPATH : Hid (Num.Path p at' l now) := hpath
    have HROUND : Hid _ := Num.round p at' l now hpath hlm
    have HIN : Hid (Ints wr na nl now) := hin
    have HLO : Hid (LinesO wr V.heap.size _ l) := hlo
    obtain ⟨⟨b0, b1⟩, hB, hz⟩ := HBV.out wr hbl
    clear hpath hlm hin
    obtain ⟨va, vc, hv, _⟩ := hlo.lines
    clear hlo
    go_wp2_with fail
    refine (next_any ca cl cc ra rl rc p wr (Ints.below HC.out hB (Nat.le_refl _)) hcl (RowsAt.below HR.out hB (Nat.le_refl _)) hrl na nl nc now HIN.out hnl).mono ?_
    rintro e w1 ⟨xa, xl, xc, rfl, hix, hfx, hxc, hb1⟩
    have hbl1 := bstep hbl hb1
    clear b0 b1 hB hz hbl
    obtain ⟨⟨b0, b1⟩, hB, hz⟩ := HBV.out w1 hbl1
    rcases HROUND.out with ⟨er, he, hnx, hwk⟩ | ⟨k, hk, hnx, hmay, hgo, hsh, hwk⟩ | ⟨nx, hnx, hnlen, hmay, hgo, hsh, hpt⟩
    · rw [hnx] at hix
      rw [hnx]
      have hne : (er == 0) = false := by simpa using he
      have HWK : Hid (Num.Walked p at' [] 0 er) := hwk
      clear hwk
      go_wp2_with fail
      go_ret3
      exact ⟨none, 0, 0, 0, er, rfl, [], LinesN.nil _, by omega, HWK.out, hB⟩
    · rw [hnx] at hix
      rw [hnx]
      have hnow : nl = now.length := HIN.out.1
      have hrl4 : 1 ≤ nl ∧ nl ≤ 4 := by have := (Num.right_all now _ _ hgo.right).1; have := (p.may_of hmay).2.2.1; omega
      clear hnow
      have HWK : Hid (Num.Walked p at' (l ++ [now]) k 0) := hwk
      clear hwk hgo
      have hxl : xl = 0 := hix.1
      subst hxl
      go_wp2_with fail
      refine (cloneI_any na nl nc now w1 (Ints.below HIN.out hb1 (Nat.le_refl _)) hrl4.1 hrl4.2).mono ?_
      rintro e w2 ⟨g, c, rfl, hg, hgc, hO, hb2⟩
      have hbl2 := bstep hbl1 hb2
      have hb2' : Below wr.heap.size wr w2 := bstep hb1 hb2
      have hL : LinesO (w2.alloc (.cells #[.slice (some ⟨g, 0, none⟩) nl c] 41)) V.heap.size _ l := LinesO.below HLO.out (bstep hb2' (balloc _ _))
      have HIC : Hid (Ints (w2.alloc (.cells #[.slice (some ⟨g, 0, none⟩) nl c] 41)) (some ⟨g, 0, none⟩) nl now) := Ints.below hO.ints (balloc _ _) (Nat.le_refl _)
      obtain ⟨vs0, ho0, _⟩ := HLO.out
      have HOFF : Hid (Off (w2.alloc (.cells #[.slice (some ⟨g, 0, none⟩) nl c] 41)) _ (some ⟨g, 0, none⟩) nl) := Off.fresh ho0 (Or.inr ⟨g, rfl, by have := hb1.size; omega⟩) HIC.out
      obtain ⟨vs, hov, hvin⟩ := hL
      have HOV : Hid _ := hov
      have HVIN : Hid _ := hvin
      have hVs : V.heap.size ≤ w2.heap.size := hbl2.size
      have hVa : V.heap.size ≤ (w2.alloc (.cells #[.slice (some ⟨g, 0, none⟩) nl c] 41)).heap.size := by simp; omega
      clear ho0 hov hvin hO b0 b1 hB hz
      subst hv
      go_wp2_with (at_builtin; refine wpList_append_own_at _ rfl (.tmp 21) (.tmp 24) 58 rfl V.heap.size 41 i0 (.slice none 0 0) 1 24 Tryz.underlying58 hif hz0 hz1 hz2 rfl (by decide) _ l.length vs rfl HOV.out ⟨w2.heap.size, 0, none⟩ 1 1 [.slice (some ⟨g, 0, none⟩) nl c] rfl rfl ?p3 ?p4 ?p5 ?p6 hVa ?_)
      case p3 => first | exact news_one rfl _ _ | exact news_one' rfl _ _
      case p4 => first | rfl | (intro u hu; simp at hu; subst hu; rfl)
      case p5 => unfold maxLen; omega
      case p6 => omega
      intro v' w3 ho3 hg3 _ hat3
      have HL3 : Hid (LinesO w3 V.heap.size v' (l ++ [now])) := LinesO.push HOV.out HVIN.out HIC.out HOFF.out ho3 hg3 (by simpa using hat3)
      have hbl3 : Below V.heap.size V w3 := Below.grown (bstep hbl2 (balloc _ _)) hg3 hVa (fun j hj => (own_lt HOV.out j hj).1)
      obtain ⟨la, lc, rfl, hli⟩ := HL3.out.lines
      rw [List.length_append, List.length_singleton] at hli ⊢
      have HLI : Hid (LinesN w3 la (l.length + 1) (l ++ [now])) := hli
      clear hli ho3 hg3 hat3 HOV HVIN
      go_wp2_with fail
      go_ret3
      exact ⟨la, _, lc, k, 0, rfl, l ++ [now], HLI.out, by omega, HWK.out, (HBV.out w3 hbl3).2.1⟩
    · rw [hnx] at hix
      rw [hnx]
      have hnow : nl = now.length := HIN.out.1
      have hrl4 : 1 ≤ nl ∧ nl ≤ 4 := by have := (Num.right_all now _ _ hgo.right).1; have := (p.may_of hmay).2.2.1; omega
      clear hnow
      dsimp only at hix
      have HPT : Hid (Num.Path p at' (l ++ [now]) nx) := hpt
      have HIX : Hid (Ints w1 xa xl nx) := hix
      have hxl : 1 ≤ xl ∧ xl ≤ 4 := by have := hix.1; have := (p.may_of hmay).2.2.1; omega
      have HFX : Hid _ := hfx
      clear hpt hgo hix hfx
      go_wp2_with fail
      refine (cloneI_any na nl nc now w1 (Ints.below HIN.out hb1 (Nat.le_refl _)) hrl4.1 hrl4.2).mono ?_
      rintro e w2 ⟨g, c, rfl, hg, hgc, hO, hb2⟩
      have hbl2 := bstep hbl1 hb2
      have hb2' : Below wr.heap.size wr w2 := bstep hb1 hb2
      have hL : LinesO (w2.alloc (.cells #[.slice (some ⟨g, 0, none⟩) nl c] 41)) V.heap.size _ l := LinesO.below HLO.out (bstep hb2' (balloc _ _))
      have HIC : Hid (Ints (w2.alloc (.cells #[.slice (some ⟨g, 0, none⟩) nl c] 41)) (some ⟨g, 0, none⟩) nl now) := Ints.below hO.ints (balloc _ _) (Nat.le_refl _)
      obtain ⟨vs0, ho0, _⟩ := HLO.out
      have HOFF : Hid (Off (w2.alloc (.cells #[.slice (some ⟨g, 0, none⟩) nl c] 41)) _ (some ⟨g, 0, none⟩) nl) := Off.fresh ho0 (Or.inr ⟨g, rfl, by have := hb1.size; omega⟩) HIC.out
      obtain ⟨vs, hov, hvin⟩ := hL
      have HOV : Hid _ := hov
      have HVIN : Hid _ := hvin
      have hVs : V.heap.size ≤ w2.heap.size := hbl2.size
      have hVa : V.heap.size ≤ (w2.alloc (.cells #[.slice (some ⟨g, 0, none⟩) nl c] 41)).heap.size := by simp; omega
      clear ho0 hov hvin hO b0 b1 hB hz
      subst hv
      go_wp2_with (at_builtin; refine wpList_append_own_at _ rfl (.tmp 21) (.tmp 24) 58 rfl V.heap.size 41 i0 (.slice none 0 0) 1 24 Tryz.underlying58 hif hz0 hz1 hz2 rfl (by decide) _ l.length vs rfl HOV.out ⟨w2.heap.size, 0, none⟩ 1 1 [.slice (some ⟨g, 0, none⟩) nl c] rfl rfl ?p3 ?p4 ?p5 ?p6 hVa ?_)
      case p3 => first | exact news_one rfl _ _ | exact news_one' rfl _ _
      case p4 => first | rfl | (intro u hu; simp at hu; subst hu; rfl)
      case p5 => unfold maxLen; omega
      case p6 => omega
      intro v' w3 ho3 hg3 _ hat3
      have HL3 : Hid (LinesO w3 V.heap.size v' (l ++ [now])) := LinesO.push HOV.out HVIN.out HIC.out HOFF.out ho3 hg3 (by simpa using hat3)
      have hbl3 : Below V.heap.size V w3 := Below.grown (bstep hbl2 (balloc _ _)) hg3 hVa (fun j hj => (own_lt HOV.out j hj).1)
      have HI3 : Hid (Ints w3 xa xl nx) := by
        have h1 : Ints (w2.alloc (.cells #[.slice (some ⟨g, 0, none⟩) nl c] 41)) xa xl nx := Ints.below HIX.out (bstep hb2 (balloc _ _)) (Nat.le_refl _)
        obtain ⟨vs1, ho1, _⟩ := HLO.out
        exact h1.grown (Off.fresh ho1 HFX.out h1) hg3
      obtain ⟨la, lc, rfl, hli⟩ := HL3.out.lines
      clear hli ho3 hg3 hat3 HOV HVIN
      have hxd : ((xl : Int) == 0) = false := by simp; omega
      go_wp2_with fail
      go_roundw
      case rel => exact ⟨l ++ [now], nx, xa, xl, xc, HPT.out, Or.inr hmay, rfl, by omega, HI3.out, HL3.out, hbl3⟩
      case measure => simp [lenOf]; omega

end Go.Proofs.YtloncgmgcnaalaaGreat
