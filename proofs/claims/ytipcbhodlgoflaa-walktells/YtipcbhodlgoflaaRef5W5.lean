/- What the document's Walk (chapter 5) does. -/
import Derived.Test.YtipcbhodlgoflaaRef5W4
import Derived.Test.YtipcbhodlgoflaaWlkC
namespace Go.Proofs.Ytipcbhodlgoflaa
open Go.RowKit

set_option maxRecDepth 4000 in
set_option maxHeartbeats 6400000 in
theorem walk5_any (ca : Option Addr) (cl cc : Nat) (ra : Option Addr) (rl rc : Nat) (p : Num.Lp) (w : World) (hc : Ints w ca cl p.costs) (hcl : cl ≤ 9223372036854775807) (hr : RowsAt w ra rl p.rows) (hrl : rl ≤ 9223372036854775807)
    (aa : Option Addr) (al ac : Nat) (at' : List Int) (ha : Ints w aa al at') (hal : al ≤ 9223372036854775807) :
    Calls Try.prog 37 #[.agg #[.slice ca cl cc, .slice ra rl rc], .slice aa al ac] w fun e w' => ∃ la ll lc k er, e = .returned (.tuple #[.slice la ll lc, .int .i64 k, .int .i64 er]) ∧ ∃ l, LinesN w' la ll l ∧ ll ≤ 4096 ∧ Num.Walked p at' l k er ∧ Below w.heap.size w w' := by
  have HC : Hid (Ints w ca cl p.costs) := hc
  have HR : Hid (RowsAt w ra rl p.rows) := hr
  have HA : Hid (Ints w aa al at') := ha
  have HRL : Hid (rl = p.rows.length) := hr.1
  have HCL : Hid (cl = p.costs.length) := hc.1
  have HAL : Hid (al = at'.length) := ha.1
  clear hc hr ha
  obtain ⟨i0, hif, hz0, hz1, hz2⟩ := info_parts Try.infoSlI
  have HBV : Hid (∀ w', Below (w.alloc (.cells #[.slice ca cl cc, .slice ra rl rc] 40)).heap.size (w.alloc (.cells #[.slice ca cl cc, .slice ra rl rc] 40)) w' → (w'.cell? ⟨w.heap.size, 0, none⟩ = some (.slice ca cl cc) ∧ w'.cell? ⟨w.heap.size, 1, none⟩ = some (.slice ra rl rc)) ∧ Below w.heap.size w w' ∧ w.heap.size < w'.heap.size) := fun w' h => ⟨(kept2 h).1, binto h, by have := h.size; simp at this; omega⟩
  go_enter Try.func37, Try.ntmps37
  go_wp2_with fail
  have hbV := balloc w (.cells #[.slice ca cl cc, .slice ra rl rc] 40)
  generalize hV : w.alloc (.cells #[.slice ca cl cc, .slice ra rl rc] 40) = V at *
  have hVz : w.heap.size < V.heap.size := by rw [← hV]; simp
  clear hV
  refine (may3_any _ _ _ _ _ _ p V (Ints.below HC.out hbV (Nat.le_refl _)) hcl (RowsAt.below HR.out hbV (Nat.le_refl _)) hrl).mono ?_
  rintro e w1 ⟨rfl, hb1⟩
  cases hmay : p.may with
  | false =>
    have HWK : Hid (Num.Walked p at' [] 0 2) := Or.inl ⟨by omega, rfl, rfl, Num.next_err p at' 2 (by rw [Num.look_form p at' hmay]; rfl) (by omega)⟩
    have hB := bstep hbV hb1
    go_wp2_with fail
    go_ret3
    exact ⟨none, 0, 0, 0, 2, rfl, [], LinesN.nil _, by omega, HWK.out, hB⟩
  | true =>
    obtain ⟨⟨b0, b1⟩, hB1, hz⟩ := HBV.out w1 hb1
    have HM : Hid (p.may = true) := hmay
    have hc4 : cl ≤ 4 ∧ 1 ≤ cl := by have := HCL.out; have := (p.may_of hmay).1; omega
    have hr4 : rl ≤ 4 ∧ 1 ≤ rl := by have := HRL.out; have := (p.may_of hmay).2.2.1; omega
    clear hmay
    go_wp2_with fail
    refine (right_any _ _ _ _ _ _ _ _ _ _ at' (Ints.below HA.out hB1 (Nat.le_refl _)) hal (cl + rl) rfl (by omega)).mono ?_
    rintro e w2 ⟨rfl, hb2⟩
    have hbl2 := bstep hb1 hb2
    clear b0 b1 hB1 hz
    cases hri : Num.rightB at' rl (cl + rl) with
    | false =>
      have HWK : Hid (Num.Walked p at' [] 0 3) := Or.inl ⟨by omega, rfl, rfl, Num.next_err p at' 3 (by rw [Num.look_range p at' HM.out (by rw [← HRL.out, ← HCL.out]; exact hri)]; rfl) (by omega)⟩
      have hB := bstep hbV hbl2
      go_wp2_with fail
      go_ret3
      exact ⟨none, 0, 0, 0, 3, rfl, [], LinesN.nil _, by omega, HWK.out, hB⟩
    | true =>
      have hale : al = rl := by have := HAL.out; have := (Num.right_all at' rl _ hri).1; omega
      subst hale
      have HRI : Hid (Num.rightB at' al (cl + al) = true) := hri
      have HIV : Hid (Ints w2 aa al at') := Ints.below HA.out (bstep hbV hbl2) (Nat.le_refl _)
      have HOV : Hid (Off w2 (.slice none 0 0) aa al) := by
        rcases HIV.out.2 with h | ⟨b, off, h1, h2, _⟩
        · exact Or.inl h
        · exact Or.inr ⟨b, off, h1, h2, by simp [Value.ownBlock]⟩
      clear hri
      go_wp2_with fail
      go_loopw [7, 8] (fun v t wr => ∃ l now na nc, Num.Path p at' l now ∧ Num.rightB now al (cl + al) = true ∧ t = .slice na al nc ∧ Ints wr na al now ∧ LinesO wr V.heap.size v l ∧ Off wr v na al ∧ Below V.heap.size V wr) (fun v _ _ => 4096 - lenOf v)
      case atStart => exact ⟨[], at', aa, ac, Num.Path.start p at', HRI.out, rfl, HIV.out, LinesO.nil _ _, HOV.out, hbl2⟩
      case round =>
        obtain ⟨l, now, na, nc, hpath, hnr, rfl, hin, hlo, hoff, hbl⟩ := hrel
        clear HIV HOV hb1 hb2 hbl2
        have HPATH : Hid (Num.Path p at' l now) := hpath
        have HROUND : Hid ((∃ e, e ≠ 0 ∧ Num.nextN p now = ([], 0, e) ∧ Num.Walked p at' [] 0 e) ∨
            (∃ k, k ≠ 0 ∧ Num.nextN p now = ([], k, 0) ∧ p.may = true ∧ Num.Good p now p.rows.length p.costs.length ∧ l.length < 4096 ∧ Num.Walked p at' (l ++ [now]) k 0) ∨
            (∃ nx, Num.nextN p now = (nx, 0, 0) ∧ nx.length = p.rows.length ∧ p.may = true ∧ Num.Good p now p.rows.length p.costs.length ∧ l.length < 4096 ∧ Num.Path p at' (l ++ [now]) nx)) := Num.round p at' l now hpath (Or.inr HM.out)
        have HNR : Hid (Num.rightB now al (cl + al) = true) := hnr
        have HIN : Hid (Ints wr na al now) := hin
        have HLO : Hid (LinesO wr V.heap.size _ l) := hlo
        have HOF : Hid (Off wr _ na al) := hoff
        obtain ⟨⟨b0, b1⟩, hB, hz⟩ := HBV.out wr hbl
        obtain ⟨va, vc, hv, _⟩ := hlo.lines
        clear hpath hnr hin hlo hoff
        subst hv
        obtain ⟨⟨mx, qx, zx⟩, hpx⟩ : ∃ t, Num.pt (Num.xL p now al (cl + al)) (Num.denL p now al) = t := ⟨_, rfl⟩
        obtain ⟨⟨my, qy, zy⟩, hpy⟩ : ∃ t, Num.pt (Num.priceL p now al) (Num.denL p now al) = t := ⟨_, rfl⟩
        obtain ⟨⟨mg, qg, zg⟩, hpg⟩ : ∃ t, Num.pt (Num.gainL p now al (cl + al)) (Num.denL p now al) = t := ⟨_, rfl⟩
        have HL : Hid (Num.denL p now al ≠ 0 → (Num.look p now).err = 0 ∧ (Num.look p now).x = mx ∧ (Num.look p now).g = mg) := by
          intro hd
          have hl := Num.look_some p now HM.out (by rw [← HRL.out, ← HCL.out]; exact HNR.out) (by rw [← HRL.out]; exact hd) al (cl + al) HRL.out (by rw [← HRL.out, ← HCL.out])
          rw [hl, hpx, hpg]
          exact ⟨rfl, rfl, rfl⟩
        have HPX : Hid _ := hpx
        have HPY : Hid _ := hpy
        have HPG : Hid _ := hpg
        clear hpx hpy hpg
        go_wp2_with fail
        refine Calls.mono (rlook_far ca cl cc ra al rc p wr (Ints.below HC.out hB (Nat.le_refl _)) (RowsAt.below HR.out hB (Nat.le_refl _)) na nc now HIN.out HM.out (cl + al) rfl (by omega) (Num.right_all now al _ HNR.out).2 mx my mg qx qy qg zx zy zg HPX.out HPY.out HPG.out) ?_
        rintro e w3 ⟨hb3, ⟨hd, rfl⟩ | ⟨hd, xa, xl, xc, ya, yl, yc, ga, gl, gc, rfl, hix, _, hig, hx8, _, hg8, hgf⟩⟩
        · have hbl3 := bstep hbl hb3
          have hWK : Num.Walked p at' [] 0 4 := by
            have hne := Num.next_err p now 4 (by rw [Num.look_none p now HM.out (by rw [← HRL.out, ← HCL.out]; exact HNR.out) (by rw [← HRL.out]; exact hd)]; rfl) (by omega)
            rcases HROUND.out with ⟨e, _, h1, h2⟩ | ⟨k, _, h1, _⟩ | ⟨nx, h1, _⟩
            · rw [hne] at h1
              simp only [Prod.mk.injEq, true_and] at h1
              rw [← h1] at h2; exact h2
            · rw [hne] at h1; simp at h1
            · rw [hne] at h1; simp at h1
          have HWK : Hid (Num.Walked p at' [] 0 4) := hWK
          obtain ⟨_, hB3, _⟩ := HBV.out w3 hbl3
          unfold corner0
          clear hWK b0 b1
          go_wp2_with fail
          go_ret3
          exact ⟨none, 0, 0, 0, 4, rfl, [], LinesN.nil _, by omega, HWK.out, bstep hB3 (balloc _ _)⟩
        · obtain ⟨he0, hxx, hgg⟩ := HL.out hd
          have hbl3 := bstep hbl hb3
          have HIX : Hid (Ints w3 xa xl mx) := hix
          have HIG : Hid (Ints w3 ga gl mg) := hig
          have HD : Hid (Num.denL p now al ≠ 0) := hd
          have HE0 : Hid ((Num.look p now).err = 0) := he0
          have HXX : Hid ((Num.look p now).x = mx) := hxx
          have HGG : Hid ((Num.look p now).g = mg) := hgg
          have HGF : Hid (gl = 0 ∨ ∃ g, ga = some ⟨g, 0, none⟩ ∧ wr.heap.size ≤ g) := hgf
          have hcb := hb3.size
          clear hgf
          clear hix hig hd he0 hxx hgg b0 b1 hB hz hbl HL
          go_wp2_with fail
          have hs1 := Six.new w3 (.slice xa xl xc) (.int .i64 qx) (.slice ya yl yc) (.int .i64 qy) (.slice ga gl gc) (.int .i64 qg) 47
          generalize hW : w3.alloc (.cells #[.slice xa xl xc, .int .i64 qx, .slice ya yl yc, .int .i64 qy, .slice ga gl gc, .int .i64 qg] 47) = W3 at *
          generalize w3.heap.size = cb at *
          have hb3W : Below wr.heap.size wr W3 := bstep hb3 hs1.bel
          have hblW := bstep hbl3 hs1.bel
          have HIX3 : Hid (Ints W3 xa xl mx) := Ints.below HIX.out hs1.bel (Nat.le_refl _)
          have HIG3 : Hid (Ints W3 ga gl mg) := Ints.below HIG.out hs1.bel (Nat.le_refl _)
          clear hW HIX HIG hbl3 hb3
          refine (above_any xa xl xc mx qx W3 HIX3.out (by omega)).mono ?_
          rintro e w4 ⟨rfl, hb4⟩
          have hs4 := hs1.step hb4
          have hb4r : Below wr.heap.size wr w4 := bstep hb3W hb4
          have hbl4 := bstep hblW hb4
          have HIG4 : Hid (Ints w4 ga gl mg) := Ints.below HIG3.out hb4 (Nat.le_refl _)
          obtain ⟨⟨b0, b1⟩, hB4, hz4⟩ := HBV.out w4 hbl4
          clear hs1 hb3W hblW hb4 HIX3 HIG3
          cases hneg : Num.anyNeg mx with
          | true =>
            have hWK : Num.Walked p at' [] 0 3 := by
              have hne := Num.next_neg p now HE0.out (by rw [HXX.out]; exact hneg)
              rcases HROUND.out with ⟨e, _, h1, h2⟩ | ⟨k, _, h1, _⟩ | ⟨nx, h1, _⟩
              · rw [hne] at h1
                simp only [Prod.mk.injEq, true_and] at h1
                rw [← h1] at h2; exact h2
              · rw [hne] at h1; simp at h1
              · rw [hne] at h1; simp at h1
            have HWK : Hid (Num.Walked p at' [] 0 3) := hWK
            clear hWK b0 b1 hs4 hneg
            go_wp2_with fail
            go_ret3
            exact ⟨none, 0, 0, 0, 3, rfl, [], LinesN.nil _, by omega, HWK.out, hB4⟩
          | false =>
            have HGO : Hid (Num.Good p now al cl) := (Num.good_of p now al cl HM.out HRL.out HCL.out).1 ⟨HE0.out, by rw [HXX.out]; exact hneg⟩
            have hsh : l.length < 4096 := by
              rcases HROUND.out with ⟨e, he, h1, _⟩ | ⟨k, _, _, _, _, h, _⟩ | ⟨nx, _, _, _, _, h, _⟩
              · rcases Num.next_cases p now al cl HM.out HRL.out HCL.out with ⟨_, _, _, hn⟩ | ⟨_, ⟨k, _, _, h2⟩ | ⟨nx, _, _, h2, _⟩⟩
                · exact absurd HGO.out hn
                · rw [h1] at h2; simp at h2; omega
                · rw [h1] at h2; simp at h2; omega
              · exact h
              · exact h
            clear hneg
            have hL : LinesO (w4.alloc (.cells #[.slice na al nc] 45)) V.heap.size _ l := LinesO.below HLO.out (bstep hb4r (balloc _ _))
            have HIC : Hid (Ints (w4.alloc (.cells #[.slice na al nc] 45)) na al now) := Ints.below HIN.out (bstep hb4r (balloc _ _)) (Nat.le_refl _)
            have HOFF : Hid (Off (w4.alloc (.cells #[.slice na al nc] 45)) _ na al) := Off.below HOF.out (bstep hb4r (balloc _ _))
            obtain ⟨vs, hov, hvin⟩ := hL
            have HOV : Hid _ := hov
            have HVIN : Hid _ := hvin
            have hVs : V.heap.size ≤ w4.heap.size := hbl4.size
            have hVa : V.heap.size ≤ (w4.alloc (.cells #[.slice na al nc] 45)).heap.size := by simp; omega
            clear hov hvin b0 b1
            go_wp2_with (at_builtin; refine wpList_append_own_at _ rfl (.tmp 33) (.tmp 35) 62 rfl V.heap.size 45 i0 (.slice none 0 0) 1 24 Try.underlying62 hif hz0 hz1 hz2 rfl (by decide) _ l.length vs rfl HOV.out ⟨w4.heap.size, 0, none⟩ 1 1 [.slice na al nc] rfl rfl ?p3 ?p4 ?p5 ?p6 hVa ?_)
            case p3 => first | exact news_one rfl _ _ | exact news_one' rfl _ _
            case p4 => first | rfl | (intro u hu; simp at hu; subst hu; rfl)
            case p5 => unfold maxLen; omega
            case p6 => omega
            intro v' w5 ho5 hg5 _ hat5
            have HL5 : Hid (LinesO w5 V.heap.size v' (l ++ [now])) := LinesO.push HOV.out HVIN.out HIC.out HOFF.out ho5 hg5 (by simpa using hat5)
            have hbl5 : Below V.heap.size V w5 := Below.grown (bstep hbl4 (balloc _ _)) hg5 hVa (fun j hj => (own_lt HOV.out j hj).1)
            have HIN5 : Hid (Ints w5 na al now) := HIC.out.grown HOFF.out hg5
            obtain ⟨vs0, ho0, _⟩ := HLO.out
            have hGa : Ints (w4.alloc (.cells #[.slice na al nc] 45)) ga gl mg := Ints.below HIG4.out (balloc _ _) (Nat.le_refl _)
            have HIG5 : Hid (Ints w5 ga gl (Num.look p now).g) := by
              show Ints w5 ga gl (Num.look p now).g
              rw [HGG.out]
              exact hGa.grown (Off.fresh ho0 HGF.out hGa) hg5
            have hcw : cb < (w4.alloc (.cells #[.slice na al nc] 45)).heap.size := by have := hs4.hi; simp; omega
            have hne : some cb ≠ (Value.slice va l.length vc).ownBlock := by
              intro e
              have := (own_lt ho0 cb e.symm).2
              omega
            have hfar : ∀ i u, w4.cell? ⟨cb, i, none⟩ = some u → w5.cell? ⟨cb, i, none⟩ = some u := by
              intro i u h
              rw [World.cell?_of_block (w := w4.alloc (.cells #[.slice na al nc] 45)) (a := ⟨cb, i, none⟩) (hg5.block cb hcw hne)]
              exact carry (balloc _ _) h
            have z0 := hfar 0 _ hs4.c0
            have z1 := hfar 1 _ hs4.c1
            have z2 := hfar 2 _ hs4.c2
            have z3 := hfar 3 _ hs4.c3
            have z4 := hfar 4 _ hs4.c4
            have z5 := hfar 5 _ hs4.c5
            obtain ⟨⟨b0, b1⟩, hB5, hz5⟩ := HBV.out w5 hbl5
            obtain ⟨la, lc, rfl, _⟩ := HL5.out.lines
            clear ho0 hGa hcw hne hfar hs4 ho5 hg5 hat5 HOV HVIN hB4 hz4 hbl4 hb4r
            rw [List.length_append, List.length_singleton] at HL5
            rw [List.length_append, List.length_singleton]
            go_wp2_with fail
            refine (next5_any ca cl cc ra al rc p w5 (Ints.below HC.out hB5 (Nat.le_refl _)) (RowsAt.below HR.out hB5 (Nat.le_refl _)) HM.out na nc now HIN5.out HGO.out xa xl xc qx ya yl yc qy ga gl gc qg HIG5.out hg8).mono ?_
            rintro e w6 ⟨xa', xl', xc', rfl, hix, hfx, _, hb6⟩
            have HL6 : Hid (LinesO w6 V.heap.size (.slice la (l.length + 1) lc) (l ++ [now])) := LinesO.below HL5.out hb6
            have hbl6 := bstep hbl5 hb6
            have hB6 := bstep hB5 hb6
            clear z0 z1 z2 z3 z4 z5 b0 b1 hz5 hB5
            rcases HROUND.out with ⟨er, he, hnx, _⟩ | ⟨k, hk, hnx, _, _, _, hwk⟩ | ⟨nx, hnx, hnlen, _, _, _, hpt⟩
            · rcases Num.next_cases p now al cl HM.out HRL.out HCL.out with ⟨_, _, _, hn⟩ | ⟨_, ⟨k, _, _, h2⟩ | ⟨nx, _, _, h2, _⟩⟩
              · exact absurd HGO.out hn
              · rw [hnx] at h2; simp at h2; omega
              · rw [hnx] at h2; simp at h2; omega
            · rw [hnx]
              have HWK : Hid (Num.Walked p at' (l ++ [now]) k 0) := hwk
              have hkn : (k == 0) = false := by simpa using hk
              obtain ⟨a2, c2, e2, hli⟩ := HL6.out.lines
              rw [List.length_append, List.length_singleton] at e2 hli
              simp only [Value.slice.injEq, true_and] at e2
              obtain ⟨rfl, rfl⟩ := e2
              have HLI : Hid (LinesN w6 la (l.length + 1) (l ++ [now])) := hli
              clear hli hwk hix hfx
              go_wp2_with fail
              go_ret3
              exact ⟨la, _, lc, k, 0, rfl, l ++ [now], HLI.out, by omega, HWK.out, hB6⟩
            · rw [hnx] at hix
              rw [hnx]
              dsimp only at hix
              have hxl : xl' = al := by have := hix.1; have := HRL.out; omega
              subst hxl
              have HPT : Hid (Num.Path p at' (l ++ [now]) nx) := hpt
              have HIX : Hid (Ints w6 xa' xl' nx) := hix
              have HRN : Hid (Num.rightB nx xl' (cl + xl') = true) := by
                have := Num.path_now xl' cl HM.out HRL.out HCL.out hpt (by simp)
                exact this.right
              have HOX : Hid (Off w6 (.slice la (l.length + 1) lc) xa' xl') := by
                obtain ⟨vs5, ho5, _⟩ := HL5.out
                exact Off.fresh ho5 hfx hix
              clear hpt hix hfx
              go_wp2_with fail
              go_roundw
              case rel => exact ⟨l ++ [now], nx, xa', xc', HPT.out, HRN.out, rfl, HIX.out, HL6.out, HOX.out, hbl6⟩
              case measure => simp [lenOf]; omega

end Go.Proofs.Ytipcbhodlgoflaa
