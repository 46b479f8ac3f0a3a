/- The document's Parse (chapter 9), walked. -/
import Derived.Test.YtipcbhodlgoflabDoorTxP
namespace Go.Proofs.YtipcbhodlgoflabDoor
open Go.RowKit

theorem own_shape2 {w : World} {base : Nat} {t : TypeId} {size : Nat} {v : Value} {n : Nat} {xs : List Value} (h : w.ownsRow base t size v n xs) : ∃ a c, v = .slice a n c := by
  rcases h.2 with ⟨hv, h0⟩ | ⟨g, cap, cur, hv, _⟩
  · subst h0; exact ⟨none, 0, hv⟩
  · exact ⟨_, cap, hv⟩

theorem boxes2 (w : World) (a b c d : Value) (t t' : TypeId) :
    ((((w.alloc (.cells #[a, b] t)).alloc (.cells #[c, d] t')).cell? ⟨w.heap.size, 0, none⟩ = some a ∧ ((w.alloc (.cells #[a, b] t)).alloc (.cells #[c, d] t')).cell? ⟨w.heap.size, 1, none⟩ = some b) ∧
      (((w.alloc (.cells #[a, b] t)).alloc (.cells #[c, d] t')).cell? ⟨w.heap.size + 1, 0, none⟩ = some c ∧ ((w.alloc (.cells #[a, b] t)).alloc (.cells #[c, d] t')).cell? ⟨w.heap.size + 1, 1, none⟩ = some d)) ∧
      ((∀ j, ((w.alloc (.cells #[a, b] t)).alloc (.cells #[c, d] t')).frozen? ⟨w.heap.size, j, none⟩ = false) ∧ (∀ j, ((w.alloc (.cells #[a, b] t)).alloc (.cells #[c, d] t')).frozen? ⟨w.heap.size + 1, j, none⟩ = false)) := by
  refine ⟨⟨⟨?_, ?_⟩, ?_, ?_⟩, fun j => ?_, fun j => ?_⟩ <;> go_simp

set_option maxRecDepth 8000 in
set_option maxHeartbeats 6400000 in
theorem rparse_any (l : List UInt8) (hl : l.length ≤ 1048576) (w : World) :
    Calls Tryd.prog 11 #[.string (B8 l)] w fun e w' => ∃ ca cl cc ra rl rc, e = .returned (.tuple #[.agg #[.slice ca cl cc, .slice ra rl rc], .agg #[.int .i64 (codeR l), .int .i64 (atR l)]]) ∧
      (Ints w' ca cl (progR l).costs ∧ cl ≤ 2000001) ∧ (RowsAt w' ra rl (progR l).rows ∧ rl ≤ 2000001) ∧ Below w.heap.size w w' := by
  have HLL : Hid (l.length ≤ 1048576) := hl
  clear hl
  obtain ⟨⟨⟨k0, k1⟩, ⟨k2, k3⟩⟩, j0, j2⟩ := boxes2 w (.slice none 0 0) (.slice none 0 0) (.int .i64 0) (.int .i64 0) 25 32
  have hBV : Below w.heap.size w ((w.alloc (.cells #[.slice none 0 0, .slice none 0 0] 25)).alloc (.cells #[.int .i64 0, .int .i64 0] 32)) := (balloc w _).alloc (by simp) _
  have hsz : ((w.alloc (.cells #[.slice none 0 0, .slice none 0 0] 25)).alloc (.cells #[.int .i64 0, .int .i64 0] 32)).heap.size = w.heap.size + 1 + 1 := by simp
  generalize hV : (w.alloc (.cells #[.slice none 0 0, .slice none 0 0] 25)).alloc (.cells #[.int .i64 0, .int .i64 0] 32) = V at *
  have HBX : Hid (∀ w', Below V.heap.size V w' → (w'.cell? ⟨w.heap.size, 0, none⟩ = some (.slice none 0 0) ∧ w'.cell? ⟨w.heap.size, 1, none⟩ = some (.slice none 0 0) ∧ w'.cell? ⟨w.heap.size + 1, 0, none⟩ = some (.int .i64 0) ∧ w'.cell? ⟨w.heap.size + 1, 1, none⟩ = some (.int .i64 0)) ∧
      (w'.frozen? ⟨w.heap.size, 0, none⟩ = false ∧ w'.frozen? ⟨w.heap.size, 1, none⟩ = false ∧ w'.frozen? ⟨w.heap.size + 1, 0, none⟩ = false ∧ w'.frozen? ⟨w.heap.size + 1, 1, none⟩ = false) ∧ Below w.heap.size w w') := fun w' h =>
    ⟨⟨carry h k0, carry h k1, carry h k2, carry h k3⟩, ⟨carryF h k0 (j0 0), carryF h k1 (j0 1), carryF h k2 (j2 0), carryF h k3 (j2 1)⟩, hBV.trans (h.mono (by omega))⟩
  clear k0 k1 k2 k3 j0 j2
  obtain ⟨ls, hls⟩ : ∃ ls, Num.splitW 10 l = ls := ⟨_, rfl⟩
  have HLS : Hid (Num.splitW 10 l = ls) := hls
  have HFW : Hid (ls.length ≤ l.length + 1) := by rw [← hls]; exact Splits.few (c := 10) (l := l) (i := l.length + 1) (f := 0) (Or.inr ⟨rfl, rfl⟩)
  have HLN : Hid (∀ x ∈ ls, x.length ≤ l.length) := by rw [← hls]; exact split_len 10 l
  have HL1 : Hid (1 ≤ ls.length) := by
    show 1 ≤ _
    cases ls with
    | nil => exact absurd hls (Num.split_ne 10 l)
    | cons x r => rw [List.length_cons]; omega
  have HRW : Hid (ReadsL l ls 0 ⟨[], []⟩) := show _ = _ by unfold Num.readW; rw [hls]; rfl
  have HSPL : Hid (∀ W, Calls Tryd.prog 23 #[.string (B8 l), .int .u8 10] W fun e w' => ∃ a n k, e = .returned (.slice a n k) ∧ w'.ownsRow W.heap.size 9 1 (.slice a n k) n (strs ls) ∧ Below W.heap.size W w') := by
    intro W
    have := split_any 10 10 (by decide) l (by have := HLL.out; omega) W
    rw [hls] at this
    exact this
  clear hls
  generalize B8 l = S at HSPL
  go_enter Tryd.func11, Tryd.ntmps11
  go_wp2_with fail
  clear hV
  refine (HSPL.out V).mono ?_
  rintro e u ⟨la, ln, lc, rfl, hlo, hbu⟩
  clear HSPL
  have hln : ln = ls.length := by have := hlo.1; rw [strs_length] at this; omega
  have h1n : 1 ≤ ln := by have := HL1.out; omega
  obtain ⟨n, rfl⟩ : ∃ n, ln = n + 1 := ⟨ln - 1, by omega⟩
  obtain ⟨lg, lc', hv, hlg, hlt⟩ := hlo.form (by omega)
  simp only [Value.slice.injEq, true_and] at hv
  obtain ⟨rfl, rfl⟩ := hv
  have HST : Hid (Strs u (some ⟨lg, 0, none⟩) (n + 1) ls) := (Strs.ofOwn hlo).1
  have HNL : Hid (n + 1 = ls.length) := hln
  have hn2 : n ≤ 1048577 := by have := HFW.out; have := HLL.out; omega
  have HBU : Hid (Below V.heap.size V u) := hbu
  have hvu := hbu.size
  clear hlo hln h1n hbu hlg
  obtain ⟨⟨⟨p0, p1⟩, ⟨p2, p3⟩⟩, i0, i2⟩ := boxes2 u (.slice none 0 0) (.slice none 0 0) (.slice none 0 0) (.slice none 0 0) 25 25
  have hBY : Below u.heap.size u ((u.alloc (.cells #[.slice none 0 0, .slice none 0 0] 25)).alloc (.cells #[.slice none 0 0, .slice none 0 0] 25)) := (balloc u _).alloc (by simp) _
  have hsY : ((u.alloc (.cells #[.slice none 0 0, .slice none 0 0] 25)).alloc (.cells #[.slice none 0 0, .slice none 0 0] 25)).heap.size = u.heap.size + 1 + 1 := by simp
  go_wp2_with fail
  generalize (u.alloc (.cells #[.slice none 0 0, .slice none 0 0] 25)).alloc (.cells #[.slice none 0 0, .slice none 0 0] 25) = Y at *
  have HPA : Hid (PA (u.heap.size + 1 + 1) u.heap.size Y ⟨[], []⟩) := by
    refine ⟨none, 0, 0, .slice none 0 0, fun _ => undef, ?_⟩
    exact {
      lo := by omega
      hi := by omega
      c0 := p0
      c1 := p1
      f0 := i0 0
      f1 := i0 1
      costs := ⟨rfl, Or.inl rfl⟩
      few := by omega
      far := Or.inl rfl
      rows := ⟨[], World.ownsRow_nil _ _ _ _, fun j hj => absurd hj (Nat.not_lt_zero j)⟩
      each := fun j hj => absurd hj (Nat.not_lt_zero j)
      bare := fun _ => rfl }
  have HBA : Hid (Bare (u.heap.size + 1) Y) := ⟨p2, p3⟩
  have HQ : Hid (∀ w', Below u.heap.size Y w' → Below V.heap.size V w' ∧ Strs w' (some ⟨lg, 0, none⟩) (n + 1) ls ∧ lg < w'.heap.size ∧ u.heap.size + 1 + 1 ≤ w'.heap.size) := by
    intro w' h
    have hb : Below u.heap.size u w' := hBY.trans h
    exact ⟨HBU.out.trans (hb.mono hvu), HST.out.below hb (Nat.le_refl _), by have := hb.size; omega, by have := h.size; omega⟩
  clear p0 p1 p2 p3 i0 i2 hBY
  go_loopw [8] (fun i wr => ∃ (k : Nat) (p : Num.Lp), k ≤ n ∧ i = .int .i64 k ∧ ReadsL l ls k p ∧ p.rows.length ≤ k ∧ PA (u.heap.size + 1 + 1) u.heap.size wr p ∧ Bare (u.heap.size + 1) wr ∧ Below u.heap.size Y wr) (fun i _ => n - (intOf i).toNat)
  case atStart => exact ⟨0, ⟨[], []⟩, Nat.zero_le _, rfl, HRW.out, Nat.le_refl _, HPA.out, HBA.out, Below.refl _ _⟩
  case round =>
    obtain ⟨k, p, hk, rfl, hrd, hpk, hpa, hba, hbl⟩ := hrel
    have HRD : Hid (ReadsL l ls k p) := hrd
    have HP : Hid (PA (u.heap.size + 1 + 1) u.heap.size wr p) := hpa
    have HB : Hid (Bare (u.heap.size + 1) wr) := hba
    have HBL : Hid (Below u.heap.size Y wr) := hbl
    obtain ⟨hbV, hst, hlgr, hYr⟩ := HQ.out wr hbl
    have HSR : Hid (Strs wr (some ⟨lg, 0, none⟩) (n + 1) ls) := hst
    clear hrd hpa hba hbl hst
    by_cases hlt : k < n
    · have ck := (HSR.out.cell k (by omega)).1
      have hkl : k + 1 < ls.length := by have := HNL.out; omega
      have HMO : Hid (Num.readGo k p (ls.drop k) = if k = 0 then match Num.headP (ls[k]?.getD []) with
            | none => .error k
            | some c => Num.readGo (k + 1) ⟨c, p.rows⟩ (ls.drop (k + 1))
          else match Num.rowP (ls[k]?.getD []) with
            | none => .error k
            | some q => Num.readGo (k + 1) ⟨p.costs, p.rows ++ [q]⟩ (ls.drop (k + 1))) := goL_more ls k p hkl
      have hxm : ls[k]?.getD [] ∈ ls := by rw [List.getElem?_eq_getElem (by omega)]; exact List.getElem_mem _
      have HXL : Hid ((ls[k]?.getD []).length ≤ 1048576) := by have := HLN.out _ hxm; have := HLL.out; show _ ≤ _; omega
      generalize ls[k]?.getD [] = x at ck HMO HXL
      obtain ⟨ws, hws⟩ : ∃ ws, Num.splitW 32 x = ws := ⟨_, rfl⟩
      have HWS : Hid (Num.splitW 32 x = ws) := hws
      have HSPX : Hid (∀ W, Calls Tryd.prog 23 #[.string (B8 x), .int .u8 32] W fun e w' => ∃ a n k, e = .returned (.slice a n k) ∧ w'.ownsRow W.heap.size 9 1 (.slice a n k) n (strs ws) ∧ Below W.heap.size W w') := by
        intro W
        have := split_any 32 32 (by decide) x (by have := HXL.out; omega) W
        rw [hws] at this
        exact this
      have HWL : Hid (∀ y ∈ ws, y.length ≤ 2000000) := by
        intro y hy
        rw [← hws] at hy
        have := split_len 32 x y hy
        have := HXL.out
        omega
      have HWN : Hid (ws.length ≤ 1048577) := by
        have := Splits.few (c := 32) (l := x) (i := x.length + 1) (f := 0) (Or.inr ⟨rfl, hws⟩)
        have := HXL.out
        show _ ≤ _
        omega
      have HW1 : Hid (1 ≤ ws.length) := by
        show 1 ≤ _
        cases ws with
        | nil => exact absurd hws (Num.split_ne 32 x)
        | cons y r => rw [List.length_cons]; omega
      clear hws hxm hkl
      generalize B8 x = X at ck HSPX
      go_wp2_with fail
      refine (HSPX.out wr).mono ?_
      rintro e w1 ⟨wa, m, wc, rfl, hwo, hb1⟩
      clear HSPX ck
      have hml : m = ws.length := by have := hwo.1; rw [strs_length] at this; omega
      have hm1 : 1 ≤ m := by have := HW1.out; omega
      obtain ⟨hws1, hwf⟩ := Strs.ofOwn hwo
      obtain ⟨wg, wc', hv, hwg, hwlt⟩ := hwo.form (by omega)
      simp only [Value.slice.injEq, true_and] at hv
      obtain ⟨rfl, rfl⟩ := hv
      have hmc : m ≤ wc := by
        rcases hwf with h | ⟨_, _, _, h⟩
        · omega
        · exact h
      have hm2 : m ≤ 1048577 := by have := HWN.out; omega
      have HML : Hid (m = ws.length) := hml
      have HS1 : Hid (Strs w1 (some ⟨wg, 0, none⟩) m ws) := hws1
      have HB1 : Hid (Below wr.heap.size wr w1) := hb1
      have hw1s := hb1.size
      clear hwo hml hws1 hwf hb1
      by_cases hk0 : k = 0
      · subst hk0
        by_cases hwc : 1 < wc
        · go_wp2_with fail
          have hbZ : Below w1.heap.size w1 (w1.alloc (.cells #[.int .i64 2, .int .i64 0] 32)) := balloc _ _
          have z0 := (cell_new2 (w := w1) rfl (.int .i64 2) (.int .i64 0) 32).1
          have z1 := (cell_new2 (w := w1) rfl (.int .i64 2) (.int .i64 0) 32).2
          have hsZ : (w1.alloc (.cells #[.int .i64 2, .int .i64 0] 32)).heap.size = w1.heap.size + 1 := by simp
          generalize w1.alloc (.cells #[.int .i64 2, .int .i64 0] 32) = Z at *
          refine (numbers_any _ _ _ (ws.drop 1) Z (HS1.out.drop1.below hbZ (Nat.le_refl _)) (by omega) (fun y hy => HWL.out y (List.mem_of_mem_drop hy))).mono ?_
          rintro e w3 ⟨na, nn, nc, rfl, hi, hnn, hb3, hfar⟩
          have hb13 : Below w1.heap.size w1 w3 := bstep hbZ hb3
          have hbr3 : Below wr.heap.size wr w3 := bstep HB1.out hb13
          have HI : Hid (Ints w3 na nn ((Num.numsW (ws.drop 1)).getD [])) := hi
          have HP3 : Hid (PA (u.heap.size + 1 + 1) u.heap.size w3 p) := HP.out.kept hbr3
          have HB3 : Hid (Bare (u.heap.size + 1) w3) := HB.out.kept hbr3
          have hYr3 : Below u.heap.size Y w3 := HBL.out.trans (hbr3.mono (by omega))
          obtain ⟨hbV3, _, _, _⟩ := HQ.out w3 hYr3
          obtain ⟨⟨r0, r1, r2, r3⟩, ⟨f0, f1, f2, f3⟩, hBW⟩ := HBX.out w3 hbV3
          have HFAR : Hid (Far (u.heap.size + 1 + 1) nn na) := Far.mono hfar (by omega)
          have n0 := HB3.out.1
          have n1 := HB3.out.2
          have y0 := carry hb3 z0
          have y1 := carry hb3 z1
          have c0 := ((HS1.out.below hb13 (Nat.le_refl _)).cell 0 (by omega)).1
          have HHW : Hid (Num.headP x = if ws[0]?.getD [] = Num.mostW then Num.numsW (ws.drop 1) else none) := headP_words x ws HWS.out
          have hq0 := eq_B8 (ws[0]?.getD []) Num.mostW
          generalize ws[0]?.getD [] = w0 at c0 HHW hq0
          generalize hX0 : B8 w0 = X0 at c0 hq0
          have hq0' : (X0.toList == (ByteArray.mk #[109, 111, 115, 116]).toList) = decide (w0 = Num.mostW) := hq0
          generalize hok : (Num.numsW (ws.drop 1)).isSome = ok
          have HOK : Hid ((Num.numsW (ws.drop 1)).isSome = ok) := hok
          clear hi hb3 hb13 hbr3 hfar hq0 hok z0 z1 hbZ hsZ hbV hbV3 hlgr
          by_cases hw0 : w0 = Num.mostW
          · rw [← hX0, hw0] at c0
            have c0' : w3.cell? ⟨wg, 0, none⟩ = some (.string (ByteArray.mk #[109, 111, 115, 116])) := c0
            clear c0 hq0'
            have HH2 : Hid (Num.headP x = Num.numsW (ws.drop 1)) := show _ = _ by rw [HHW.out, if_pos hw0]
            clear hw0 HHW hX0
            cases ok with
            | false =>
              have hno : Num.numsW (ws.drop 1) = none := by have := HOK.out; cases h : Num.numsW (ws.drop 1) with
                | none => rfl
                | some c => rw [h] at this; cases this
              have E : Hid (codeR l = 2 ∧ atR l = (0 : Nat) ∧ progR l = ⟨[], []⟩) := HRD.out.ends (by rw [HMO.out, if_pos (by trivial), HH2.out, hno])
              clear hno
              go_wp2_with fail
              go_region
              all_goals go_wp2_with fail
              all_goals refine bodyPost_ret (v := .tuple #[.agg #[.slice none 0 0, .slice none 0 0], .agg #[.int .i64 2, .int .i64 0]]) (by simp [results, Tryd.results11, go_sem, r0, r1, r2, r3]) rfl ⟨none, 0, 0, none, 0, 0, by rw [E.out.1, E.out.2.1]; rfl, ⟨by rw [E.out.2.2]; exact ⟨rfl, Or.inl rfl⟩, by omega⟩, ⟨by rw [E.out.2.2]; exact ⟨rfl, Or.inl rfl⟩, by omega⟩, ((((hBW.drew).setCell (Nat.le_refl _) _).setCell (Nat.le_refl _) _).setCell (Nat.le_succ _) _).setCell (Nat.le_succ _) _⟩
            | true =>
              obtain ⟨cs, hcs⟩ : ∃ cs, Num.numsW (ws.drop 1) = some cs := by have := HOK.out; cases h : Num.numsW (ws.drop 1) with
                | none => rw [h] at this; cases this
                | some c => exact ⟨c, rfl⟩
              have R : Hid (ReadsL l ls (0 + 1) ⟨cs, p.rows⟩) := Eq.trans HRD.out (by rw [HMO.out, if_pos (by trivial), HH2.out, hcs])
              have HI2 : Hid (Ints w3 na nn cs) := by have := HI.out; rw [hcs] at this; exact this
              obtain ⟨ca, cl, cc, v, F, hA⟩ := HP3.out
              have HP4 : Hid (PA (u.heap.size + 1 + 1) u.heap.size (w3.setCell ⟨u.heap.size, 0, none⟩ (.slice na nn nc)) ⟨cs, p.rows⟩) := ⟨na, nn, nc, v, F, hA.setCosts HI2.out hnn HFAR.out⟩
              have HB4 : Hid (Bare (u.heap.size + 1) (w3.setCell ⟨u.heap.size, 0, none⟩ (.slice na nn nc))) := HB3.out.set (by omega) _
              have a0 := hA.c0
              have g0 := hA.f0
              clear hcs hA
              go_wp2_with fail
              go_roundw
              case rel => exact ⟨0 + 1, ⟨cs, p.rows⟩, by omega, by go_num, R.out, by have : p.rows.length ≤ 0 := hpk; show p.rows.length ≤ _; omega, HP4.out, HB4.out, hYr3.setCell (Nat.le_refl _) _⟩
              case measure => simp [intOf]; omega
          · have hne : ¬ X0.toList = [109, 111, 115, 116] := by rw [← hX0, B8_toList]; exact hw0
            clear hq0'
            have e1 : Num.headP x = none := by rw [HHW.out, if_neg hw0]
            have E : Hid (codeR l = 2 ∧ atR l = (0 : Nat) ∧ progR l = ⟨[], []⟩) := HRD.out.ends (by rw [HMO.out, if_pos (by trivial), e1])
            clear e1
            clear hw0 HHW hX0
            go_wp2_with fail
            go_region
            all_goals go_wp2_with fail
            all_goals refine bodyPost_ret (v := .tuple #[.agg #[.slice none 0 0, .slice none 0 0], .agg #[.int .i64 2, .int .i64 0]]) (by simp [results, Tryd.results11, go_sem, r0, r1, r2, r3]) rfl ⟨none, 0, 0, none, 0, 0, by rw [E.out.1, E.out.2.1]; rfl, ⟨by rw [E.out.2.2]; exact ⟨rfl, Or.inl rfl⟩, by omega⟩, ⟨by rw [E.out.2.2]; exact ⟨rfl, Or.inl rfl⟩, by omega⟩, ((((hBW.drew).setCell (Nat.le_refl _) _).setCell (Nat.le_refl _) _).setCell (Nat.le_succ _) _).setCell (Nat.le_succ _) _⟩
        · have hwc1 : wc = 1 := by omega
          have hm1' : m = 1 := by omega
          subst hwc1 hm1'
          have hd0 : ws.drop 1 = [] := List.drop_of_length_le (by have := HML.out; omega)
          have HD0 : Hid (ws.drop 1 = []) := hd0
          clear hd0
          go_wp2_with fail
          have hbZ : Below w1.heap.size w1 (w1.alloc (.cells #[.int .i64 2, .int .i64 0] 32)) := balloc _ _
          have z0 := (cell_new2 (w := w1) rfl (.int .i64 2) (.int .i64 0) 32).1
          have z1 := (cell_new2 (w := w1) rfl (.int .i64 2) (.int .i64 0) 32).2
          have hsZ : (w1.alloc (.cells #[.int .i64 2, .int .i64 0] 32)).heap.size = w1.heap.size + 1 := by simp
          generalize w1.alloc (.cells #[.int .i64 2, .int .i64 0] 32) = Z at *
          refine (numbers_any _ _ _ (ws.drop 1) Z (by rw [HD0.out]; exact Strs.none_) (by omega) (fun y hy => HWL.out y (List.mem_of_mem_drop hy))).mono ?_
          rintro e w3 ⟨na, nn, nc, rfl, hi, hnn, hb3, hfar⟩
          have hb13 : Below w1.heap.size w1 w3 := bstep hbZ hb3
          have hbr3 : Below wr.heap.size wr w3 := bstep HB1.out hb13
          have HI : Hid (Ints w3 na nn ((Num.numsW (ws.drop 1)).getD [])) := hi
          have HP3 : Hid (PA (u.heap.size + 1 + 1) u.heap.size w3 p) := HP.out.kept hbr3
          have HB3 : Hid (Bare (u.heap.size + 1) w3) := HB.out.kept hbr3
          have hYr3 : Below u.heap.size Y w3 := HBL.out.trans (hbr3.mono (by omega))
          obtain ⟨hbV3, _, _, _⟩ := HQ.out w3 hYr3
          obtain ⟨⟨r0, r1, r2, r3⟩, ⟨f0, f1, f2, f3⟩, hBW⟩ := HBX.out w3 hbV3
          have HFAR : Hid (Far (u.heap.size + 1 + 1) nn na) := Far.mono hfar (by omega)
          have n0 := HB3.out.1
          have n1 := HB3.out.2
          have y0 := carry hb3 z0
          have y1 := carry hb3 z1
          have c0 := ((HS1.out.below hb13 (Nat.le_refl _)).cell 0 (by omega)).1
          have HHW : Hid (Num.headP x = if ws[0]?.getD [] = Num.mostW then Num.numsW (ws.drop 1) else none) := headP_words x ws HWS.out
          have hq0 := eq_B8 (ws[0]?.getD []) Num.mostW
          generalize ws[0]?.getD [] = w0 at c0 HHW hq0
          generalize hX0 : B8 w0 = X0 at c0 hq0
          have hq0' : (X0.toList == (ByteArray.mk #[109, 111, 115, 116]).toList) = decide (w0 = Num.mostW) := hq0
          generalize hok : (Num.numsW (ws.drop 1)).isSome = ok
          have HOK : Hid ((Num.numsW (ws.drop 1)).isSome = ok) := hok
          clear hi hb3 hb13 hbr3 hfar hq0 hok z0 z1 hbZ hsZ hbV hbV3 hlgr
          by_cases hw0 : w0 = Num.mostW
          · rw [← hX0, hw0] at c0
            have c0' : w3.cell? ⟨wg, 0, none⟩ = some (.string (ByteArray.mk #[109, 111, 115, 116])) := c0
            clear c0 hq0'
            have HH2 : Hid (Num.headP x = Num.numsW (ws.drop 1)) := show _ = _ by rw [HHW.out, if_pos hw0]
            clear hw0 HHW hX0
            cases ok with
            | false =>
              have hno : Num.numsW (ws.drop 1) = none := by have := HOK.out; cases h : Num.numsW (ws.drop 1) with
                | none => rfl
                | some c => rw [h] at this; cases this
              have E : Hid (codeR l = 2 ∧ atR l = (0 : Nat) ∧ progR l = ⟨[], []⟩) := HRD.out.ends (by rw [HMO.out, if_pos (by trivial), HH2.out, hno])
              clear hno
              go_wp2_with fail
              go_region
              all_goals go_wp2_with fail
              all_goals refine bodyPost_ret (v := .tuple #[.agg #[.slice none 0 0, .slice none 0 0], .agg #[.int .i64 2, .int .i64 0]]) (by simp [results, Tryd.results11, go_sem, r0, r1, r2, r3]) rfl ⟨none, 0, 0, none, 0, 0, by rw [E.out.1, E.out.2.1]; rfl, ⟨by rw [E.out.2.2]; exact ⟨rfl, Or.inl rfl⟩, by omega⟩, ⟨by rw [E.out.2.2]; exact ⟨rfl, Or.inl rfl⟩, by omega⟩, ((((hBW.drew).setCell (Nat.le_refl _) _).setCell (Nat.le_refl _) _).setCell (Nat.le_succ _) _).setCell (Nat.le_succ _) _⟩
            | true =>
              obtain ⟨cs, hcs⟩ : ∃ cs, Num.numsW (ws.drop 1) = some cs := by have := HOK.out; cases h : Num.numsW (ws.drop 1) with
                | none => rw [h] at this; cases this
                | some c => exact ⟨c, rfl⟩
              have R : Hid (ReadsL l ls (0 + 1) ⟨cs, p.rows⟩) := Eq.trans HRD.out (by rw [HMO.out, if_pos (by trivial), HH2.out, hcs])
              have HI2 : Hid (Ints w3 na nn cs) := by have := HI.out; rw [hcs] at this; exact this
              obtain ⟨ca, cl, cc, v, F, hA⟩ := HP3.out
              have HP4 : Hid (PA (u.heap.size + 1 + 1) u.heap.size (w3.setCell ⟨u.heap.size, 0, none⟩ (.slice na nn nc)) ⟨cs, p.rows⟩) := ⟨na, nn, nc, v, F, hA.setCosts HI2.out hnn HFAR.out⟩
              have HB4 : Hid (Bare (u.heap.size + 1) (w3.setCell ⟨u.heap.size, 0, none⟩ (.slice na nn nc))) := HB3.out.set (by omega) _
              have a0 := hA.c0
              have g0 := hA.f0
              clear hcs hA
              go_wp2_with fail
              go_roundw
              case rel => exact ⟨0 + 1, ⟨cs, p.rows⟩, by omega, by go_num, R.out, by have : p.rows.length ≤ 0 := hpk; show p.rows.length ≤ _; omega, HP4.out, HB4.out, hYr3.setCell (Nat.le_refl _) _⟩
              case measure => simp [intOf]; omega
          · have hne : ¬ X0.toList = [109, 111, 115, 116] := by rw [← hX0, B8_toList]; exact hw0
            clear hq0'
            have e1 : Num.headP x = none := by rw [HHW.out, if_neg hw0]
            have E : Hid (codeR l = 2 ∧ atR l = (0 : Nat) ∧ progR l = ⟨[], []⟩) := HRD.out.ends (by rw [HMO.out, if_pos (by trivial), e1])
            clear e1
            clear hw0 HHW hX0
            go_wp2_with fail
            go_region
            all_goals go_wp2_with fail
            all_goals refine bodyPost_ret (v := .tuple #[.agg #[.slice none 0 0, .slice none 0 0], .agg #[.int .i64 2, .int .i64 0]]) (by simp [results, Tryd.results11, go_sem, r0, r1, r2, r3]) rfl ⟨none, 0, 0, none, 0, 0, by rw [E.out.1, E.out.2.1]; rfl, ⟨by rw [E.out.2.2]; exact ⟨rfl, Or.inl rfl⟩, by omega⟩, ⟨by rw [E.out.2.2]; exact ⟨rfl, Or.inl rfl⟩, by omega⟩, ((((hBW.drew).setCell (Nat.le_refl _) _).setCell (Nat.le_refl _) _).setCell (Nat.le_succ _) _).setCell (Nat.le_succ _) _⟩
      · have hk0' : ((k : Int) == 0) = false := by rw [beq_eq_false_iff_ne]; omega
        have hbZ : Below w1.heap.size w1 (w1.alloc (.cells #[.int .i64 2, .int .i64 k] 32)) := balloc _ _
        have hbrZ : Below wr.heap.size wr (w1.alloc (.cells #[.int .i64 2, .int .i64 k] 32)) := bstep HB1.out hbZ
        have z0 := (cell_new2 (w := w1) rfl (.int .i64 2) (.int .i64 k) 32).1
        have z1 := (cell_new2 (w := w1) rfl (.int .i64 2) (.int .i64 k) 32).2
        have hsZ : (w1.alloc (.cells #[.int .i64 2, .int .i64 k] 32)).heap.size = w1.heap.size + 1 := by simp
        have HRP : Hid (Num.rowP x = if ws.length < 2 ∨ ws[ws.length - 2]?.getD [] ≠ Num.leW then none else (Num.numsW (ws.take (ws.length - 2))).bind fun o => (Num.numW (ws[ws.length - 1]?.getD [])).map fun m => (o, m)) := rowP_words x ws HWS.out
        have HNO : Hid (Num.rowP x = none → codeR l = 2 ∧ atR l = k ∧ progR l = ⟨[], []⟩) := fun h => HRD.out.ends (by rw [HMO.out, if_neg hk0, h])
        have HYS : Hid (∀ q, Num.rowP x = some q → ReadsL l ls (k + 1) ⟨p.costs, p.rows ++ [q]⟩) := fun q h => Eq.trans HRD.out (by rw [HMO.out, if_neg hk0, h])
        have HSET : Hid (∀ W, Below wr.heap.size wr W → PA (u.heap.size + 1 + 1) u.heap.size W p ∧ Bare (u.heap.size + 1) W ∧ Below u.heap.size Y W ∧ Below V.heap.size V W) := fun W h => by
          have hY : Below u.heap.size Y W := HBL.out.trans (h.mono (by omega))
          exact ⟨HP.out.kept h, HB.out.kept h, hY, (HQ.out W hY).1⟩
        by_cases hm2' : (m : Int) < 2
        · have E : Hid (codeR l = 2 ∧ atR l = k ∧ progR l = ⟨[], []⟩) := HNO.out (by rw [HRP.out, if_pos (Or.inl (by have := HML.out; omega))])
          obtain ⟨_, hba3, _, hbV3⟩ := HSET.out _ hbrZ
          obtain ⟨⟨r0, r1, r2, r3⟩, ⟨f0, f1, f2, f3⟩, hBW⟩ := HBX.out _ hbV3
          have n0 := hba3.1
          have n1 := hba3.2
          generalize hZ : w1.alloc (.cells #[.int .i64 2, .int .i64 k] 32) = Z at *
          clear hba3 hbV3 hbrZ hbZ hsZ
          go_wp2_with fail
          go_region
          all_goals go_wp2_with fail
          all_goals refine bodyPost_ret (v := .tuple #[.agg #[.slice none 0 0, .slice none 0 0], .agg #[.int .i64 2, .int .i64 k]]) (by simp [results, Tryd.results11, go_sem, r0, r1, r2, r3]) rfl ⟨none, 0, 0, none, 0, 0, by rw [E.out.1, E.out.2.1], ⟨by rw [E.out.2.2]; exact ⟨rfl, Or.inl rfl⟩, by omega⟩, ⟨by rw [E.out.2.2]; exact ⟨rfl, Or.inl rfl⟩, by omega⟩, ((((hBW.drew).setCell (Nat.le_refl _) _).setCell (Nat.le_refl _) _).setCell (Nat.le_succ _) _).setCell (Nat.le_succ _) _⟩
        · obtain ⟨m, rfl⟩ : ∃ m', m = m' + 2 := ⟨m - 2, by omega⟩
          have hsub : wrap64 (((m + 2 : Nat) : Int) - 2) = (m : Int) := by rw [IntWalk.wrap64_in _ (by omega)]; omega
          have cA := ((HS1.out.below hbZ (Nat.le_refl _)).cell m (by omega)).1
          have HML2 : Hid (ws.length - 2 = m ∧ ws.length - 1 = m + 1 ∧ ¬ ws.length < 2) := by have := HML.out; show _ ∧ _; omega
          obtain ⟨_, hba3, _, hbV3⟩ := HSET.out _ hbrZ
          obtain ⟨⟨r0, r1, r2, r3⟩, ⟨f0, f1, f2, f3⟩, hBW⟩ := HBX.out _ hbV3
          have n0 := hba3.1
          have n1 := hba3.2
          generalize hZ : w1.alloc (.cells #[.int .i64 2, .int .i64 k] 32) = Z at *
          have hwgZ : wg < Z.heap.size := by omega
          by_cases hle : ws[m]?.getD [] = Num.leW
          · rw [hle] at cA
            have cA' : Z.cell? ⟨wg, m, none⟩ = some (.string (ByteArray.mk #[60, 61])) := cA
            clear cA
            clear r0 r1 r2 r3 f0 f1 f2 f3 hBW n0 n1 hba3 hbV3
            go_wp2_with fail
            refine (numbers_any (some ⟨wg, 0, none⟩) m wc (ws.take m) Z ((HS1.out.take m (by omega)).below hbZ (Nat.le_refl _)) (by omega) (fun y hy => HWL.out y (List.mem_of_mem_take hy))).mono ?_
            rintro e w3 ⟨na, nn, nc, rfl, hi, hnn, hb3, hfar⟩
            have hb13 : Below w1.heap.size w1 w3 := bstep hbZ hb3
            have hbr3 : Below wr.heap.size wr w3 := bstep HB1.out hb13
            have HI : Hid (Ints w3 na nn ((Num.numsW (ws.take m)).getD [])) := hi
            have HFAR : Hid (Far (u.heap.size + 1 + 1) nn na) := Far.mono hfar (by omega)
            have cB := ((HS1.out.below hb13 (Nat.le_refl _)).cell (m + 1) (by omega)).1
            have HLB : Hid ((ws[m + 1]?.getD []).length ≤ 2000000) := HWL.out _ (by rw [List.getElem?_eq_getElem (by have := HML.out; omega)]; exact List.getElem_mem _)
            have HRP2 : Hid (Num.rowP x = (Num.numsW (ws.take m)).bind fun o => (Num.numW (ws[m + 1]?.getD [])).map fun m => (o, m)) := show _ = _ by
              rw [HRP.out, if_neg (by rintro (h | h); exact HML2.out.2.2 h; rw [HML2.out.1] at h; exact h hle), HML2.out.1, HML2.out.2.1]
            generalize ws[m + 1]?.getD [] = wB at cB HLB HRP2
            have y0 := carry hb3 z0
            have y1 := carry hb3 z1
            obtain ⟨hpa3, hba3, hYr3, hbV3⟩ := HSET.out _ hbr3
            obtain ⟨⟨r0, r1, r2, r3⟩, ⟨f0, f1, f2, f3⟩, hBW⟩ := HBX.out _ hbV3
            have n0 := hba3.1
            have n1 := hba3.2
            have HP3 : Hid (PA (u.heap.size + 1 + 1) u.heap.size w3 p) := hpa3
            have HB3 : Hid (Bare (u.heap.size + 1) w3) := hba3
            have HN : Hid (∀ W, Calls Tryd.prog 25 #[.string (B8 wB)] W fun e w' => e = .returned (.tuple #[.int .i64 ((Num.numW wB).getD 0), .bool (Num.numW wB).isSome]) ∧ w' = W) := fun W => number_any wB HLB.out W
            generalize B8 wB = XB at cB HN
            have hwg3 : wg < w3.heap.size := by have := hb3.size; omega
            have hsub1 : wrap64 (((m + 2 : Nat) : Int) - 1) = ((m + 1 : Nat) : Int) := by rw [IntWalk.wrap64_in _ (by omega)]; omega
            generalize hok : (Num.numsW (ws.take m)).isSome = ok
            have HOK : Hid ((Num.numsW (ws.take m)).isSome = ok) := hok
            clear hi hb3 hb13 hbr3 hfar z0 z1 hbZ hbrZ hbV3 hlgr hle hok cA' hpa3 hba3 hwgZ
            go_wp2_with fail
            refine (HN.out w3).mono ?_
            rintro e w4 ⟨rfl, rfl⟩
            clear HN cB
            generalize hiz : (Num.numW wB).isSome = iz
            generalize hmv : (Num.numW wB).getD 0 = mv
            have HIZ : Hid ((Num.numW wB).isSome = iz) := hiz
            have HMV : Hid ((Num.numW wB).getD 0 = mv) := hmv
            clear hiz hmv
            cases ok with
            | false =>
              have E : Hid (codeR l = 2 ∧ atR l = k ∧ progR l = ⟨[], []⟩) := HNO.out (by
                rw [HRP2.out]
                have := HOK.out
                cases h : Num.numsW (ws.take m) with
                | none => rfl
                | some c => rw [h] at this; cases this)
              go_wp2_with fail
              go_region
              all_goals go_wp2_with fail
              all_goals refine bodyPost_ret (v := .tuple #[.agg #[.slice none 0 0, .slice none 0 0], .agg #[.int .i64 2, .int .i64 k]]) (by simp [results, Tryd.results11, go_sem, r0, r1, r2, r3]) rfl ⟨none, 0, 0, none, 0, 0, by rw [E.out.1, E.out.2.1], ⟨by rw [E.out.2.2]; exact ⟨rfl, Or.inl rfl⟩, by omega⟩, ⟨by rw [E.out.2.2]; exact ⟨rfl, Or.inl rfl⟩, by omega⟩, ((((hBW.drew).setCell (Nat.le_refl _) _).setCell (Nat.le_refl _) _).setCell (Nat.le_succ _) _).setCell (Nat.le_succ _) _⟩
            | true =>
              cases iz with
              | false =>
                have E : Hid (codeR l = 2 ∧ atR l = k ∧ progR l = ⟨[], []⟩) := HNO.out (by
                  rw [HRP2.out]
                  have := HIZ.out
                  cases h : Num.numW wB with
                  | none => cases Num.numsW (ws.take m) <;> rfl
                  | some c => rw [h] at this; cases this)
                go_wp2_with fail
                go_region
                all_goals go_wp2_with fail
                all_goals refine bodyPost_ret (v := .tuple #[.agg #[.slice none 0 0, .slice none 0 0], .agg #[.int .i64 2, .int .i64 k]]) (by simp [results, Tryd.results11, go_sem, r0, r1, r2, r3]) rfl ⟨none, 0, 0, none, 0, 0, by rw [E.out.1, E.out.2.1], ⟨by rw [E.out.2.2]; exact ⟨rfl, Or.inl rfl⟩, by omega⟩, ⟨by rw [E.out.2.2]; exact ⟨rfl, Or.inl rfl⟩, by omega⟩, ((((hBW.drew).setCell (Nat.le_refl _) _).setCell (Nat.le_refl _) _).setCell (Nat.le_succ _) _).setCell (Nat.le_succ _) _⟩
              | true =>
                obtain ⟨os, hos⟩ : ∃ os, Num.numsW (ws.take m) = some os := by
                  have := HOK.out
                  cases h : Num.numsW (ws.take m) with
                  | none => rw [h] at this; cases this
                  | some c => exact ⟨c, rfl⟩
                have hmv2 : Num.numW wB = some mv := by
                  have := HIZ.out
                  have h2 := HMV.out
                  cases h : Num.numW wB with
                  | none => rw [h] at this; cases this
                  | some c => rw [h] at h2; rw [← h2]; rfl
                have R : Hid (ReadsL l ls (k + 1) ⟨p.costs, p.rows ++ [(os, mv)]⟩) := HYS.out _ (by rw [HRP2.out, hos, hmv2]; rfl)
                have HI2 : Hid (Ints w4 na nn os) := by have := HI.out; rw [hos] at this; exact this
                obtain ⟨ca, cl, cc, v, F, hA⟩ := HP3.out
                have HA : Hid (PAt (u.heap.size + 1 + 1) u.heap.size w4 p ca cl cc v F) := hA
                have a1 := hA.c1
                have g1 := hA.f1
                have hus4 : u.heap.size + 1 + 1 ≤ w4.heap.size := hA.hi
                obtain ⟨va, vc, hv⟩ := hA.rows.shape
                clear hA
                generalize hrl : p.rows.length = rl at *
                have HRL : Hid (p.rows.length = rl) := hrl
                subst hv
                obtain ⟨vs, hov, hvin⟩ := HA.out.rows
                obtain ⟨i0, hif, hz0, hz1, hz2⟩ := info_parts Tryd.infoRow5
                have HOW : Hid (w4.ownsRow (u.heap.size + 1 + 1) 51 2 (.slice va rl vc) rl vs) := by show w4.ownsRow _ _ _ _ _ _; rw [HRL.out] at hov; exact hov
                have HVIN : Hid _ := hvin
                clear hos hmv2 hov hvin hrl n0 n1 y0 y1 r0 r1 r2 r3 f0 f1 f2 f3
                go_wp2_with (at_builtin; refine wpList_append_own _ rfl (.tmp 97) (.tmp 101) 23 rfl (u.heap.size + 1 + 1) 51 i0 (.agg #[.slice none 0 0, .int .i64 0]) 2 32 Tryd.underlying23 hif hz0 hz1 hz2 rfl (by decide) _ _ _ rfl (by exact World.ownsRow.alloc HOW.out _) ⟨w4.heap.size, 0, none⟩ 1 1 [.slice na nn nc, .int .i64 mv] rfl rfl ?cn1 ?cn2 ?cn3 ?cn4 ?cn5 ?_)
                case cn1 => exact news_two
                case cn2 =>
                  intro u hu
                  simp only [List.mem_cons, List.not_mem_nil, or_false] at hu
                  rcases hu with rfl | rfl <;> rfl
                case cn3 => unfold maxLen; omega
                case cn4 => omega
                case cn5 => simp; omega
                intro v' w5 hown' hgrow _
                obtain ⟨a', c', hv'⟩ := own_shape2 hown'
                subst hv'
                have hWb : Below w4.heap.size w4 (w4.alloc (.cells #[.slice na nn nc, .int .i64 mv] 51)) := balloc _ _
                have hfarW : ∀ j, (Value.slice va rl vc).ownBlock = some j → u.heap.size + 1 + 1 ≤ j := fun j hj => (World.ownsRow.lt HOW.out j hj).1
                have hne0 : some u.heap.size ≠ (Value.slice va rl vc).ownBlock := fun e => by have := hfarW _ e.symm; omega
                have hne1 : some (u.heap.size + 1) ≠ (Value.slice va rl vc).ownBlock := fun e => by have := hfarW _ e.symm; omega
                have hW4 : (w4.alloc (.cells #[.slice na nn nc, .int .i64 mv] 51)).heap.size = w4.heap.size + 1 := by simp
                have HP5 : Hid (PA (u.heap.size + 1 + 1) u.heap.size (w5.setCell ⟨u.heap.size, 1, none⟩ (.slice a' (rl + 1) c')) ⟨p.costs, p.rows ++ [(os, mv)]⟩) :=
                  PAt.push (HA.out.kept hWb) hgrow (by rw [HRL.out]; exact HOW.out.alloc _) HVIN.out (HI2.out.below hWb (Nat.le_refl _)) hnn HFAR.out (by rw [HRL.out]; exact hown')
                have b0 : w5.cell? ⟨u.heap.size, 1, none⟩ = some (.slice va rl vc) := by rw [hgrow.cell_far ⟨u.heap.size, 1, none⟩ (by rw [hW4]; show u.heap.size < _; omega) hne0]; exact carry hWb a1
                have b1 : w5.frozen? ⟨u.heap.size, 1, none⟩ = false := by rw [hgrow.frozen_far ⟨u.heap.size, 1, none⟩ (by rw [hW4]; show u.heap.size < _; omega) hne0]; exact carryF hWb a1 g1
                have HB5 : Hid (Bare (u.heap.size + 1) (w5.setCell ⟨u.heap.size, 1, none⟩ (.slice a' (rl + 1) c'))) := by
                  refine Bare.set (b := u.heap.size + 1) ⟨?_, ?_⟩ (by omega) _
                  · rw [hgrow.cell_far ⟨u.heap.size + 1, 0, none⟩ (by rw [hW4]; show u.heap.size + 1 < _; omega) hne1]; exact (HB3.out.kept hWb).1
                  · rw [hgrow.cell_far ⟨u.heap.size + 1, 1, none⟩ (by rw [hW4]; show u.heap.size + 1 < _; omega) hne1]; exact (HB3.out.kept hWb).2
                have HY5 : Hid (Below u.heap.size Y (w5.setCell ⟨u.heap.size, 1, none⟩ (.slice a' (rl + 1) c'))) := by
                  refine Below.setCell (p := ⟨u.heap.size, 1, none⟩) ?_ (Nat.le_refl u.heap.size) _
                  exact Below.grown (hYr3.trans (hWb.mono (by omega))) hgrow (by rw [hW4]; omega) (fun j hj => by have := hfarW j hj; omega)
                have HPL : Hid ((p.rows ++ [(os, mv)]).length ≤ k + 1) := by show _ ≤ _; rw [List.length_append, List.length_singleton, HRL.out]; omega
                clear hown' hgrow a1 g1 hne0 hne1 hfarW hW4 hWb
                go_wp2_with fail
                go_roundw
                case rel => exact ⟨k + 1, ⟨p.costs, p.rows ++ [(os, mv)]⟩, by omega, by go_num, R.out, HPL.out, HP5.out, HB5.out, HY5.out⟩
                case measure => simp [intOf]; omega
          · have E : Hid (codeR l = 2 ∧ atR l = k ∧ progR l = ⟨[], []⟩) := HNO.out (by rw [HRP.out, if_pos (Or.inr (by rw [HML2.out.1]; exact hle))])
            have hne : ¬ (B8 (ws[m]?.getD [])).toList = [60, 61] := by rw [B8_toList]; exact hle
            have hne2 : ((B8 (ws[m]?.getD [])).toList == [60, 61]) = false := by rw [beq_eq_false_iff_ne]; exact hne
            generalize B8 (ws[m]?.getD []) = XA at cA hne hne2
            clear hle hba3 hbV3 hbrZ hbZ hsZ
            go_wp2_with fail
            go_region
            all_goals go_wp2_with fail
            all_goals refine bodyPost_ret (v := .tuple #[.agg #[.slice none 0 0, .slice none 0 0], .agg #[.int .i64 2, .int .i64 k]]) (by simp [results, Tryd.results11, go_sem, r0, r1, r2, r3]) rfl ⟨none, 0, 0, none, 0, 0, by rw [E.out.1, E.out.2.1], ⟨by rw [E.out.2.2]; exact ⟨rfl, Or.inl rfl⟩, by omega⟩, ⟨by rw [E.out.2.2]; exact ⟨rfl, Or.inl rfl⟩, by omega⟩, ((((hBW.drew).setCell (Nat.le_refl _) _).setCell (Nat.le_refl _) _).setCell (Nat.le_succ _) _).setCell (Nat.le_succ _) _⟩
    · have hkn : k = n := by omega
      subst hkn
      have ck := (HSR.out.cell k (by omega)).1
      have HEN : Hid (Num.readGo k p (ls.drop k) = if ls[k]?.getD [] = [] ∧ p.may = true then .ok p else .error k) := goL_end ls k p (by have := HNL.out; omega)
      obtain ⟨⟨r0, r1, r2, r3⟩, ⟨f0, f1, f2, f3⟩, hBW⟩ := HBX.out _ hbV
      have n0 := HB.out.1
      have n1 := HB.out.2
      by_cases hx0 : ls[k]?.getD [] = []
      · rw [hx0] at ck
        have ck' : wr.cell? ⟨lg, k, none⟩ = some (.string (ByteArray.mk #[])) := ck
        obtain ⟨ca, cl, cc, v, F, hA⟩ := HP.out
        obtain ⟨ra, rc, hv, hrows⟩ := hA.rowsAt
        subst hv
        have c0 := hA.c0
        have c1 := hA.c1
        have HC : Hid (Ints wr ca cl p.costs) := hA.costs
        have HR : Hid (RowsAt wr ra p.rows.length p.rows) := hrows
        have hcl := hA.few
        generalize hrl : p.rows.length = rl at *
        have HA : Hid (PAt (u.heap.size + 1 + 1) u.heap.size wr p ca cl cc (.slice ra rl rc) F) := hA
        clear hA hrows hrl ck
        go_wp2_with fail
        refine (r2may_any ca cl cc ra rl rc p wr HC.out (by omega) HR.out (by omega)).mono ?_
        rintro e w1 ⟨rfl, hb1⟩
        have hbV1 := bstep hbV hb1
        obtain ⟨⟨s0, s1, s2, s3⟩, ⟨t0, t1, t2, t3⟩, hBW1⟩ := HBX.out _ hbV1
        have d0 := carry hb1 c0
        have d1 := carry hb1 c1
        have m0 := carry hb1 n0
        have m1 := carry hb1 n1
        have HA1 : Hid (PAt (u.heap.size + 1 + 1) u.heap.size w1 p ca cl cc (.slice ra rl rc) F) := HA.out.kept hb1
        have hw1 : w.heap.size + 1 < u.heap.size := by omega
        clear c0 c1 n0 n1 r0 r1 r2 r3 f0 f1 f2 f3 hBW hb1 hbV1
        cases hm : p.may with
        | true =>
          have E : Hid (codeR l = 0 ∧ atR l = 0 ∧ progR l = p) := HRD.out.fine (by rw [HEN.out, if_pos ⟨hx0, hm⟩])
          clear hm hx0
          go_wp2_with fail
          have hA4 := (((HA1.out.setLow (b := w.heap.size) (j := 0) (by omega) (by omega) (.slice ca cl cc)).setLow (b := w.heap.size) (j := 1) (by omega) (by omega) (.slice ra rl rc)).setLow (b := w.heap.size + 1) (j := 0) (by omega) (by omega) (.int .i64 0)).setLow (b := w.heap.size + 1) (j := 1) (by omega) (by omega) (.int .i64 0)
          obtain ⟨ra', rc', e', hrows⟩ := hA4.rowsAt
          simp only [Value.slice.injEq] at e'
          obtain ⟨rfl, hrl', rfl⟩ := e'
          rw [← hrl'] at hrows
          refine bodyPost_ret (v := .tuple #[.agg #[.slice ca cl cc, .slice ra rl rc], .agg #[.int .i64 0, .int .i64 0]]) (by simp [results, Tryd.results11, go_sem, s0, s1, s2, s3]) rfl ⟨ca, cl, cc, ra, rl, rc, by rw [E.out.1, E.out.2.1], ⟨by rw [E.out.2.2]; exact hA4.costs, hcl⟩, ⟨by rw [E.out.2.2]; exact hrows, by omega⟩, (((hBW1.setCell (Nat.le_refl _) _).setCell (Nat.le_refl _) _).setCell (Nat.le_succ _) _).setCell (Nat.le_succ _) _⟩
        | false =>
          have E : Hid (codeR l = 2 ∧ atR l = k ∧ progR l = ⟨[], []⟩) := HRD.out.ends (by rw [HEN.out, if_neg (by rintro ⟨_, h⟩; rw [hm] at h; cases h)])
          clear hm hx0
          go_wp2_with fail
          refine bodyPost_ret (v := .tuple #[.agg #[.slice none 0 0, .slice none 0 0], .agg #[.int .i64 2, .int .i64 k]]) (by simp [results, Tryd.results11, go_sem, s0, s1, s2, s3]) rfl ⟨none, 0, 0, none, 0, 0, by rw [E.out.1, E.out.2.1], ⟨by rw [E.out.2.2]; exact ⟨rfl, Or.inl rfl⟩, by omega⟩, ⟨by rw [E.out.2.2]; exact ⟨rfl, Or.inl rfl⟩, by omega⟩, (((hBW1.setCell (Nat.le_refl _) _).setCell (Nat.le_refl _) _).setCell (Nat.le_succ _) _).setCell (Nat.le_succ _) _⟩
      · have E : Hid (codeR l = 2 ∧ atR l = k ∧ progR l = ⟨[], []⟩) := HRD.out.ends (by rw [HEN.out, if_neg (fun h => hx0 h.1)])
        have hq : (B8 (ls[k]?.getD [])).toList.isEmpty = false := by
          rw [B8_toList]
          cases h : ls[k]?.getD [] with
          | nil => exact absurd h hx0
          | cons y r => rfl
        generalize B8 (ls[k]?.getD []) = XN at ck hq
        clear hx0
        go_wp2_with fail
        refine bodyPost_ret (v := .tuple #[.agg #[.slice none 0 0, .slice none 0 0], .agg #[.int .i64 2, .int .i64 k]]) (by simp [results, Tryd.results11, go_sem, r0, r1, r2, r3]) rfl ⟨none, 0, 0, none, 0, 0, by rw [E.out.1, E.out.2.1], ⟨by rw [E.out.2.2]; exact ⟨rfl, Or.inl rfl⟩, by omega⟩, ⟨by rw [E.out.2.2]; exact ⟨rfl, Or.inl rfl⟩, by omega⟩, (((hBW.setCell (Nat.le_refl _) _).setCell (Nat.le_refl _) _).setCell (Nat.le_succ _) _).setCell (Nat.le_succ _) _⟩

end Go.Proofs.YtipcbhodlgoflabDoor
