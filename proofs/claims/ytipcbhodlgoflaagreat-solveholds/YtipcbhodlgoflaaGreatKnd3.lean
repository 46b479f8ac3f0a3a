/- What the document's Kind (chapter 3) does. -/
import Derived.Test.YtipcbhodlgoflaaGreatKnd12
import Derived.Test.YtipcbhodlgoflaaGreatCornR
import Derived.Test.YtipcbhodlgoflaaGreatWlkAB
import Derived.Deep.CutRange
namespace Go.Proofs.YtipcbhodlgoflaaGreat
open Go.RowKit

theorem Num.any_take_succ (f : List Int → Bool) (A : List (List Int)) (q : Nat) (h : q < A.length) : (A.take (q + 1)).any f = ((A.take q).any f || f (A[q]?.getD [])) := by
  rw [List.take_add_one, List.any_append, List.getElem?_eq_getElem h]
  simp

theorem Num.any_at (f : List Int → Bool) (A : List (List Int)) (q : Nat) (h : q < A.length) (hf : f (A[q]?.getD []) = true) : A.any f = true := by
  rw [List.getElem?_eq_getElem h] at hf
  rw [List.any_eq_true]
  exact ⟨_, List.getElem_mem h, hf⟩

set_option maxRecDepth 4000 in
set_option maxHeartbeats 3200000 in
theorem kind_any (ca : Option Addr) (cl cc : Nat) (ra : Option Addr) (rl rc : Nat) (p : Num.Lp) (w : World) (hc : Ints w ca cl p.costs) (hr : RowsAt w ra rl p.rows) (hm : p.may = true) :
    Calls Tryz.prog 7 #[.agg #[.slice ca cl cc, .slice ra rl rc]] w fun e w' => e = .returned (.int .i64 (Num.kindN p)) ∧ Below w.heap.size w w' := by
  have HC : Hid (Ints w ca cl p.costs) := hc
  have HR : Hid (RowsAt w ra rl p.rows) := hr
  have HM : Hid (p.may = true) := hm
  have HCL : Hid (cl = p.costs.length) := hc.1
  have HRL : Hid (rl = p.rows.length) := hr.1
  have hc4 : cl ≤ 4 ∧ 1 ≤ cl := by have := hc.1; have := (p.may_of hm).1; omega
  have hr4 : rl ≤ 4 ∧ 1 ≤ rl := by have := hr.1; have := (p.may_of hm).2.2.1; omega
  obtain ⟨_, hAr⟩ := Num.all_len rl cl hr4.2 hr4.1 hc4.2 hc4.1
  have HRT : Hid (∀ q, q < (Num.allC rl (cl + rl)).length → Num.rightB ((Num.allC rl (cl + rl))[q]?.getD []) rl (cl + rl) = true) := fun q hq => by
    rw [List.getElem?_eq_getElem hq]
    exact hAr _ (List.getElem_mem _)
  have HKN : Hid (Num.kindN p = if (Num.allC rl (cl + rl)).any (Num.topB p) = true then 1 else if (Num.allC rl (cl + rl)).any (Num.goodB p) = true then 2 else 3) := by rw [HCL.out, HRL.out]; rfl
  clear hc hr hm hAr
  generalize Num.kindN p = KN at *
  have KA := all3_any ca cl cc ra rl rc (w.alloc (.cells #[.slice ca cl cc, .slice ra rl rc] 25)) hc4 hr4
  generalize Num.allC rl (cl + rl) = A at *
  have HBV : Hid (∀ w', Below (w.alloc (.cells #[.slice ca cl cc, .slice ra rl rc] 25)).heap.size (w.alloc (.cells #[.slice ca cl cc, .slice ra rl rc] 25)) w' → (w'.cell? ⟨w.heap.size, 0, none⟩ = some (.slice ca cl cc) ∧ w'.cell? ⟨w.heap.size, 1, none⟩ = some (.slice ra rl rc)) ∧ Below w.heap.size w w' ∧ w.heap.size < w'.heap.size) := fun w' h => ⟨(kept2 h).1, binto h, by have := h.size; simp at this; omega⟩
  have HKA : Hid _ := KA
  clear KA
  go_enter Tryz.func7, Tryz.ntmps7
  go_wp2_with fail
  refine Calls.mono HKA.out ?_
  rintro e w1 ⟨la, ll, lc, rfl, hli, hll, hb1⟩
  have HLI : Hid (LinesN w1 la ll A) := hli
  have hlA : ll = A.length := hli.1
  clear hli HKA
  generalize hV : w.alloc (.cells #[.slice ca cl cc, .slice ra rl rc] 25) = V at *
  clear hV
  go_wp2_with fail
  go_loopw [4, 5] (fun gs i wr => ∃ q : Nat, q ≤ ll ∧ i = .int .i64 q ∧ gs = .bool ((A.take q).any (Num.goodB p)) ∧ (A.take q).any (Num.topB p) = false ∧ Below w1.heap.size w1 wr) (fun _ i _ => ll - (intOf i).toNat)
  case atStart => exact ⟨0, Nat.zero_le _, rfl, rfl, rfl, Below.refl _ _⟩
  case round =>
    obtain ⟨q, hq, rfl, rfl, htop, hbl⟩ := hrel
    have HTOP : Hid ((A.take q).any (Num.topB p) = false) := htop
    have hblV := bstep hb1 hbl
    obtain ⟨⟨b0, b1⟩, hB, hz⟩ := HBV.out wr hblV
    clear htop
    by_cases hlt : q < ll
    · rcases (LinesN.below HLI.out hbl).2 with h | ⟨lb, lo, hle, hlb, hlc⟩
      · omega
      obtain ⟨ta, tl, tc, ct, hit⟩ := hlc q hlt
      have hrt := HRT.out q (by omega)
      have hGS : (A.take (q + 1)).any (Num.goodB p) = ((A.take q).any (Num.goodB p) || Num.goodB p (A[q]?.getD [])) := Num.any_take_succ _ A q (by omega)
      have hTS : (A.take (q + 1)).any (Num.topB p) = ((A.take q).any (Num.topB p) || Num.topB p (A[q]?.getD [])) := Num.any_take_succ _ A q (by omega)
      have hTO : Num.topB p (A[q]?.getD []) = true → A.any (Num.topB p) = true := Num.any_at _ A q (by omega)
      have HGS : Hid _ := hGS
      have HTS : Hid _ := hTS
      have HTO : Hid _ := hTO
      clear hlc hGS hTS hTO
      generalize A[q]?.getD [] = t at *
      have htl : tl = rl := by have := hit.1; have := (Num.right_all t rl _ hrt).1; omega
      subst htl
      have HIT : Hid (Ints wr ta tl t) := hit
      have HRTT : Hid (Num.rightB t tl (cl + tl) = true) := hrt
      clear hit hrt
      subst hle
      have hqI : (q : Int) < (ll : Int) := by omega
      have q0 : ∀ w', Below wr.heap.size wr w' → w'.cell? ⟨w.heap.size, 0, none⟩ = some (.slice ca cl cc) := fun w' h => carry h b0
      have q1 : ∀ w', Below wr.heap.size wr w' → w'.cell? ⟨w.heap.size, 1, none⟩ = some (.slice ra tl rc) := fun w' h => carry h b1
      have q2 : ∀ w', Below wr.heap.size wr w' → w'.cell? ⟨lb, lo + q, none⟩ = some (.slice ta tl tc) := fun w' h => carry h ct
      obtain ⟨⟨mx, qx, zx⟩, hpx⟩ : ∃ y, Num.pt (Num.xL p t tl (cl + tl)) (Num.denL p t tl) = y := ⟨_, rfl⟩
      obtain ⟨⟨my, qy, zy⟩, hpy⟩ : ∃ y, Num.pt (Num.priceL p t tl) (Num.denL p t tl) = y := ⟨_, rfl⟩
      obtain ⟨⟨mg, qg, zg⟩, hpg⟩ : ∃ y, Num.pt (Num.gainL p t tl (cl + tl)) (Num.denL p t tl) = y := ⟨_, rfl⟩
      have KF := fun (w' : World) (h : Below wr.heap.size wr w') => rlook_any ca cl cc ra tl rc p w' (Ints.below HC.out (bstep hB h) (Nat.le_refl _)) (RowsAt.below HR.out (bstep hB h) (Nat.le_refl _)) ta tc t (Ints.below HIT.out h (Nat.le_refl _)) HM.out (cl + tl) rfl (by omega) (Num.right_all t tl _ HRTT.out).2 mx my mg qx qy qg zx zy zg hpx hpy hpg
      by_cases hd : Num.denL p t tl = 0
      · have HGB : Hid (Num.goodB p t = false ∧ Num.topB p t = false) := by
          have hg : Num.goodB p t = false := by
            unfold Num.goodB
            rw [Num.look_none p t HM.out (by rw [← HRL.out, ← HCL.out]; exact HRTT.out) (by rw [← HRL.out]; exact hd)]
            rfl
          refine ⟨hg, ?_⟩
          unfold Num.topB
          rw [hg]; rfl
        have KL : Hid (∀ w', Below wr.heap.size wr w' → Calls Tryz.prog 21 #[.agg #[.slice ca cl cc, .slice ra tl rc], .slice ta tl tc] w' fun e w'' => e = .returned (.tuple #[.agg #[.slice none 0 0, .int .i64 0, .slice none 0 0, .int .i64 0, .slice none 0 0, .int .i64 0], .bool false]) ∧ Below wr.heap.size wr w'' ∧ Below w'.heap.size w' w'') := by
          intro w' h
          refine (KF w' h).mono ?_
          rintro e w'' ⟨hb, ⟨_, rfl⟩ | ⟨hd', _⟩⟩
          · exact ⟨rfl, bstep h hb, hb⟩
          · exact absurd hd hd'
        clear KF hpx hpy hpg
        have HD : Hid (Num.denL p t tl = 0) := hd
        clear hd b0 b1 ct
        go_upto_region 6 with fail
        go_cut [6, 7] from 10 to 35 (fun s6 s7 wx => ∃ bb : Nat, s6 = .pointer (some ⟨bb, 0, none⟩) ∧ s7 = .bool false ∧ Below wr.heap.size wr wx)
        case first =>
          go_region_held3 (fun w' => Below wr.heap.size wr w') (first | (with_reducible assumption) | (with_reducible exact (Below.refl _ _).drew) | (with_reducible exact ((Below.refl _ _).alloc (Nat.le_refl _) _).drew) | (with_reducible refine Below.alloc ?_ ?_ _ <;> first | (with_reducible assumption) | (apply Below.size; with_reducible assumption)) | (with_reducible refine set6 ?_ ?_ _ _ _ _ _ _ <;> first | (with_reducible assumption) | (with_reducible exact Nat.le_refl _) | (apply Below.size; with_reducible assumption)))
            (first | (go_at_call 21; refine Calls.mono (KL.out _ ?_) ?_; (with_reducible assumption); rintro e v3 ⟨rfl, hb3, hk3⟩; (first | (with_reducible have hz9 := zeroC hk3) | (with_reducible have hz9 := zeroCd hk3) | skip)))
          all_goals (rename_i hfin; clear q0 q1 q2 KL)
          · have HFIN : Hid _ := hfin
            clear hfin
            go_wp2_with fail
            go_meet
            exact ⟨_, rfl, rfl, HFIN.out⟩
          · have HFIN : Hid _ := hfin
            clear hfin
            go_wp2_with fail
            go_meet
            exact ⟨_, rfl, rfl, HFIN.out⟩
        case rest =>
          obtain ⟨bb, rfl, rfl, hbx⟩ := hcut
          clear q0 q1 q2 KL
          go_wp2_with fail
          go_roundw
          case rel => first | exact ⟨q + 1, hlt, by go_num, by rw [HGS.out, HGB.out.1, Bool.or_false], by rw [HTS.out, HGB.out.2, HTOP.out]; rfl, bstep hbl hbx⟩ | ((repeat apply Exists.intro); exact ⟨⟨q + 1, hlt, by go_num, by rw [HGS.out, HGB.out.1, Bool.or_false], by rw [HTS.out, HGB.out.2, HTOP.out]; rfl, bstep hbl hbx⟩, rfl⟩)
          case measure => simp [intOf]; omega
      · have hlk := Num.look_some p t HM.out (by rw [← HRL.out, ← HCL.out]; exact HRTT.out) (by rw [← HRL.out]; exact hd) tl (cl + tl) HRL.out (by rw [← HRL.out, ← HCL.out])
        rw [hpx, hpg] at hlk
        obtain ⟨le, lxl, lgl, _⟩ := Num.look_parts p t tl cl HM.out HRL.out HCL.out HRTT.out hd
        have hmx : (Num.look p t).x = mx := by rw [hlk]
        have hmg : (Num.look p t).g = mg := by rw [hlk]
        have HGD : Hid (Num.goodB p t = !Num.anyNeg mx) := by
          show Num.goodB p t = _
          unfold Num.goodB
          rw [le, hmx]; simp
        have HTP : Hid (Num.topB p t = (Num.goodB p t && !Num.anyPos mg)) := by
          show Num.topB p t = _
          unfold Num.topB
          rw [hmg]
        have HXL : Hid (mx.length = cl + tl) := by rw [← hmx]; exact lxl
        have HGL : Hid (mg.length = cl + tl) := by rw [← hmg]; exact lgl
        have KL : Hid (∀ w', Below wr.heap.size wr w' → Calls Tryz.prog 21 #[.agg #[.slice ca cl cc, .slice ra tl rc], .slice ta tl tc] w' fun e w'' => ∃ xa xc ya yl yc ga gc, e = .returned (.tuple #[.agg #[.slice xa (cl + tl) xc, .int .i64 qx, .slice ya yl yc, .int .i64 qy, .slice ga (cl + tl) gc, .int .i64 qg], .bool true]) ∧ Below wr.heap.size wr w'' ∧ (Ints w'' xa (cl + tl) mx ∧ Ints w'' ga (cl + tl) mg) ∧ Below w'.heap.size w' w'') := by
          intro w' h
          refine (KF w' h).mono ?_
          rintro e w'' ⟨hb, ⟨hd', _⟩ | ⟨_, xa, xl, xc, ya, yl, yc, ga, gl, gc, rfl, hx, _, hg, _⟩⟩
          · exact absurd hd' hd
          · have h1 : xl = cl + tl := by have := hx.1; have := HXL.out; omega
            have h2 : gl = cl + tl := by have := hg.1; have := HGL.out; omega
            subst h1 h2
            exact ⟨xa, xc, ya, yl, yc, ga, gc, rfl, bstep h hb, ⟨hx, hg⟩, hb⟩
        clear KF hpx hpy hpg hlk hmx hmg lxl lgl le
        have HD : Hid (Num.denL p t tl ≠ 0) := hd
        clear hd b0 b1 ct
        go_upto_region 6 with fail
        go_cut [6, 7] from 10 to 35 (fun s6 s7 wx => ∃ bb : Nat, s6 = .pointer (some ⟨bb, 0, none⟩) ∧ s7 = .bool true ∧ (∃ xa xc ya yl yc ga gc, Hid ((wx.cell? ⟨bb, 0, none⟩ = some (.slice xa (cl + tl) xc) ∧ wx.cell? ⟨bb, 1, none⟩ = some (.int .i64 qx) ∧ wx.cell? ⟨bb, 2, none⟩ = some (.slice ya yl yc) ∧ wx.cell? ⟨bb, 3, none⟩ = some (.int .i64 qy) ∧ wx.cell? ⟨bb, 4, none⟩ = some (.slice ga (cl + tl) gc) ∧ wx.cell? ⟨bb, 5, none⟩ = some (.int .i64 qg)) ∧ Ints wx xa (cl + tl) mx ∧ Ints wx ga (cl + tl) mg)) ∧ Below wr.heap.size wr wx)
        case first =>
          go_region_held3 (fun w' => Below wr.heap.size wr w') (first | (with_reducible assumption) | (with_reducible exact (Below.refl _ _).drew) | (with_reducible exact ((Below.refl _ _).alloc (Nat.le_refl _) _).drew) | (with_reducible refine Below.alloc ?_ ?_ _ <;> first | (with_reducible assumption) | (apply Below.size; with_reducible assumption)) | (with_reducible refine set6 ?_ ?_ _ _ _ _ _ _ <;> first | (with_reducible assumption) | (with_reducible exact Nat.le_refl _) | (apply Below.size; with_reducible assumption)))
            (first | (go_at_call 21; refine Calls.mono (KL.out _ ?_) ?_; (with_reducible assumption); rintro e v3 ⟨xa, xc, ya, yl, yc, ga, gc, rfl, hb3, hI3, hk3⟩; (first | (with_reducible have hz9 := zeroC hk3) | (with_reducible have hz9 := zeroCd hk3) | skip)))
          · rename_i hfin
            clear q0 q1 q2 KL
            have HIW : Hid (((v3.alloc (.cells #[.slice xa (cl + tl) xc, .int .i64 qx, .slice ya yl yc, .int .i64 qy, .slice ga (cl + tl) gc, .int .i64 qg] 43)).cell? ⟨v3.heap.size, 0, none⟩ = some (.slice xa (cl + tl) xc) ∧ (v3.alloc (.cells #[.slice xa (cl + tl) xc, .int .i64 qx, .slice ya yl yc, .int .i64 qy, .slice ga (cl + tl) gc, .int .i64 qg] 43)).cell? ⟨v3.heap.size, 1, none⟩ = some (.int .i64 qx) ∧ (v3.alloc (.cells #[.slice xa (cl + tl) xc, .int .i64 qx, .slice ya yl yc, .int .i64 qy, .slice ga (cl + tl) gc, .int .i64 qg] 43)).cell? ⟨v3.heap.size, 2, none⟩ = some (.slice ya yl yc) ∧ (v3.alloc (.cells #[.slice xa (cl + tl) xc, .int .i64 qx, .slice ya yl yc, .int .i64 qy, .slice ga (cl + tl) gc, .int .i64 qg] 43)).cell? ⟨v3.heap.size, 3, none⟩ = some (.int .i64 qy) ∧ (v3.alloc (.cells #[.slice xa (cl + tl) xc, .int .i64 qx, .slice ya yl yc, .int .i64 qy, .slice ga (cl + tl) gc, .int .i64 qg] 43)).cell? ⟨v3.heap.size, 4, none⟩ = some (.slice ga (cl + tl) gc) ∧ (v3.alloc (.cells #[.slice xa (cl + tl) xc, .int .i64 qx, .slice ya yl yc, .int .i64 qy, .slice ga (cl + tl) gc, .int .i64 qg] 43)).cell? ⟨v3.heap.size, 5, none⟩ = some (.int .i64 qg)) ∧ Ints (v3.alloc (.cells #[.slice xa (cl + tl) xc, .int .i64 qx, .slice ya yl yc, .int .i64 qy, .slice ga (cl + tl) gc, .int .i64 qg] 43)) xa (cl + tl) mx ∧ Ints (v3.alloc (.cells #[.slice xa (cl + tl) xc, .int .i64 qx, .slice ya yl yc, .int .i64 qy, .slice ga (cl + tl) gc, .int .i64 qg] 43)) ga (cl + tl) mg) := by
              have hs := Six.new v3 (.slice xa (cl + tl) xc) (.int .i64 qx) (.slice ya yl yc) (.int .i64 qy) (.slice ga (cl + tl) gc) (.int .i64 qg) 43
              exact ⟨⟨hs.c0, hs.c1, hs.c2, hs.c3, hs.c4, hs.c5⟩, Ints.below hI3.1 (balloc _ _) (Nat.le_refl _), Ints.below hI3.2 (balloc _ _) (Nat.le_refl _)⟩
            have HFIN : Hid _ := hfin
            clear hI3 hfin
            go_wp2_with fail
            go_meet
            exact ⟨_, rfl, rfl, ⟨xa, xc, ya, yl, yc, ga, gc, HIW⟩, HFIN.out⟩
          · rename_i hfin
            clear q0 q1 q2 KL
            have HFIN : Hid _ := hfin
            generalize hX : (((((v3.setCell ⟨wr.heap.size, 0, none⟩ (.slice xa (cl + tl) xc)).setCell ⟨wr.heap.size, 1, none⟩ (.int .i64 qx)).setCell ⟨wr.heap.size, 2, none⟩ (.slice ya yl yc)).setCell ⟨wr.heap.size, 3, none⟩ (.int .i64 qy)).setCell ⟨wr.heap.size, 4, none⟩ (.slice ga (cl + tl) gc)).setCell ⟨wr.heap.size, 5, none⟩ (.int .i64 qg) = X at *
            have HIW : Hid ((X.cell? ⟨wr.heap.size, 0, none⟩ = some (.slice xa (cl + tl) xc) ∧ X.cell? ⟨wr.heap.size, 1, none⟩ = some (.int .i64 qx) ∧ X.cell? ⟨wr.heap.size, 2, none⟩ = some (.slice ya yl yc) ∧ X.cell? ⟨wr.heap.size, 3, none⟩ = some (.int .i64 qy) ∧ X.cell? ⟨wr.heap.size, 4, none⟩ = some (.slice ga (cl + tl) gc) ∧ X.cell? ⟨wr.heap.size, 5, none⟩ = some (.int .i64 qg)) ∧ Ints X xa (cl + tl) mx ∧ Ints X ga (cl + tl) mg) := by
              obtain ⟨_, ⟨y0, y1, y2, y3, y4, y5⟩, _⟩ := id hz9
              refine ⟨six_set' y0 y1 y2 y3 y4 y5 _ _ _ _ _ _ X hX.symm, ?_, ?_⟩
              · rw [← hX]; exact ZC.kept hz9 hI3.1 (by omega) _ _ _ _ _ _
              · rw [← hX]; exact ZC.kept hz9 hI3.2 (by omega) _ _ _ _ _ _
            clear hI3 hfin hX hz9
            go_wp2_with fail
            go_meet
            exact ⟨_, rfl, rfl, ⟨xa, xc, ya, yl, yc, ga, gc, HIW⟩, HFIN.out⟩
        case rest =>
          obtain ⟨bb, rfl, rfl, ⟨xa, xc, ya, yl, yc, ga, gc, hcr⟩, hbx⟩ := hcut
          obtain ⟨⟨y0, y1, y2, y3, y4, y5⟩, hix, hig⟩ := hcr.out
          have HIX : Hid (Ints wc xa (cl + tl) mx) := hix
          have HIG : Hid (Ints wc ga (cl + tl) mg) := hig
          clear q0 q1 q2 KL hcr hix hig
          have hbc := bstep hbl hbx
          go_wp2_with fail
          refine (above_any xa (cl + tl) xc mx qx wc HIX.out (by omega)).mono ?_
          rintro e w4 ⟨rfl, hb4⟩
          have z4 := carry hb4 y4
          have z5 := carry hb4 y5
          have HIG4 : Hid (Ints w4 ga (cl + tl) mg) := Ints.below HIG.out hb4 (Nat.le_refl _)
          have hbc4 := bstep hbc hb4
          clear y0 y1 y2 y3 y4 y5 HIX HIG
          cases hneg : Num.anyNeg mx with
          | true =>
            have HGB : Hid (Num.goodB p t = false ∧ Num.topB p t = false) := by
              have hg : Num.goodB p t = false := by rw [HGD.out, hneg]; rfl
              exact ⟨hg, by rw [HTP.out, hg]; rfl⟩
            go_wp2_with fail
            go_roundw
            case rel => first | exact ⟨q + 1, hlt, by go_num, by rw [HGS.out, HGB.out.1, Bool.or_false], by rw [HTS.out, HGB.out.2, HTOP.out]; rfl, hbc4⟩ | ((repeat apply Exists.intro); exact ⟨⟨q + 1, hlt, by go_num, by rw [HGS.out, HGB.out.1, Bool.or_false], by rw [HTS.out, HGB.out.2, HTOP.out]; rfl, hbc4⟩, rfl⟩)
            case measure => simp [intOf]; omega
          | false =>
            have HGB : Hid (Num.goodB p t = true) := by show _ = _; rw [HGD.out, hneg]; rfl
            go_wp2_with fail
            refine (below3_any ga (cl + tl) gc mg qg w4 HIG4.out (by omega)).mono ?_
            rintro e w5 ⟨rfl, hb5⟩
            have hbc5 := bstep hbc4 hb5
            clear z4 z5 HIG4
            cases hpos : Num.anyPos mg with
            | false =>
              have HK1 : Hid (KN = 1) := by
                show KN = 1
                rw [HKN.out, if_pos (HTO.out (by rw [HTP.out, HGB.out, hpos]; rfl))]
              have hBf := (HBV.out w5 (bstep hb1 hbc5)).2.1
              go_wp2_with fail
              go_ret
              exact ⟨ret_int HK1.out.symm, hBf⟩
            | true =>
              have HTB : Hid (Num.topB p t = false) := by show _ = _; rw [HTP.out, HGB.out, hpos]; rfl
              go_wp2_with fail
              go_roundw
              case rel => first | exact ⟨q + 1, hlt, by go_num, by rw [HGS.out, HGB.out, Bool.or_true], by rw [HTS.out, HTB.out, HTOP.out]; rfl, hbc5⟩ | ((repeat apply Exists.intro); exact ⟨⟨q + 1, hlt, by go_num, by rw [HGS.out, HGB.out, Bool.or_true], by rw [HTS.out, HTB.out, HTOP.out]; rfl, hbc5⟩, rfl⟩)
              case measure => simp [intOf]; omega
    · have hqe : q = A.length := by omega
      have HT0 : Hid (A.any (Num.topB p) = false) := by have h := HTOP.out; rw [hqe, List.take_length] at h; exact h
      have HG0 : Hid ((A.take q).any (Num.goodB p) = A.any (Num.goodB p)) := by show _ = _; rw [hqe, List.take_length]
      rw [HG0.out]
      cases hgd : A.any (Num.goodB p) with
      | true =>
        have HK : Hid (KN = 2) := by show KN = 2; rw [HKN.out, if_neg (by rw [HT0.out]; decide), if_pos hgd]
        go_wp2_with fail
        go_ret
        exact ⟨ret_int HK.out.symm, hB⟩
      | false =>
        have HK : Hid (KN = 3) := by show KN = 3; rw [HKN.out, if_neg (by rw [HT0.out]; decide), if_neg (by rw [hgd]; decide)]
        go_wp2_with fail
        go_ret
        exact ⟨ret_int HK.out.symm, hB⟩

end Go.Proofs.YtipcbhodlgoflaaGreat
