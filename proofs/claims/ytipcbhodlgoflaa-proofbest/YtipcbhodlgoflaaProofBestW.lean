/- The walk of ProofBest. -/
import Derived.Test.YtipcbhodlgoflaaKnown
import Derived.Test.YtipcbhodlgoflaaPrfN
import Derived.Test.YtipcbhodlgoflaaRef2A
import Derived.Deep.CutRange
namespace Go.Proofs.Ytipcbhodlgoflaa
open Go.RowKit

/-- A program's box, an answer's and a point's, in every later world. -/
theorem box292 {w w1 : World} {a b c0 c1 c2 c3 c4 c5 c6 c7 c8 d0 d1 : Value} {t u v : TypeId} (hb : Below (((w.alloc (.cells #[a, b] t)).alloc (.cells #[c0, c1, c2, c3, c4, c5, c6, c7, c8] u)).alloc (.cells #[d0, d1] v)).heap.size (((w.alloc (.cells #[a, b] t)).alloc (.cells #[c0, c1, c2, c3, c4, c5, c6, c7, c8] u)).alloc (.cells #[d0, d1] v)) w1) :
    (w1.cell? ⟨w.heap.size, 0, none⟩ = some a ∧ w1.cell? ⟨w.heap.size, 1, none⟩ = some b) ∧ Nine (w.heap.size + 1) c0 c1 c2 c3 c4 c5 c6 c7 c8 w1 ∧ (w1.cell? ⟨w.heap.size + 1 + 1, 0, none⟩ = some d0 ∧ w1.cell? ⟨w.heap.size + 1 + 1, 1, none⟩ = some d1) ∧ w.heap.size + 1 + 1 < w1.heap.size ∧ Below w.heap.size w w1 := by
  have h2 : Below ((w.alloc (.cells #[a, b] t)).alloc (.cells #[c0, c1, c2, c3, c4, c5, c6, c7, c8] u)).heap.size ((w.alloc (.cells #[a, b] t)).alloc (.cells #[c0, c1, c2, c3, c4, c5, c6, c7, c8] u)) w1 := binto hb
  obtain ⟨p1, p2, p3, p4⟩ := box29 h2
  have h3 := (kept2 hb).1
  refine ⟨p1, p2, ?_, ?_, p4⟩
  · simpa using h3
  · have := hb.size; simp at this; omega

set_option maxHeartbeats 1600000 in
theorem proofBest.walk (ca : Option Addr) (cl cc : Nat) (ra : Option Addr) (m rc : Nat) (p : Num.Lp) (w : World) (hc : Ints w ca cl p.costs) (hcl : cl ≤ 9223372036854775807) (hr : RowsAt w ra m p.rows) (hrl : m ≤ 9223372036854775807) (a : Num.Ans)
    (xa : Option Addr) (xl xc : Nat) (ya : Option Addr) (yl yc : Nat) (za : Option Addr) (zl zc : Nat) (hx : Ints w xa xl a.x) (hxl : xl ≤ 9223372036854775807) (hy : Ints w ya yl a.y) (hyl : yl ≤ 9223372036854775807) (hz : Ints w za zl a.r) (hzl : zl ≤ 9223372036854775807)
    (ta : Option Addr) (tl tc : Nat) (t : List Int) (td : Int) (ht : Ints w ta tl t) (htl : tl ≤ 9223372036854775807) :
    Calls Try.prog 9 #[.agg #[.slice ca cl cc, .slice ra m rc], .agg #[.int .i64 a.kind, .slice xa xl xc, .int .i64 a.xd, .slice ya yl yc, .int .i64 a.yd, .slice za zl zc, .int .i64 a.rd, .int .i64 a.wn, .int .i64 a.wd], .agg #[.slice ta tl tc, .int .i64 td]] w fun e w' => e = .returned (.bool true) ∧ Below w.heap.size w w' := by
  have HC : Hid (Ints w ca cl p.costs) := hc
  have HR : Hid (RowsAt w ra m p.rows) := hr
  have HT : Hid (Ints w ta tl t) := ht
  have KH : Hid (∀ w', Below w.heap.size w w' → Calls Try.prog 34 #[.agg #[.slice ca cl cc, .slice ra m rc], .agg #[.int .i64 a.kind, .slice xa xl xc, .int .i64 a.xd, .slice ya yl yc, .int .i64 a.yd, .slice za zl zc, .int .i64 a.rd, .int .i64 a.wn, .int .i64 a.wd]] w' fun e w'' => e = .returned (.bool (Num.holds p a)) ∧ Below w'.heap.size w' w'') := fun w' h =>
    holds_any ca cl cc ra m rc p w' (hc.below h (Nat.le_refl _)) hcl (hr.below h (Nat.le_refl _)) hrl a xa xl xc ya yl yc za zl zc (hx.below h (Nat.le_refl _)) hxl (hy.below h (Nat.le_refl _)) hyl (hz.below h (Nat.le_refl _)) hzl
  clear hc hr hx hy hz ht
  have hL0 : Below (((w.alloc (.cells #[.slice ca cl cc, .slice ra m rc] 40)).alloc (.cells #[.int .i64 a.kind, .slice xa xl xc, .int .i64 a.xd, .slice ya yl yc, .int .i64 a.yd, .slice za zl zc, .int .i64 a.rd, .int .i64 a.wn, .int .i64 a.wd] 57)).alloc (.cells #[.slice ta tl tc, .int .i64 td] 29)).heap.size (((w.alloc (.cells #[.slice ca cl cc, .slice ra m rc] 40)).alloc (.cells #[.int .i64 a.kind, .slice xa xl xc, .int .i64 a.xd, .slice ya yl yc, .int .i64 a.yd, .slice za zl zc, .int .i64 a.rd, .int .i64 a.wn, .int .i64 a.wd] 57)).alloc (.cells #[.slice ta tl tc, .int .i64 td] 29)) (((w.alloc (.cells #[.slice ca cl cc, .slice ra m rc] 40)).alloc (.cells #[.int .i64 a.kind, .slice xa xl xc, .int .i64 a.xd, .slice ya yl yc, .int .i64 a.yd, .slice za zl zc, .int .i64 a.rd, .int .i64 a.wn, .int .i64 a.wd] 57)).alloc (.cells #[.slice ta tl tc, .int .i64 td] 29)) := Below.refl _ _
  go_enter Try.func9, Try.ntmps9
  go_wp2_with fail
  obtain ⟨⟨c0, c1⟩, ⟨n0, n1, n2, n3, n4, n5, n6, n7, n8⟩, ⟨d0, d1⟩, hz1, hB1⟩ := box292 hL0
  refine (KH.out _ hB1).mono ?_
  rintro e w1 ⟨rfl, hk1⟩
  clear c0 c1 n0 n1 n2 n3 n4 n5 n6 n7 n8 d0 d1 hz1 hB1
  have hL1 := bstep hL0 hk1
  obtain ⟨⟨c0, c1⟩, ⟨n0, n1, n2, n3, n4, n5, n6, n7, n8⟩, ⟨d0, d1⟩, hz1, hB1⟩ := box292 hL1
  cases hh : Num.holds p a with
  | false =>
    go_wp2_with fail
    refine (known_any w1).mono ?_
    rintro e w2 ⟨rfl, hk2⟩
    go_wp2_with fail
    go_ret
    exact ⟨rfl, bstep hB1 hk2⟩
  | true =>
  have HB : Hid (∀ w', Below w1.heap.size w1 w' → Below w.heap.size w w') := fun w' h => bstep hB1 h
  have HMAY : Hid (p.may = true) := by
    show p.may = true
    cases hm : p.may with
    | true => rfl
    | false => rw [Num.holds_no p a hm] at hh; cases hh
  have hkind : a.kind = 1 ∨ a.kind = 2 ∨ a.kind = 3 := by
    by_cases k1 : a.kind = 1
    · exact Or.inl k1
    by_cases k2 : a.kind = 2
    · exact Or.inr (Or.inl k2)
    by_cases k3 : a.kind = 3
    · exact Or.inr (Or.inr k3)
    rw [Num.holds_none p a k1 k2 k3] at hh
    cases hh
  go_wp2_with fail
  refine (r2goes_any _ _ _ _ _ _ p _ (Ints.below HC.out hB1 (Nat.le_refl _)) hcl (RowsAt.below HR.out hB1 (Nat.le_refl _)) hrl _ _ _ t td (Ints.below HT.out hB1 (Nat.le_refl _)) htl).mono ?_
  rintro e w2 ⟨rfl, hk2⟩
  have hL2 := bstep hL1 hk2
  clear c0 c1 n0 n1 n2 n3 n4 n5 n6 n7 n8 d0 d1 hz1 hB1 hL1 hk2 hL0
  generalize hV : ((w.alloc (.cells #[.slice ca cl cc, .slice ra m rc] 40)).alloc (.cells #[.int .i64 a.kind, .slice xa xl xc, .int .i64 a.xd, .slice ya yl yc, .int .i64 a.yd, .slice za zl zc, .int .i64 a.rd, .int .i64 a.wn, .int .i64 a.wd] 57)).alloc (.cells #[.slice ta tl tc, .int .i64 td] 29) = V at *
  have HBX : Hid (∀ w', Below V.heap.size V w' → (w'.cell? ⟨w.heap.size, 0, none⟩ = some (.slice ca cl cc) ∧ w'.cell? ⟨w.heap.size, 1, none⟩ = some (.slice ra m rc)) ∧ Nine (w.heap.size + 1) (.int .i64 a.kind) (.slice xa xl xc) (.int .i64 a.xd) (.slice ya yl yc) (.int .i64 a.yd) (.slice za zl zc) (.int .i64 a.rd) (.int .i64 a.wn) (.int .i64 a.wd) w' ∧ (w'.cell? ⟨w.heap.size + 1 + 1, 0, none⟩ = some (.slice ta tl tc) ∧ w'.cell? ⟨w.heap.size + 1 + 1, 1, none⟩ = some (.int .i64 td)) ∧ w.heap.size + 1 + 1 < w'.heap.size ∧ Below w.heap.size w w') := by
    intro w' h; rw [← hV] at h; exact box292 h
  clear hV
  obtain ⟨⟨c0, c1⟩, ⟨n0, n1, n2, n3, n4, n5, n6, n7, n8⟩, ⟨d0, d1⟩, hz1, hB1⟩ := HBX.out w2 hL2
  cases hg : p.goes t td with
  | false =>
    go_wp2_with fail
    go_ret
    exact ⟨rfl, hB1⟩
  | true =>
  rcases hkind with k | k | k
  · rw [Num.holds_best p a HMAY.out k] at hh
    have hbest : Num.bestB p a = true := by
      simp only [Bool.and_eq_true] at hh
      exact hh.2
    obtain ⟨⟨u, v, ez⟩, hmk⟩ : ∃ q, Num.mk (Num.dotN p.costs t p.costs.length) td = q := ⟨_, rfl⟩
    have HSO := Num.best_so p a hbest t td hg u v ez hmk
    have HCL : Hid (cl = p.costs.length) := HC.out.1
    obtain ⟨_, htn, _, htw, _, _⟩ := Num.goes_len p t td hg
    have htc : tl = cl := by have := HT.out.1; have := HCL.out; omega
    have HTB : Hid (∀ j : Nat, -1073741824 ≤ t[j]?.getD 0 ∧ t[j]?.getD 0 ≤ 1073741824) := Num.withinB_iff _ _ htw (by omega)
    have HCB : Hid (∀ j : Nat, -400 ≤ p.costs[j]?.getD 0 ∧ p.costs[j]?.getD 0 ≤ 400) := Num.withinB_iff _ _ (p.may_of HMAY.out).2.1 (by omega)
    have hcl4 : cl ≤ 4 := by have := HCL.out; have := (p.may_of HMAY.out).1.2; omega
    rw [← HCL.out] at hmk
    have HMK : Hid _ := hmk
    have HS : Hid _ := HSO
    clear hh hbest HSO hmk htn htw KH
    subst htc
    obtain ⟨kd, x, xd, y, yd, z, zd, wn, wd⟩ := a
    dsimp only at *
    subst k
    go_upto_region 9 with fail
    clear c0 c1 n0 n1 n2 n3 n4 n5 n6 n7 n8 d0 d1 hz1 hB1
    generalize w2 = W at *
    go_cut [9, 10] from 41 to 51 (fun s8 s9 wx => ∃ b1 : Nat, s8 = .pointer (some ⟨b1, 0, none⟩) ∧ s9 = .int .i64 ez ∧ Hid (wx.cell? ⟨b1, 0, none⟩ = some (.int .i64 u) ∧ wx.cell? ⟨b1, 1, none⟩ = some (.int .i64 v)) ∧ W.heap.size ≤ b1 ∧ Below W.heap.size W wx)
    case first =>
      have q0 : ∀ w', Below W.heap.size W w' → w'.cell? ⟨w.heap.size, 0, none⟩ = some (.slice ca tl cc) := fun w' h => (HBX.out w' (bstep hL2 h)).1.1
      have q1 : ∀ w', Below W.heap.size W w' → w'.cell? ⟨w.heap.size + 1 + 1, 0, none⟩ = some (.slice ta tl tc) := fun w' h => (HBX.out w' (bstep hL2 h)).2.2.1.1
      have q2 : ∀ w', Below W.heap.size W w' → w'.cell? ⟨w.heap.size + 1 + 1, 1, none⟩ = some (.int .i64 td) := fun w' h => (HBX.out w' (bstep hL2 h)).2.2.1.2
      have KD : Hid (∀ w', Below W.heap.size W w' → Calls Try.prog 29 #[.slice ca tl cc, .slice ta tl tc] w' fun e w'' => e = .returned (.int .i64 (Num.dotN p.costs t tl)) ∧ Below W.heap.size W w'' ∧ Below w'.heap.size w' w'') := by
        intro w' h
        exact (below_of_drew (dot_any _ _ _ _ _ _ p.costs t w' 400 1073741824 (Ints.below HC.out (HBX.out w' (bstep hL2 h)).2.2.2.2 (Nat.le_refl _)) (Ints.below HT.out (HBX.out w' (bstep hL2 h)).2.2.2.2 (Nat.le_refl _)) (Nat.le_refl _) (by omega) HCB.out HTB.out (by omega))).mono fun _ _ k => ⟨k.1, bstep h k.2, k.2⟩
      have KM : Hid (∀ w', Below W.heap.size W w' → Calls Try.prog 15 #[.int .i64 (Num.dotN p.costs t tl), .int .i64 td] w' fun e w'' => e = .returned (.tuple #[.agg #[.int .i64 u, .int .i64 v], .int .i64 ez]) ∧ Below W.heap.size W w'' ∧ Below w'.heap.size w' w'') := by
        intro w' h
        exact (rmake_any _ _ w' _ _ _ HMK.out).mono fun _ _ k => ⟨k.1, bstep h k.2, k.2⟩
      go_region_held3 (fun w' => Below W.heap.size W w') (first | assumption | exact (Below.refl _ _).drew | exact ((Below.refl _ _).alloc (Nat.le_refl _) _).drew | (refine Below.alloc ?_ ?_ _ <;> first | assumption | (apply Below.size; assumption)) | (refine Below.setCell (Below.setCell ?_ ?_ _) ?_ _ <;> first | assumption | exact Nat.le_refl _ | (apply Below.size; assumption)))
        (first | (go_at_call 29; refine (KD.out _ ?_).mono ?_; assumption; rintro e v1 ⟨rfl, hb1', hk1'⟩; (try (have hz2 := kept2d hk1')))
               | (go_at_call 15; refine (KM.out _ ?_).mono ?_; assumption; rintro e v2 ⟨rfl, hb2', hk2'⟩; (first | (have hz2 := carry2 hk2' hz2) | (have hz2 := kept2 hk2') | (have hz2 := kept2d hk2') | skip)))
      · rename_i hfin
        have HG : Hid (Below W.heap.size W (v2.alloc (.cells #[.int .i64 u, .int .i64 v] 24))) := hfin
        have HZ0 : Hid _ := cell_new2 (w := v2) rfl (.int .i64 u) (.int .i64 v) 24
        have hle : W.heap.size ≤ v2.heap.size := hb2'.size
        clear q0 q1 q2 KD KM
        go_wp2_with fail
        go_meet
        exact ⟨_, rfl, rfl, HZ0.out, hle, HG.out⟩
      · rename_i hfin
        have HG : Hid (Below W.heap.size W ((v2.setCell ⟨v1.heap.size, 0, none⟩ (.int .i64 u)).setCell ⟨v1.heap.size, 1, none⟩ (.int .i64 v))) := hfin
        obtain ⟨⟨y0, y1⟩, _⟩ := hz2
        have HZ0 : Hid _ := two_set y0 y1 (.int .i64 u) (.int .i64 v) _ rfl
        have hle : W.heap.size ≤ v1.heap.size := hb1'.size
        clear q0 q1 q2 KD KM y0 y1
        go_wp2_with fail
        go_meet
        exact ⟨_, rfl, rfl, HZ0.out, hle, HG.out⟩
      · rename_i hfin
        have HG : Hid (Below W.heap.size W ((v2.setCell ⟨W.heap.size, 0, none⟩ (.int .i64 u)).setCell ⟨W.heap.size, 1, none⟩ (.int .i64 v))) := hfin
        obtain ⟨⟨y0, y1⟩, _⟩ := hz2
        have HZ0 : Hid _ := two_set y0 y1 (.int .i64 u) (.int .i64 v) _ rfl
        clear q0 q1 q2 KD KM y0 y1
        go_wp2_with fail
        go_meet
        exact ⟨_, rfl, rfl, HZ0.out, Nat.le_refl _, HG.out⟩
    case rest =>
    obtain ⟨b1, rfl, rfl, HB1C, hb1l, hbW1⟩ := hcut
    have hL3 := bstep hL2 hbW1
    obtain ⟨f0, f1⟩ := HB1C.out
    obtain ⟨⟨c0, c1⟩, ⟨n0, n1, n2, n3, n4, n5, n6, n7, n8⟩, ⟨d0, d1⟩, hz1, hB1⟩ := HBX.out wc hL3
    clear hbW1 hb1l
    rcases HS.out with e1 | ⟨e0, hle, hu, hv, hwn, hwd⟩
    · subst e1
      go_wp2_with fail
      go_ret
      exact ⟨rfl, hB1⟩
    · subst e0
      go_wp2_with fail
      refine (cmp_any u v wn wd _ hu hv hwn hwd).mono ?_
      rintro e w5 ⟨rfl, hk5⟩
      have hle' : decide (u * wd - wn * v ≤ 0) = true := by simpa using hle
      go_wp2_with fail
      go_ret
      exact ⟨rfl, bstep hB1 hk5⟩
  · obtain ⟨kd, x, xd, y, yd, z, zd, wn, wd⟩ := a
    dsimp only at *
    subst k
    go_wp2_with fail
    go_ret
    exact ⟨rfl, hB1⟩
  · rw [Num.holds_nothing p a HMAY.out k] at hh
    simp only [Bool.and_eq_true] at hh
    rw [Num.nothing_so p a hh.2 t td] at hg
    cases hg

end Go.Proofs.Ytipcbhodlgoflaa
