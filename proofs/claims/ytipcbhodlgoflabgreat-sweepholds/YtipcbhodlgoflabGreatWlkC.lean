/- What walk.exchanged and walk.Next do. -/
import Derived.Test.YtipcbhodlgoflabGreatWlkAB
import Derived.Test.YtipcbhodlgoflabGreatSrt0
import Derived.Test.YtipcbhodlgoflabGreatLinesO
namespace Go.Proofs.YtipcbhodlgoflabGreat
open Go.RowKit

set_option maxHeartbeats 800000 in
theorem exchanged_any (aa : Option Addr) (al ac : Nat) (at' : List Int) (w : World) (ha : Ints w aa al at') (h1 : 1 ≤ al) (h4 : al ≤ 4) (N o s : Nat) (hr : Num.rightB at' al N = true) (ho : o < al) (hs : s < N) (hsb : Num.inB at' al s = false) :
    Calls Tryz.prog 86 #[.slice aa al ac, .int .i64 o, .int .i64 s] w fun e w' => ∃ g c, e = .returned (.slice (some ⟨g, 0, none⟩) al c) ∧ w.heap.size ≤ g ∧ al ≤ c ∧ Ints w' (some ⟨g, 0, none⟩) al (Num.swapN at' (at'[o]?.getD 0) s al) ∧ Below w.heap.size w w' := by
  have HA : Hid (Ints w aa al at') := ha
  have HS : Hid (∀ r : List Int, r.Perm (at'.set o s) → r.Pairwise (· ≤ ·) → r = Num.swapN at' (at'[o]?.getD 0) s al) := fun r hp hw => Num.swapN_sort at' r o s al N hr ho hs hsb hp hw
  clear ha hr hsb
  go_enter Tryz.func86, Tryz.ntmps86
  go_wp2_with fail
  refine (cloneI_any aa al ac at' _ HA.out h1 h4).mono ?_
  rintro e w1 ⟨g, c, rfl, hg, hc, hO, hb⟩
  have HO : Hid (OwnI w1 w.heap.size g al c at') := hO
  obtain ⟨c0, f0⟩ := hO.cell o ho
  have hgl := hO.lt.2
  have u1 : (o : Int) < (al : Int) := by omega
  clear hO
  go_wp2_with fail
  refine (sort_any w.heap.size g al c (at'.set o s) _ (OwnI.store HO.out o s) h1 h4).mono ?_
  rintro e w2 ⟨rfl, r, hO2, hP, hW, hb2⟩
  have hre := HS.out r hP hW
  subst hre
  have HO2 : Hid _ := hO2
  have hB : Below w.heap.size w w2 := (bset hb hg _).trans (hb2.mono hg)
  clear hO2 hP hW hb2
  go_wp2_with fail
  go_ret
  exact ⟨g, c, rfl, hg, hc, OwnI.ints HO2.out, hB⟩

theorem Num.next_err (p : Num.Lp) (at' : List Int) (e : Int) (h : (Num.look p at').err = e) (h0 : e ≠ 0) : Num.nextN p at' = ([], 0, e) := by
  unfold Num.nextN; rw [h, if_pos h0]
theorem Num.next_neg (p : Num.Lp) (at' : List Int) (h : (Num.look p at').err = 0) (h2 : Num.anyNeg (Num.look p at').x = true) : Num.nextN p at' = ([], 0, 3) := by
  unfold Num.nextN; rw [if_neg (by omega), if_pos h2]
theorem Num.next_best (p : Num.Lp) (at' : List Int) (h : (Num.look p at').err = 0) (h2 : Num.anyNeg (Num.look p at').x = false) (h3 : Num.firstN (Num.look p at').g (Num.look p at').g.length < 0) : Num.nextN p at' = ([], 1, 0) := by
  unfold Num.nextN; rw [if_neg (by omega), if_neg (by rw [h2]; decide), if_pos h3]
theorem Num.next_end (p : Num.Lp) (at' : List Int) (s : Nat) (h : (Num.look p at').err = 0) (h2 : Num.anyNeg (Num.look p at').x = false) (h3 : Num.firstN (Num.look p at').g (Num.look p at').g.length = s) (h4 : Num.outN at' (Num.look p at').x (Num.look (Num.askP p s) at').x at'.length < 0) : Num.nextN p at' = ([], 2, 0) := by
  unfold Num.nextN; rw [if_neg (by omega), if_neg (by rw [h2]; decide), h3, if_neg (by omega), Int.toNat_natCast, if_pos h4]
theorem Num.next_some (p : Num.Lp) (at' : List Int) (s o : Nat) (h : (Num.look p at').err = 0) (h2 : Num.anyNeg (Num.look p at').x = false) (h3 : Num.firstN (Num.look p at').g (Num.look p at').g.length = s) (h4 : Num.outN at' (Num.look p at').x (Num.look (Num.askP p s) at').x at'.length = o) :
    Num.nextN p at' = (Num.swapN at' (at'[o]?.getD 0) s at'.length, 0, 0) := by
  unfold Num.nextN; rw [if_neg (by omega), if_neg (by rw [h2]; decide), h3, if_neg (by omega), Int.toNat_natCast, h4, if_neg (by omega), Int.toNat_natCast]

theorem Num.look_may (p : Num.Lp) (at' : List Int) (h : (Num.look p at').err = 0) : p.may = true := by
  cases hm : p.may with
  | true => rfl
  | false => rw [Num.look_form p at' hm] at h; simp [Num.noLook] at h

set_option maxRecDepth 4000 in
set_option maxHeartbeats 3200000 in
theorem next_any (ca : Option Addr) (cl cc : Nat) (ra : Option Addr) (rl rc : Nat) (p : Num.Lp) (w : World) (hc : Ints w ca cl p.costs) (hcl : cl ≤ 9223372036854775807) (hr : RowsAt w ra rl p.rows) (hrl : rl ≤ 9223372036854775807)
    (aa : Option Addr) (al ac : Nat) (at' : List Int) (ha : Ints w aa al at') (hal : al ≤ 9223372036854775807) :
    Calls Tryz.prog 54 #[.agg #[.slice ca cl cc, .slice ra rl rc], .slice aa al ac] w fun e w' => ∃ na nl nc, e = .returned (.tuple #[.slice na nl nc, .int .i64 (Num.nextN p at').2.1, .int .i64 (Num.nextN p at').2.2]) ∧ Ints w' na nl (Num.nextN p at').1 ∧ (nl = 0 ∨ ∃ g, na = some ⟨g, 0, none⟩ ∧ w.heap.size ≤ g) ∧ nl ≤ nc ∧ Below w.heap.size w w' := by
  have HC : Hid (Ints w ca cl p.costs) := hc
  have HR : Hid (RowsAt w ra rl p.rows) := hr
  have HA : Hid (Ints w aa al at') := ha
  have HCL : Hid (cl = p.costs.length) := hc.1
  have HRL : Hid (rl = p.rows.length) := hr.1
  have HAL : Hid (al = at'.length) := ha.1
  clear hc hr ha
  have HMAY : Hid ((Num.look p at').err = 0 → p.may = true) := Num.look_may p at'
  have HGOOD : Hid (p.may = true → (Num.look p at').err = 0 → Num.anyNeg (Num.look p at').x = false → Num.Good p at' rl cl) := fun h1 h2 h3 => (Num.good_of p at' rl cl h1 HRL.out HCL.out).1 ⟨h2, h3⟩
  have HXB : Hid (p.may = true → Num.Good p at' rl cl → ∀ j : Nat, -497664 ≤ (Num.look p at').x[j]?.getD 0 ∧ (Num.look p at').x[j]?.getD 0 ≤ 497664) := fun h1 h2 => (Num.look_parts p at' rl cl h1 HRL.out HCL.out h2.right h2.den).2.2.2.2.1
  have HXL : Hid (p.may = true → Num.Good p at' rl cl → (Num.look p at').x.length = cl + rl ∧ (Num.look p at').g.length = cl + rl) := fun h1 h2 => ⟨(Num.look_parts p at' rl cl h1 HRL.out HCL.out h2.right h2.den).2.1, (Num.look_parts p at' rl cl h1 HRL.out HCL.out h2.right h2.den).2.2.1⟩
  have HIN : Hid (p.may = true → Num.Good p at' rl cl → ∀ s : Nat, 0 < (Num.look p at').g[s]?.getD 0 → Num.inB at' rl s = false) := fun h1 h2 s h3 => Num.in_new p at' rl cl h1 HRL.out HCL.out h2 s h3
  have HE := Num.next_err p at'
  have HG := Num.next_neg p at'
  have HB := Num.next_best p at'
  have HN := Num.next_end p at'
  have HS := Num.next_some p at'
  have KL := fun (w' : World) (hb : Below w.heap.size w w') => look_any ca cl cc ra rl rc p w' (Ints.below HC.out hb (Nat.le_refl _)) hcl (RowsAt.below HR.out hb (Nat.le_refl _)) hrl aa al ac at' (Ints.below HA.out hb (Nat.le_refl _)) hal
  generalize Num.look p at' = L at *
  generalize hnx : Num.nextN p at' = NX at *
  obtain ⟨er, lx, dx, ly, dy, lg, dg⟩ := L
  dsimp only at *
  have HHE : Hid _ := HE
  have HHG : Hid _ := HG
  have HHB : Hid _ := HB
  have HHN : Hid _ := HN
  have HHS : Hid _ := HS
  have HKL : Hid _ := KL
  clear hnx HE HG HB HN HS KL
  have hmf : ∀ (fn : Fn) (first cap : Array Value) (w : World), (Instr.makeFunc fn first cap).run Tryz.prog w = .ok (.func fn first cap) w := fun _ _ _ _ => rfl
  go_enter Tryz.func54, Tryz.ntmps54
  go_wp2_with fail
  refine (HKL.out _ (balloc _ _)).mono ?_
  rintro e w1 ⟨xa, xl, xc, ya, yl, yc, ga, gl, gc, rfl, hix, hiy, hig, hx8, hy8, hg8, hb1⟩
  have HIX : Hid (Ints w1 xa xl lx) := hix
  have HIG : Hid (Ints w1 ga gl lg) := hig
  obtain ⟨⟨c0, c1⟩, _⟩ := kept2 hb1
  have hz1 : w.heap.size < w1.heap.size := by have := hb1.size; simp at this; omega
  have hB1 : Below w.heap.size w w1 := binto hb1
  clear hix hiy hig HKL
  by_cases her : er = 0
  · subst her
    have hmay := HMAY.out rfl
    go_wp2_with fail
    have hs1 := Six.new w1 (.slice xa xl xc) (.int .i64 dx) (.slice ya yl yc) (.int .i64 dy) (.slice ga gl gc) (.int .i64 dg) 60
    generalize hW : w1.alloc (.cells #[.slice xa xl xc, .int .i64 dx, .slice ya yl yc, .int .i64 dy, .slice ga gl gc, .int .i64 dg] 60) = W at *
    have z0 := hs1.c0
    have z1 := hs1.c1
    have z2 := hs1.c2
    have z3 := hs1.c3
    have z4 := hs1.c4
    have z5 := hs1.c5
    have zl := hs1.hi
    have hbW : Below w1.heap.size w1 W := hs1.bel
    have HIX2 : Hid (Ints W xa xl lx) := Ints.below HIX.out hbW (Nat.le_refl _)
    have HIG2 : Hid (Ints W ga gl lg) := Ints.below HIG.out hbW (Nat.le_refl _)
    have hB2 : Below w.heap.size w W := bstep hB1 hbW
    have d0 := carry hbW c0
    have d1 := carry hbW c1
    generalize w1.heap.size = b at *
    clear hW hbW hs1 HIX HIG c0 c1 hb1 hB1
    refine (below_any xa xl xc lx _ HIX2.out (by omega)).mono ?_
    rintro e w2 ⟨rfl, rfl⟩
    cases hneg : Num.anyNeg lx with
    | true =>
      have hnx := HHG.out (by first | rfl | trivial) hneg
      subst hnx
      go_wp2_with fail
      go_ret3
      exact ⟨none, 0, 0, rfl, Ints.empty _, Or.inl rfl, Nat.le_refl _, hB2⟩
    | false =>
      have HGO : Hid (Num.Good p at' rl cl) := HGOOD.out hmay (by first | rfl | trivial) hneg
      have HGL : Hid (gl = lg.length) := HIG2.out.1
      go_wp2_with fail
      refine (comesIn_any xa ya ga xl xc yl yc gl gc dx dy dg lg _ HIG2.out hg8).mono ?_
      rintro e w3 ⟨rfl, hb3⟩
      replace hB2 : Below w.heap.size w w3 := bstep hB2 hb3
      replace d0 := carry hb3 d0
      replace d1 := carry hb3 d1
      replace z0 := carry hb3 z0
      have HIX3 : Hid (Ints w3 xa xl lx) := Ints.below HIX2.out hb3 (Nat.le_refl _)
      have HIG3 : Hid (Ints w3 ga gl lg) := Ints.below HIG2.out hb3 (Nat.le_refl _)
      clear z1 z2 z3 z4 z5 hb3 HIX2 HIG2
      have HIX2 : Hid (Ints w3 xa xl lx) := HIX3.out
      have HIG2 : Hid (Ints w3 ga gl lg) := HIG3.out
      clear HIX3 HIG3
      rcases Num.first_ok lg gl with ⟨f1, f2⟩ | ⟨s, f1, f2, f3, f4⟩
      · have hnx := HHB.out (by first | rfl | trivial) hneg (by rw [← HGL.out, f1]; omega)
        subst hnx
        rw [f1]
        go_wp2_with fail
        go_ret3
        exact ⟨none, 0, 0, rfl, Ints.empty _, Or.inl rfl, Nat.le_refl _, hB2⟩
      · rw [f2]
        have hsb := HIN.out hmay HGO.out s f3
        obtain ⟨hxlen, hglen⟩ := HXL.out hmay HGO.out
        have hxl : xl = cl + rl := by have := HIX2.out.1; omega
        have hsN : s < cl + rl := by have := HGL.out; omega
        have hc4 : cl ≤ 4 ∧ 1 ≤ cl := by have := HCL.out; have := (p.may_of hmay).1; omega
        have hr4 : rl ≤ 4 ∧ 1 ≤ rl := by have := HRL.out; have := (p.may_of hmay).2.2.1; omega
        have HAR : Hid (al = rl) := by show al = rl; have := HAL.out; have := (Num.right_all at' rl _ HGO.out.right).1; omega
        have HSB : Hid _ := hsb
        have HNEG : Hid _ := hneg
        have HF2 : Hid (Num.firstN lg lg.length = s) := by rw [← HGL.out]; exact f2
        have HMY : Hid _ := hmay
        clear hsb f2 f3 f4 hneg hmay hxlen hglen
        have hsd : decide ((s : Int) < 0) = false := decide_eq_false (by omega)
        subst hxl
        obtain ⟨_, hvl, hvb, _⟩ := Num.ask_parts p at' rl cl s HMY.out HRL.out HCL.out HGO.out
        have HVL : Hid _ := hvl
        have HVB : Hid _ := hvb
        have HXX : Hid _ := HXB.out HMY.out HGO.out
        have HND : Hid (Num.outN at' lx (Num.look (Num.askP p s) at').x at'.length < 0 → NX = ([], 2, 0)) := HHN.out s (by first | rfl | trivial) HNEG.out HF2.out
        have HNS : Hid (∀ o : Nat, Num.outN at' lx (Num.look (Num.askP p s) at').x at'.length = o → NX = (Num.swapN at' (at'[o]?.getD 0) s at'.length, 0, 0)) := fun o => HHS.out s o (by first | rfl | trivial) HNEG.out HF2.out
        have KF : Hid (∀ w', Below w3.heap.size w3 w' → Calls Tryz.prog 57 #[.agg #[.slice ca cl cc, .slice ra rl rc], .slice aa al ac, .int .i64 s] w' fun e w'' => ∃ va vc, e = .returned (.agg #[.slice va (cl + rl) vc, .int .i64 (Num.look (Num.askP p s) at').xd]) ∧ Below w3.heap.size w3 w'' ∧ Ints w'' va (cl + rl) (Num.look (Num.askP p s) at').x ∧ Below w'.heap.size w' w'') := by
          intro w' h
          have hB := bstep hB2 h
          refine (falls_any ca cl cc ra rl rc p w' (Ints.below HC.out hB (Nat.le_refl _)) (RowsAt.below HR.out hB (Nat.le_refl _)) HMY.out aa al ac at' (Ints.below HA.out hB (Nat.le_refl _)) HGO.out s hsN).mono ?_
          rintro e w'' ⟨va, vc, rfl, hi, hb⟩
          exact ⟨va, vc, rfl, bstep h hb, hi, hb⟩
        have KG : Hid (∀ w' va vc, Below w3.heap.size w3 w' → Ints w' va (cl + rl) (Num.look (Num.askP p s) at').x → Calls Tryz.prog 85 #[.slice aa al ac, .slice xa (cl + rl) xc, .slice va (cl + rl) vc] w' fun e w'' => e = .returned (.int .i64 (Num.outN at' lx (Num.look (Num.askP p s) at').x al)) ∧ Below w3.heap.size w3 w'') := by
          intro w' va vc h hi
          have hB := bstep hB2 h
          refine (goesOut_any aa xa va al ac (cl + rl) xc (cl + rl) vc at' lx _ w' (Ints.below HA.out hB (Nat.le_refl _)) (Ints.below HIX2.out h (Nat.le_refl _)) hi hx8 rfl (by have := HAR.out; omega) (by rw [HAR.out]; exact (Num.right_all at' rl _ HGO.out.right).2) HXX.out HVB.out).mono ?_
          rintro e w'' ⟨rfl, n, rfl⟩
          exact ⟨rfl, bdrewN h n⟩
        generalize Num.look (Num.askP p s) at' = LV at *
        obtain ⟨_, lv, _, _, _, _, _⟩ := LV
        dsimp only at HVL HVB HND HNS KF KG
        have q0 : ∀ w', Below w3.heap.size w3 w' → w'.cell? ⟨w.heap.size, 0, none⟩ = some (.slice ca cl cc) := fun w' h => carry h d0
        have q1 : ∀ w', Below w3.heap.size w3 w' → w'.cell? ⟨w.heap.size, 1, none⟩ = some (.slice ra rl rc) := fun w' h => carry h d1
        have q2 : ∀ w', Below w3.heap.size w3 w' → w'.cell? ⟨b, 0, none⟩ = some (.slice xa (cl + rl) xc) := fun w' h => carry h z0
        have HBW : Hid (∀ w', Below w3.heap.size w3 w' → Below w.heap.size w w') := fun w' h => bstep hB2 h
        have hfd : ∀ (a : Option Addr) (n c : Nat) (d : Int) (w : World), (Instr.field 34 (.agg #[.slice a n c, .int .i64 d]) 0).run Tryz.prog w = .ok (.slice a n c) w := fun _ _ _ _ _ => by kernel_rfl
        go_wp2_with fail
        clear d0 d1 z0 hB2
        go_region_held3 (fun w' => Below w3.heap.size w3 w') (first | (with_reducible assumption) | (with_reducible exact (Below.refl _ _).drew))
          (first | (go_at_call 57; refine (KF.out _ ?_).mono ?_; (with_reducible assumption); rintro e v1 ⟨va, vc, rfl, hb1, hI1, hk1⟩)
                 | (go_at_call 85; refine (KG.out _ _ _ ?_ hI1).mono ?_; (with_reducible assumption); rintro e v2 ⟨rfl, hb2⟩))
        have hBv := HBW.out v2 hb2
        clear q0 q1 q2 KF KG hI1 hk1 hb1 HBW
        rcases Num.out_ok at' lx lv al with ⟨o1, _⟩ | ⟨o, o1, o2, _, _⟩
        · have hnx := HND.out (by rw [← HAL.out, o1]; omega)
          subst hnx
          rw [o1]
          go_wp2_with fail
          go_ret3
          exact ⟨none, 0, 0, rfl, Ints.empty _, Or.inl rfl, Nat.le_refl _, hBv⟩
        · have hnx := HNS.out o (by rw [← HAL.out]; exact o2)
          rw [← HAL.out] at hnx
          subst hnx
          rw [o2]
          have hod : decide ((o : Int) < 0) = false := decide_eq_false (by omega)
          go_wp2_with fail
          refine (exchanged_any aa al ac at' v2 (Ints.below HA.out hBv (Nat.le_refl _)) (by have := HAR.out; omega) (by have := HAR.out; omega) (cl + rl) o s (by rw [HAR.out]; exact HGO.out.right) o1 hsN (by rw [HAR.out]; exact HSB.out)).mono ?_
          rintro e v3 ⟨g, c, rfl, hg, hgc, hi, hb3⟩
          have HI : Hid _ := hi
          clear hi
          go_wp2_with fail
          go_ret3
          exact ⟨_, al, c, rfl, HI.out, Or.inr ⟨g, rfl, by have := hBv.size; omega⟩, hgc, bstep hBv hb3⟩
  · have hne : (er == 0) = false := by simpa using her
    have hnx := HHE.out er rfl her
    subst hnx
    go_wp2_with fail
    go_ret3
    exact ⟨none, 0, 0, rfl, Ints.empty _, Or.inl rfl, Nat.le_refl _, bstep hB1 (balloc _ _)⟩

end Go.Proofs.YtipcbhodlgoflabGreat

/- What walk.Walk does. -/
namespace Go.Proofs.YtipcbhodlgoflabGreat
open Go.RowKit

theorem Num.next_may (p : Num.Lp) (at' : List Int) (h : (Num.nextN p at').2.2 = 0) : p.may = true := by
  cases hm : p.may with
  | true => rfl
  | false =>
    rw [Num.next_err p at' 2 (by rw [Num.look_form p at' hm]; rfl) (by omega)] at h
    simp at h

/-- What a walk answers. -/
def Num.Walked (p : Num.Lp) (at' : List Int) (l : List (List Int)) (kind err : Int) : Prop :=
  (err ≠ 0 ∧ kind = 0 ∧ l = [] ∧ Num.nextN p at' = ([], 0, err)) ∨ (err = 0 ∧ p.may = true ∧ Num.IsWalk p at' l kind)

/-- A round of a walk: what Next answers, in plain words. -/
theorem Num.round (p : Num.Lp) (at' : List Int) (l : List (List Int)) (now : List Int) (h : Num.Path p at' l now) (hm : l = [] ∨ p.may = true) :
    (∃ e, e ≠ 0 ∧ Num.nextN p now = ([], 0, e) ∧ Num.Walked p at' [] 0 e) ∨
    (∃ k, k ≠ 0 ∧ Num.nextN p now = ([], k, 0) ∧ p.may = true ∧ Num.Good p now p.rows.length p.costs.length ∧ l.length < 4096 ∧ Num.Walked p at' (l ++ [now]) k 0) ∨
    (∃ nx, Num.nextN p now = (nx, 0, 0) ∧ nx.length = p.rows.length ∧ p.may = true ∧ Num.Good p now p.rows.length p.costs.length ∧ l.length < 4096 ∧ Num.Path p at' (l ++ [now]) nx) := by
  by_cases he : (Num.nextN p now).2.2 = 0
  · have hmay := Num.next_may p now he
    have hs := Num.path_short p.rows.length p.costs.length hmay rfl rfl h
    rcases Num.next_cases p now p.rows.length p.costs.length hmay rfl rfl with ⟨e, he', h1, _⟩ | ⟨hg, ⟨k, hk, _, h1⟩ | ⟨nx, s, k, h1, h2, h3, h4⟩⟩
    · rw [h1] at he; exact absurd he he'
    · exact Or.inr (Or.inl ⟨k, hk, h1, hmay, hg, hs, Or.inr ⟨rfl, hmay, h.ends h1 hk⟩⟩)
    · exact Or.inr (Or.inr ⟨nx, h1, h2, hmay, hg, hs, h.push h1⟩)
  · have hl : l = [] := by
      rcases hm with hm | hm
      · exact hm
      · by_cases hl : l = []
        · exact hl
        · have hg := Num.path_now p.rows.length p.costs.length hm rfl rfl h hl
          rcases Num.next_cases p now p.rows.length p.costs.length hm rfl rfl with ⟨e, _, _, hn⟩ | ⟨_, ⟨k, _, _, h1⟩ | ⟨nx, s, k, h1, _⟩⟩
          · exact absurd hg hn
          · rw [h1] at he; exact absurd rfl he
          · rw [h1] at he; exact absurd rfl he
    have hnow : now = at' := by
      have := h.1
      rw [hl] at this
      simpa using this
    subst hl hnow
    have hE : ∃ e, e ≠ 0 ∧ Num.nextN p now = ([], 0, e) := by
      unfold Num.nextN at he ⊢
      split
      · rename_i h0; exact ⟨_, h0, rfl⟩
      · rename_i h0
        rw [if_neg h0] at he
        split
        · exact ⟨3, by omega, rfl⟩
        · rename_i h1
          rw [if_neg h1] at he
          split at he
          · exact absurd rfl he
          · split at he
            · exact absurd rfl he
            · exact absurd rfl he
    obtain ⟨e, he0, hne⟩ := hE
    exact Or.inl ⟨e, he0, hne, Or.inl ⟨he0, rfl, rfl, hne⟩⟩

set_option maxRecDepth 4000 in
set_option maxHeartbeats 3200000 in
theorem walk_any (ca : Option Addr) (cl cc : Nat) (ra : Option Addr) (rl rc : Nat) (p : Num.Lp) (w : World) (hc : Ints w ca cl p.costs) (hcl : cl ≤ 9223372036854775807) (hr : RowsAt w ra rl p.rows) (hrl : rl ≤ 9223372036854775807)
    (aa : Option Addr) (al ac : Nat) (at' : List Int) (ha : Ints w aa al at') (hal : al ≤ 9223372036854775807) :
    Calls Tryz.prog 30 #[.agg #[.slice ca cl cc, .slice ra rl rc], .slice aa al ac] w fun e w' => ∃ la ll lc k er, e = .returned (.tuple #[.slice la ll lc, .int .i64 k, .int .i64 er]) ∧ ∃ l, LinesN w' la ll l ∧ ll ≤ 4096 ∧ Num.Walked p at' l k er ∧ Below w.heap.size w w' := by
  have HC : Hid (Ints w ca cl p.costs) := hc
  have HR : Hid (RowsAt w ra rl p.rows) := hr
  have HA : Hid (Ints w aa al at') := ha
  have HRL : Hid (rl = p.rows.length) := hr.1
  clear hc hr ha
  obtain ⟨i0, hif, hz0, hz1, hz2⟩ := info_parts Tryz.infoSlI
  have HBV : Hid (∀ w', Below (w.alloc (.cells #[.slice ca cl cc, .slice ra rl rc] 25)).heap.size (w.alloc (.cells #[.slice ca cl cc, .slice ra rl rc] 25)) w' → (w'.cell? ⟨w.heap.size, 0, none⟩ = some (.slice ca cl cc) ∧ w'.cell? ⟨w.heap.size, 1, none⟩ = some (.slice ra rl rc)) ∧ Below w.heap.size w w' ∧ w.heap.size < w'.heap.size) := fun w' h => ⟨(kept2 h).1, binto h, by have := h.size; simp at this; omega⟩
  go_enter Tryz.func30, Tryz.ntmps30
  go_wp2_with fail
  generalize hV : w.alloc (.cells #[.slice ca cl cc, .slice ra rl rc] 25) = V at *
  have HIV : Hid (Ints V aa al at') := by rw [← hV]; exact Ints.below HA.out (balloc _ _) (Nat.le_refl _)
  clear hV
  go_loopw [1, 7] (fun t v wr => ∃ l now na nl nc, Num.Path p at' l now ∧ (l = [] ∨ p.may = true) ∧ t = .slice na nl nc ∧ nl ≤ 9223372036854775807 ∧ Ints wr na nl now ∧ LinesO wr V.heap.size v l ∧ Below V.heap.size V wr) (fun _ v _ => 4096 - lenOf v)
  case atStart => exact ⟨[], at', aa, al, ac, Num.Path.start p at', Or.inl rfl, rfl, hal, HIV.out, LinesO.nil _ _, Below.refl _ _⟩
  case round =>
    obtain ⟨l, now, na, nl, nc, hpath, hlm, rfl, hnl, hin, hlo, hbl⟩ := hrel
    clear HIV
    have HPATH : Hid (Num.Path p at' l now) := hpath
    have HROUND : Hid _ := Num.round p at' l now hpath hlm
    have HIN : Hid (Ints wr na nl now) := hin
    have HLO : Hid (LinesO wr V.heap.size _ l) := hlo
    obtain ⟨⟨b0, b1⟩, hB, hz⟩ := HBV.out wr hbl
    clear hpath hlm hin
    obtain ⟨va, vc, hv, _⟩ := hlo.lines
    clear hlo
    go_wp2_with fail
    refine (next_any ca cl cc ra rl rc p wr (Ints.below HC.out hB (Nat.le_refl _)) hcl (RowsAt.below HR.out hB (Nat.le_refl _)) hrl na nl nc now HIN.out hnl).mono ?_
    rintro e w1 ⟨xa, xl, xc, rfl, hix, hfx, hxc, hb1⟩
    have hbl1 := bstep hbl hb1
    clear b0 b1 hB hz hbl
    obtain ⟨⟨b0, b1⟩, hB, hz⟩ := HBV.out w1 hbl1
    rcases HROUND.out with ⟨er, he, hnx, hwk⟩ | ⟨k, hk, hnx, hmay, hgo, hsh, hwk⟩ | ⟨nx, hnx, hnlen, hmay, hgo, hsh, hpt⟩
    · rw [hnx] at hix
      rw [hnx]
      have hne : (er == 0) = false := by simpa using he
      have HWK : Hid (Num.Walked p at' [] 0 er) := hwk
      clear hwk
      go_wp2_with fail
      go_ret3
      exact ⟨none, 0, 0, 0, er, rfl, [], LinesN.nil _, by omega, HWK.out, hB⟩
    · rw [hnx] at hix
      rw [hnx]
      have hnow : nl = now.length := HIN.out.1
      have hrl4 : 1 ≤ nl ∧ nl ≤ 4 := by have := (Num.right_all now _ _ hgo.right).1; have := (p.may_of hmay).2.2.1; omega
      clear hnow
      have HWK : Hid (Num.Walked p at' (l ++ [now]) k 0) := hwk
      clear hwk hgo
      have hxl : xl = 0 := hix.1
      subst hxl
      go_wp2_with fail
      refine (cloneI_any na nl nc now w1 (Ints.below HIN.out hb1 (Nat.le_refl _)) hrl4.1 hrl4.2).mono ?_
      rintro e w2 ⟨g, c, rfl, hg, hgc, hO, hb2⟩
      have hbl2 := bstep hbl1 hb2
      have hb2' : Below wr.heap.size wr w2 := bstep hb1 hb2
      have hL : LinesO (w2.alloc (.cells #[.slice (some ⟨g, 0, none⟩) nl c] 58)) V.heap.size _ l := LinesO.below HLO.out (bstep hb2' (balloc _ _))
      have HIC : Hid (Ints (w2.alloc (.cells #[.slice (some ⟨g, 0, none⟩) nl c] 58)) (some ⟨g, 0, none⟩) nl now) := Ints.below hO.ints (balloc _ _) (Nat.le_refl _)
      obtain ⟨vs0, ho0, _⟩ := HLO.out
      have HOFF : Hid (Off (w2.alloc (.cells #[.slice (some ⟨g, 0, none⟩) nl c] 58)) _ (some ⟨g, 0, none⟩) nl) := Off.fresh ho0 (Or.inr ⟨g, rfl, by have := hb1.size; omega⟩) HIC.out
      obtain ⟨vs, hov, hvin⟩ := hL
      have HOV : Hid _ := hov
      have HVIN : Hid _ := hvin
      have hVs : V.heap.size ≤ w2.heap.size := hbl2.size
      have hVa : V.heap.size ≤ (w2.alloc (.cells #[.slice (some ⟨g, 0, none⟩) nl c] 58)).heap.size := by simp; omega
      clear ho0 hov hvin hO b0 b1 hB hz
      subst hv
      go_wp2_with (at_builtin; refine wpList_append_own_at _ rfl (.tmp 21) (.tmp 24) 85 rfl V.heap.size 58 i0 (.slice none 0 0) 1 24 Tryz.underlying85 hif hz0 hz1 hz2 rfl (by decide) _ l.length vs rfl HOV.out ⟨w2.heap.size, 0, none⟩ 1 1 [.slice (some ⟨g, 0, none⟩) nl c] rfl rfl ?p3 ?p4 ?p5 ?p6 hVa ?_)
      case p3 => first | exact news_one rfl _ _ | exact news_one' rfl _ _
      case p4 => first | rfl | (intro u hu; simp at hu; subst hu; rfl)
      case p5 => unfold maxLen; omega
      case p6 => omega
      intro v' w3 ho3 hg3 _ hat3
      have HL3 : Hid (LinesO w3 V.heap.size v' (l ++ [now])) := LinesO.push HOV.out HVIN.out HIC.out HOFF.out ho3 hg3 (by simpa using hat3)
      have hbl3 : Below V.heap.size V w3 := Below.grown (bstep hbl2 (balloc _ _)) hg3 hVa (fun j hj => (own_lt HOV.out j hj).1)
      obtain ⟨la, lc, rfl, hli⟩ := HL3.out.lines
      rw [List.length_append, List.length_singleton] at hli ⊢
      have HLI : Hid (LinesN w3 la (l.length + 1) (l ++ [now])) := hli
      clear hli ho3 hg3 hat3 HOV HVIN
      go_wp2_with fail
      go_ret3
      exact ⟨la, _, lc, k, 0, rfl, l ++ [now], HLI.out, by omega, HWK.out, (HBV.out w3 hbl3).2.1⟩
    · rw [hnx] at hix
      rw [hnx]
      have hnow : nl = now.length := HIN.out.1
      have hrl4 : 1 ≤ nl ∧ nl ≤ 4 := by have := (Num.right_all now _ _ hgo.right).1; have := (p.may_of hmay).2.2.1; omega
      clear hnow
      dsimp only at hix
      have HPT : Hid (Num.Path p at' (l ++ [now]) nx) := hpt
      have HIX : Hid (Ints w1 xa xl nx) := hix
      have hxl : 1 ≤ xl ∧ xl ≤ 4 := by have := hix.1; have := (p.may_of hmay).2.2.1; omega
      have HFX : Hid _ := hfx
      clear hpt hgo hix hfx
      go_wp2_with fail
      refine (cloneI_any na nl nc now w1 (Ints.below HIN.out hb1 (Nat.le_refl _)) hrl4.1 hrl4.2).mono ?_
      rintro e w2 ⟨g, c, rfl, hg, hgc, hO, hb2⟩
      have hbl2 := bstep hbl1 hb2
      have hb2' : Below wr.heap.size wr w2 := bstep hb1 hb2
      have hL : LinesO (w2.alloc (.cells #[.slice (some ⟨g, 0, none⟩) nl c] 58)) V.heap.size _ l := LinesO.below HLO.out (bstep hb2' (balloc _ _))
      have HIC : Hid (Ints (w2.alloc (.cells #[.slice (some ⟨g, 0, none⟩) nl c] 58)) (some ⟨g, 0, none⟩) nl now) := Ints.below hO.ints (balloc _ _) (Nat.le_refl _)
      obtain ⟨vs0, ho0, _⟩ := HLO.out
      have HOFF : Hid (Off (w2.alloc (.cells #[.slice (some ⟨g, 0, none⟩) nl c] 58)) _ (some ⟨g, 0, none⟩) nl) := Off.fresh ho0 (Or.inr ⟨g, rfl, by have := hb1.size; omega⟩) HIC.out
      obtain ⟨vs, hov, hvin⟩ := hL
      have HOV : Hid _ := hov
      have HVIN : Hid _ := hvin
      have hVs : V.heap.size ≤ w2.heap.size := hbl2.size
      have hVa : V.heap.size ≤ (w2.alloc (.cells #[.slice (some ⟨g, 0, none⟩) nl c] 58)).heap.size := by simp; omega
      clear ho0 hov hvin hO b0 b1 hB hz
      subst hv
      go_wp2_with (at_builtin; refine wpList_append_own_at _ rfl (.tmp 21) (.tmp 24) 85 rfl V.heap.size 58 i0 (.slice none 0 0) 1 24 Tryz.underlying85 hif hz0 hz1 hz2 rfl (by decide) _ l.length vs rfl HOV.out ⟨w2.heap.size, 0, none⟩ 1 1 [.slice (some ⟨g, 0, none⟩) nl c] rfl rfl ?p3 ?p4 ?p5 ?p6 hVa ?_)
      case p3 => first | exact news_one rfl _ _ | exact news_one' rfl _ _
      case p4 => first | rfl | (intro u hu; simp at hu; subst hu; rfl)
      case p5 => unfold maxLen; omega
      case p6 => omega
      intro v' w3 ho3 hg3 _ hat3
      have HL3 : Hid (LinesO w3 V.heap.size v' (l ++ [now])) := LinesO.push HOV.out HVIN.out HIC.out HOFF.out ho3 hg3 (by simpa using hat3)
      have hbl3 : Below V.heap.size V w3 := Below.grown (bstep hbl2 (balloc _ _)) hg3 hVa (fun j hj => (own_lt HOV.out j hj).1)
      have HI3 : Hid (Ints w3 xa xl nx) := by
        have h1 : Ints (w2.alloc (.cells #[.slice (some ⟨g, 0, none⟩) nl c] 58)) xa xl nx := Ints.below HIX.out (bstep hb2 (balloc _ _)) (Nat.le_refl _)
        obtain ⟨vs1, ho1, _⟩ := HLO.out
        exact h1.grown (Off.fresh ho1 HFX.out h1) hg3
      obtain ⟨la, lc, rfl, hli⟩ := HL3.out.lines
      clear hli ho3 hg3 hat3 HOV HVIN
      have hxd : ((xl : Int) == 0) = false := by simp; omega
      go_wp2_with fail
      go_roundw
      case rel => exact ⟨l ++ [now], nx, xa, xl, xc, HPT.out, Or.inr hmay, rfl, by omega, HI3.out, HL3.out, hbl3⟩
      case measure => simp [lenOf]; omega

end Go.Proofs.YtipcbhodlgoflabGreat
