/- What proof.isNothing does. -/
import Derived.Test.YtjlkegchkngliaaPrfW3
namespace Go.Proofs.Ytjlkegchkngliaa
open Go.RowKit

section
variable {P : Program} {l : List Oper} {Q : Exit → Act → World → Prop} {md : Region.Mode} {S : World → Prop}

/-- Take number i first, the region being written out. -/
theorem takeH {i : Nat} {oi : Oper} {v : Value} {fuel : Nat} {listed : Array Bool} {a : Act} {w : World} (hi : l[i]? = some oi)
    (hs : Region.noSelect l.toArray = true) (hf : Region.free md l.toArray listed i = true) (hr : (Region.ready md l.toArray listed).contains i = true)
    (hQ : ∀ c a w, Q (.panic c) (a.put oi.dst v) w → Q (.panic c) a w) (hy : YieldsIf P l.toArray S oi v a) (hS : S w)
    (h : wpAnyH P md l.toArray Q S fuel (listed.setIfInBounds i true) (a.put oi.dst v) w) : wpAnyH P md l.toArray Q S (fuel + 1) listed a w :=
  wpAnyH_take (by rw [List.getElem?_toArray]; exact hi) hs hf hr hQ hy hS h

/-- The one that is ready is carried out. -/
theorem readyH {i : Nat} {o : Oper} {fuel : Nat} {listed : Array Bool} {a : Act} {w : World} (hi : l[i]? = some o)
    (h : ∀ K' : Act → World → Prop, Shut (∀ a w, S w → (S w → wpAnyH P md l.toArray Q S fuel (listed.setIfInBounds i true) a w) → K' a w) → if Region.wanted o (yielded l.toArray a.tmps) = true then Oper.wp P o a w K' Q else K' (a.put o.dst undef) w) :
    AllReadyH P md l.toArray Q S fuel listed a w [i] :=
  AllReadyH.cons (by rw [List.getElem?_toArray]; exact hi) h AllReadyH.nil
end

/-- A program's box and an answer's, in every later world. -/
theorem box29 {w w1 : World} {a b c0 c1 c2 c3 c4 c5 c6 c7 c8 : Value} {t u : TypeId} (hb : Below ((w.alloc (.cells #[a, b] t)).alloc (.cells #[c0, c1, c2, c3, c4, c5, c6, c7, c8] u)).heap.size ((w.alloc (.cells #[a, b] t)).alloc (.cells #[c0, c1, c2, c3, c4, c5, c6, c7, c8] u)) w1) :
    (w1.cell? ⟨w.heap.size, 0, none⟩ = some a ∧ w1.cell? ⟨w.heap.size, 1, none⟩ = some b) ∧ Nine (w.heap.size + 1) c0 c1 c2 c3 c4 c5 c6 c7 c8 w1 ∧ w.heap.size + 1 < w1.heap.size ∧ Below w.heap.size w w1 := by
  have hn := Nine.step (Nine.new (w.alloc (.cells #[a, b] t)) c0 c1 c2 c3 c4 c5 c6 c7 c8 u) hb
  refine ⟨⟨?_, ?_⟩, by simpa using hn, ?_, ?_⟩
  · rw [hb.cell (by simp; omega)]; go_simp
  · rw [hb.cell (by simp; omega)]; go_simp
  · have := hb.size; simp at this; omega
  · exact (((Below.refl _ _).alloc (Nat.le_refl _) _).alloc (by simp) _).trans (hb.mono (by simp; omega))

/-- A new slice of n zeros, wherever it is made. -/
theorem make_zeros (n : Nat) (hn : n ≤ 4) : ∃ f : World → World, (∀ w, (Instr.makeSlice 22 (.int .i64 (n : Int)) (.int .i64 (n : Int))).run Try.prog w = .ok (.slice (some ⟨w.heap.size, 0, none⟩) n n) (f w)) ∧ (∀ w, Below w.heap.size w (f w) ∧ Ints (f w) (some ⟨w.heap.size, 0, none⟩) n (List.replicate n 0)) := by
  obtain ⟨i0, hif, hz0, hz1, hz2⟩ := info_parts Try.info64
  have key : ∀ w : World, ∃ w', (Instr.makeSlice 22 (.int .i64 (n : Int)) (.int .i64 (n : Int))).run Try.prog w = .ok (.slice (some ⟨w.heap.size, 0, none⟩) n n) w' ∧ Below w.heap.size w w' ∧ Ints w' (some ⟨w.heap.size, 0, none⟩) n (List.replicate n 0) := by
    intro w
    obtain ⟨w', h1, h2, h3⟩ := run_make_full (P := Try.prog) w w.heap.size 22 2 i0 (.int .i64 0) 1 Try.underlying22 hif hz0 hz1 .i64 .i64 n (by rw [hz2]; omega) (by unfold maxLen; omega) (Nat.le_refl _)
    refine ⟨w', h1, made_below h3, ?_⟩
    have := (Own.made (fun _ => 0) h2).ints
    rw [Num.fill_zero] at this
    exact this
  exact ⟨fun w => (key w).choose, fun w => (key w).choose_spec.1, fun w => (key w).choose_spec.2⟩

theorem Num.nothing_no (p : Num.Lp) (a : Num.Ans) (h : (a.yd == 1) = false) : Num.nothingB p a = false := by unfold Num.nothingB; rw [h]; rfl
theorem Num.nothing_cov (p : Num.Lp) (a : Num.Ans) (h : Num.coversB p p.rows.length a.y a.yd (List.replicate p.costs.length 0) = false) : Num.nothingB p a = false := by unfold Num.nothingB; rw [h]; simp
theorem Num.nothing_yes (p : Num.Lp) (a : Num.Ans) (h1 : (a.yd == 1) = true) (h : Num.coversB p p.rows.length a.y a.yd (List.replicate p.costs.length 0) = true) : Num.nothingB p a = decide (Num.pricedN p p.rows.length a.y < 0) := by unfold Num.nothingB; rw [h, h1]; simp

set_option maxHeartbeats 1600000 in
theorem nothing_any (ca : Option Addr) (cl cc : Nat) (ra : Option Addr) (m rc : Nat) (p : Num.Lp) (w : World) (hc : Ints w ca cl p.costs) (hr : RowsAt w ra m p.rows) (hm : p.may = true) (a : Num.Ans)
    (xa : Option Addr) (xl xc : Nat) (ya : Option Addr) (yl yc : Nat) (za : Option Addr) (zl zc : Nat) (hy : Ints w ya yl a.y) (hyl : yl ≤ 9223372036854775807) :
    Calls Try.prog 69 #[.agg #[.slice ca cl cc, .slice ra m rc], .agg #[.int .i64 a.kind, .slice xa xl xc, .int .i64 a.xd, .slice ya yl yc, .int .i64 a.yd, .slice za zl zc, .int .i64 a.rd, .int .i64 a.wn, .int .i64 a.wd]] w fun e w' =>
      e = .returned (.bool (Num.nothingB p a)) ∧ Below w.heap.size w w' := by
  have HR : Hid (RowsAt w ra m p.rows) := hr
  have HY : Hid (Ints w ya yl a.y) := hy
  have HM : Hid (p.may = true) := hm
  have HCL : Hid (cl = p.costs.length) := hc.1
  have HRL : Hid (m = p.rows.length) := hr.1
  have hcl4 : cl ≤ 4 := by have := hc.1; have := (p.may_of hm).1.2; omega
  clear hr hy hm hc
  have hL0 : Below ((w.alloc (.cells #[.slice ca cl cc, .slice ra m rc] 40)).alloc (.cells #[.int .i64 a.kind, .slice xa xl xc, .int .i64 a.xd, .slice ya yl yc, .int .i64 a.yd, .slice za zl zc, .int .i64 a.rd, .int .i64 a.wn, .int .i64 a.wd] 57)).heap.size ((w.alloc (.cells #[.slice ca cl cc, .slice ra m rc] 40)).alloc (.cells #[.int .i64 a.kind, .slice xa xl xc, .int .i64 a.xd, .slice ya yl yc, .int .i64 a.yd, .slice za zl zc, .int .i64 a.rd, .int .i64 a.wn, .int .i64 a.wd] 57)) ((w.alloc (.cells #[.slice ca cl cc, .slice ra m rc] 40)).alloc (.cells #[.int .i64 a.kind, .slice xa xl xc, .int .i64 a.xd, .slice ya yl yc, .int .i64 a.yd, .slice za zl zc, .int .i64 a.rd, .int .i64 a.wn, .int .i64 a.wd] 57)) := Below.refl _ _
  obtain ⟨f, hmk, hfz⟩ := make_zeros cl hcl4
  have HFZ : Hid _ := hfz
  clear hfz
  have HN1 := Num.nothing_no p a
  have HN2 := Num.nothing_cov p a
  have HN3 := Num.nothing_yes p a
  rw [← HRL.out, ← HCL.out] at HN2 HN3
  have H1 : Hid _ := HN1
  have H2 : Hid _ := HN2
  have H3 : Hid _ := HN3
  clear HN1 HN2 HN3
  generalize Num.nothingB p a = res at *
  obtain ⟨kd, x, xd, y, yd, z, zd, wn, wd⟩ := a
  dsimp only at *
  go_enter Try.func69, Try.ntmps69
  go_wp2_with fail
  generalize hV : (w.alloc (.cells #[.slice ca cl cc, .slice ra m rc] 40)).alloc (.cells #[.int .i64 kd, .slice xa xl xc, .int .i64 xd, .slice ya yl yc, .int .i64 yd, .slice za zl zc, .int .i64 zd, .int .i64 wn, .int .i64 wd] 57) = V at *
  have HBX : Hid (∀ w', Below V.heap.size V w' → (w'.cell? ⟨w.heap.size, 0, none⟩ = some (.slice ca cl cc) ∧ w'.cell? ⟨w.heap.size, 1, none⟩ = some (.slice ra m rc)) ∧ Nine (w.heap.size + 1) (.int .i64 kd) (.slice xa xl xc) (.int .i64 xd) (.slice ya yl yc) (.int .i64 yd) (.slice za zl zc) (.int .i64 zd) (.int .i64 wn) (.int .i64 wd) w' ∧ w.heap.size + 1 < w'.heap.size ∧ Below w.heap.size w w') := by
    intro w' h; rw [← hV] at h; exact box29 h
  clear hV
  have q0 : ∀ w', Below V.heap.size V w' → w'.cell? ⟨w.heap.size, 0, none⟩ = some (.slice ca cl cc) := fun w' h => (HBX.out w' h).1.1
  have q1 : ∀ w', Below V.heap.size V w' → w'.cell? ⟨w.heap.size, 1, none⟩ = some (.slice ra m rc) := fun w' h => (HBX.out w' h).1.2
  have q3 : ∀ w', Below V.heap.size V w' → w'.cell? ⟨w.heap.size + 1, 3, none⟩ = some (.slice ya yl yc) := fun w' h => (HBX.out w' h).2.1.n3
  have q4 : ∀ w', Below V.heap.size V w' → w'.cell? ⟨w.heap.size + 1, 4, none⟩ = some (.int .i64 yd) := fun w' h => (HBX.out w' h).2.1.n4
  have hS0 : Below V.heap.size V V.drew := (Below.refl _ _).drew
  have HFS : Hid (∀ w', Below V.heap.size V w' → Below V.heap.size V (f w')) := fun w' h => bstep h (HFZ.out w').1
  cases hd : (yd == 1) with
  | false =>
    have hf := H1.out hd
    have p4 := q4 V hL0
    clear q0 q1 q3 q4
    go_region
    have hBf := (HBX.out V.drew hS0).2.2.2
    go_wp2_with fail
    go_ret
    exact ⟨ret_bool hf.symm, hBf⟩
  | true =>
    obtain rfl : yd = 1 := by simpa using hd
    have hS1 : Below V.heap.size V (f V.drew) := HFS.out _ hS0
    have KC : Hid (∀ w' g, Below V.heap.size V w' → Ints w' (some ⟨g, 0, none⟩) cl (List.replicate cl 0) → Calls Try.prog 93 #[.agg #[.slice ca cl cc, .slice ra m rc], .agg #[.slice ya yl yc, .int .i64 1], .slice (some ⟨g, 0, none⟩) cl cl] w' fun e w'' => e = .returned (.bool (Num.coversB p m y 1 (List.replicate cl 0))) ∧ Below V.heap.size V w'') := by
      intro w' g h hi
      exact (covers_any _ _ _ _ _ _ p w' (RowsAt.below HR.out (HBX.out w' h).2.2.2 (Nat.le_refl _)) HM.out _ _ _ y 1 (Ints.below HY.out (HBX.out w' h).2.2.2 (Nat.le_refl _)) hyl _ _ _ (List.replicate cl 0) hi hcl4 (fun j => by rw [List.getElem?_replicate]; split <;> simp)).mono fun _ _ k => ⟨k.1, bstep h k.2⟩
    cases hcv : Num.coversB p m y 1 (List.replicate cl 0) with
    | false =>
      rw [hcv] at KC
      have hf := H2.out hcv
      refine wp_region_held_drew (S := fun w' => Below V.heap.size V w') (by kernel_rfl) ?_ (fun hHeld => ?_)
      · assumption
      refine takeH (i := 0) (v := ?_) rfl (by kernel_rfl) (by kernel_rfl) (by kernel_rfl) (fun _ _ _ h => h) (Or.inl ⟨by rfl, ?_⟩) (by assumption) ?_
      rotate_left
      · (intro w' hSw; go_simp; (try with_reducible rfl))
      simp only [Act.put, List.setIfInBounds_toArray, List.set_cons_zero, List.set_cons_succ]
      refine takeH (i := 1) (v := ?_) rfl (by kernel_rfl) (by kernel_rfl) (by kernel_rfl) (fun _ _ _ h => h) (Or.inl ⟨by rfl, ?_⟩) (by assumption) ?_
      rotate_left
      · (intro w' hSw; go_simp; (try with_reducible rfl))
      simp only [Act.put, List.setIfInBounds_toArray, List.set_cons_zero, List.set_cons_succ]
      refine takeH (i := 2) (v := ?_) rfl (by kernel_rfl) (by kernel_rfl) (by kernel_rfl) (fun _ _ _ h => h) (Or.inl ⟨by rfl, ?_⟩) (by assumption) ?_
      rotate_left
      · (intro w' hSw; go_simp; (try with_reducible rfl))
      simp only [Act.put, List.setIfInBounds_toArray, List.set_cons_zero, List.set_cons_succ]
      refine takeH (i := 3) (v := ?_) rfl (by kernel_rfl) (by kernel_rfl) (by kernel_rfl) (fun _ _ _ h => h) (Or.inl ⟨by rfl, ?_⟩) (by assumption) ?_
      rotate_left
      · (intro w' hSw; go_simp; (try with_reducible rfl))
      simp only [Act.put, List.setIfInBounds_toArray, List.set_cons_zero, List.set_cons_succ]
      refine takeH (i := 4) (v := ?_) rfl (by kernel_rfl) (by kernel_rfl) (by kernel_rfl) (fun _ _ _ h => h) (Or.inl ⟨by rfl, ?_⟩) (by assumption) ?_
      rotate_left
      · (intro w' hSw; go_simp; (try with_reducible rfl))
      simp only [Act.put, List.setIfInBounds_toArray, List.set_cons_zero, List.set_cons_succ]
      refine takeH (i := 5) (v := ?_) rfl (by kernel_rfl) (by kernel_rfl) (by kernel_rfl) (fun _ _ _ h => h) (Or.inl ⟨by rfl, ?_⟩) (by assumption) ?_
      rotate_left
      · (intro w' hSw; go_simp; (try with_reducible rfl))
      simp only [Act.put, List.setIfInBounds_toArray, List.set_cons_zero, List.set_cons_succ]
      refine takeH (i := 6) (v := ?_) rfl (by kernel_rfl) (by kernel_rfl) (by kernel_rfl) (fun _ _ _ h => h) (Or.inl ⟨by rfl, ?_⟩) (by assumption) ?_
      rotate_left
      · (intro w' hSw; go_simp; (try with_reducible rfl))
      simp only [Act.put, List.setIfInBounds_toArray, List.set_cons_zero, List.set_cons_succ]
      refine takeH (i := 7) (v := ?_) rfl (by kernel_rfl) (by kernel_rfl) (by kernel_rfl) (fun _ _ _ h => h) (Or.inl ⟨by rfl, ?_⟩) (by assumption) ?_
      rotate_left
      · (intro w' hSw; go_simp; (try with_reducible rfl))
      simp only [Act.put, List.setIfInBounds_toArray, List.set_cons_zero, List.set_cons_succ]
      refine takeH (i := 8) (v := ?_) rfl (by kernel_rfl) (by kernel_rfl) (by kernel_rfl) (fun _ _ _ h => h) (Or.inl ⟨by rfl, ?_⟩) (by assumption) ?_
      rotate_left
      · (intro w' hSw; go_simp; (try with_reducible rfl))
      simp only [Act.put, List.setIfInBounds_toArray, List.set_cons_zero, List.set_cons_succ]
      refine takeH (i := 9) (v := ?_) rfl (by kernel_rfl) (by kernel_rfl) (by kernel_rfl) (fun _ _ _ h => h) (Or.inl ⟨by rfl, ?_⟩) (by assumption) ?_
      rotate_left
      · (intro w' hSw; go_simp; (try with_reducible rfl))
      simp only [Act.put, List.setIfInBounds_toArray, List.set_cons_zero, List.set_cons_succ]
      refine takeH (i := 10) (v := ?_) rfl (by kernel_rfl) (by kernel_rfl) (by kernel_rfl) (fun _ _ _ h => h) (Or.inl ⟨by rfl, ?_⟩) (by assumption) ?_
      rotate_left
      · (intro w' hSw; go_simp; (try with_reducible rfl))
      simp only [Act.put, List.setIfInBounds_toArray, List.set_cons_zero, List.set_cons_succ]
      refine wpAnyH_ready (rs := [11]) (by kernel_rfl) (by simp) ?_
      refine readyH rfl (fun K hK => ?_)
      go_simp
      refine hK.out _ _ ?_ (fun hHeld => ?_)
      · (first | assumption | (apply HFS.out; assumption))
      clear hK K
      refine wpAnyH_ready (rs := [12]) (by kernel_rfl) (by simp) ?_
      refine readyH rfl (fun K hK => ?_)
      go_simp
      refine (KC.out _ _ ?_ (HFZ.out _).2).mono ?_
      · assumption
      rintro e v1 ⟨rfl, hb1⟩
      go_wp2_with fail
      refine hK.out _ _ ?_ (fun hHeld => ?_)
      · (first | assumption | (apply HFS.out; assumption))
      clear hK K
      refine takeH (i := 13) (v := ?_) rfl (by kernel_rfl) (by kernel_rfl) (by kernel_rfl) (fun _ _ _ h => h) (Or.inl ⟨by rfl, ?_⟩) (by assumption) ?_
      rotate_left
      · (intro w' hSw; go_simp; (try with_reducible rfl))
      simp only [Act.put, List.setIfInBounds_toArray, List.set_cons_zero, List.set_cons_succ]
      refine takeH (i := 14) (v := ?_) rfl (by kernel_rfl) (by kernel_rfl) (by kernel_rfl) (fun _ _ _ h => h) (Or.inl ⟨by rfl, ?_⟩) (by assumption) ?_
      rotate_left
      · (intro w' hSw; go_simp; (try with_reducible rfl))
      simp only [Act.put, List.setIfInBounds_toArray, List.set_cons_zero, List.set_cons_succ]
      refine takeH (i := 15) (v := undef) rfl (by kernel_rfl) (by kernel_rfl) (by kernel_rfl) (fun _ _ _ h => h) (Or.inr ⟨by rfl, rfl⟩) (by assumption) ?_
      simp only [Act.put, List.setIfInBounds_toArray, List.set_cons_zero, List.set_cons_succ]
      refine takeH (i := 16) (v := undef) rfl (by kernel_rfl) (by kernel_rfl) (by kernel_rfl) (fun _ _ _ h => h) (Or.inr ⟨by rfl, rfl⟩) (by assumption) ?_
      simp only [Act.put, List.setIfInBounds_toArray, List.set_cons_zero, List.set_cons_succ]
      refine takeH (i := 17) (v := undef) rfl (by kernel_rfl) (by kernel_rfl) (by kernel_rfl) (fun _ _ _ h => h) (Or.inr ⟨by rfl, rfl⟩) (by assumption) ?_
      simp only [Act.put, List.setIfInBounds_toArray, List.set_cons_zero, List.set_cons_succ]
      refine takeH (i := 18) (v := undef) rfl (by kernel_rfl) (by kernel_rfl) (by kernel_rfl) (fun _ _ _ h => h) (Or.inr ⟨by rfl, rfl⟩) (by assumption) ?_
      simp only [Act.put, List.setIfInBounds_toArray, List.set_cons_zero, List.set_cons_succ]
      refine takeH (i := 19) (v := undef) rfl (by kernel_rfl) (by kernel_rfl) (by kernel_rfl) (fun _ _ _ h => h) (Or.inr ⟨by rfl, rfl⟩) (by assumption) ?_
      simp only [Act.put, List.setIfInBounds_toArray, List.set_cons_zero, List.set_cons_succ]
      refine takeH (i := 20) (v := ?_) rfl (by kernel_rfl) (by kernel_rfl) (by kernel_rfl) (fun _ _ _ h => h) (Or.inl ⟨by rfl, ?_⟩) (by assumption) ?_
      rotate_left
      · (intro w' hSw; go_simp; (try with_reducible rfl))
      simp only [Act.put, List.setIfInBounds_toArray, List.set_cons_zero, List.set_cons_succ]
      refine takeH (i := 21) (v := ?_) rfl (by kernel_rfl) (by kernel_rfl) (by kernel_rfl) (fun _ _ _ h => h) (Or.inl ⟨by rfl, ?_⟩) (by assumption) ?_
      rotate_left
      · (intro w' hSw; go_simp; (try with_reducible rfl))
      simp only [Act.put, List.setIfInBounds_toArray, List.set_cons_zero, List.set_cons_succ]
      refine wpAnyH_done (by kernel_rfl) ?_ _
      have hBf := (HBX.out v1 hb1).2.2.2
      clear q0 q1 q3 q4 KC hmk hHeld
      go_wp2_with fail
      go_ret
      exact ⟨ret_bool hf.symm, hBf⟩
    | true =>
      rw [hcv] at KC
      have hf := H3.out hd hcv
      obtain ⟨hpt, _⟩ := Num.covers_of _ _ _ _ _ hcv
      obtain ⟨hym, _, hyw, _, _⟩ := Num.point_of _ _ _ hpt
      have HYB : Hid (∀ j : Nat, -1073741824 ≤ y[j]?.getD 0 ∧ y[j]?.getD 0 ≤ 1073741824) := Num.withinB_iff _ _ hyw (by omega)
      have hylm : yl = m := by have := HY.out.1; omega
      clear hpt hyw hcv hym
      subst hylm
      have KP : Hid (∀ w', Below V.heap.size V w' → Calls Try.prog 94 #[.agg #[.slice ca cl cc, .slice ra yl rc], .agg #[.slice ya yl yc, .int .i64 1]] w' fun e w'' => e = .returned (.int .i64 (Num.pricedN p yl y)) ∧ Below V.heap.size V w'') := by
        intro w' h
        exact (priced_any _ _ _ _ _ _ p w' (RowsAt.below HR.out (HBX.out w' h).2.2.2 (Nat.le_refl _)) HM.out _ _ y 1 (Ints.below HY.out (HBX.out w' h).2.2.2 (Nat.le_refl _)) HYB.out).mono fun _ _ k => ⟨k.1, bstep h k.2⟩
      generalize Num.pricedN p yl y = pr at hf KP
      go_region_held3 (fun w' => Below V.heap.size V w') (first | assumption | (apply HFS.out; assumption))
        (first | (go_at_call 93; refine (KC.out _ _ ?_ (HFZ.out _).2).mono ?_; assumption; rintro e v1 ⟨rfl, hb1⟩)
               | (go_at_call 94; refine (KP.out _ ?_).mono ?_; assumption; rintro e v2 ⟨rfl, hb2⟩))
      have hBf := (HBX.out v2 hb2).2.2.2
      clear q0 q1 q3 q4 KC KP hmk
      go_wp2_with fail
      go_ret
      exact ⟨ret_bool hf.symm, hBf⟩

end Go.Proofs.Ytjlkegchkngliaa
