/- The answer at the end of a walk holds: in plain numbers. -/
import Derived.Test.YtipcbhodlgoflabGreatSlvWA
import Derived.Test.YtipcbhodlgoflabGreatPlnB
namespace Go.Proofs.YtipcbhodlgoflabGreat
namespace Num

/-- Where a walk ends without end: the column that comes in, and that nothing falls. -/
theorem end_col (p : Lp) (at' : List Int) (m n : Nat) (hmay : p.may = true) (hm : m = p.rows.length) (hn : n = p.costs.length) (hg : Good p at' m n) (h : nextN p at' = ([], 2, 0)) :
    ∃ s : Nat, firstN (look p at').g (look p at').g.length = s ∧ s < n + m ∧ inB at' m s = false ∧ 0 < sgD p at' m * (gainL p at' m (n + m))[s]?.getD 0 ∧ ∀ k, k < m → sgD p at' m * (wayL p at' m s)[k]?.getD 0 ≤ 0 := by
  obtain ⟨e1, e2⟩ := (good_of p at' m n hmay hm hn).2 hg
  obtain ⟨l1, l2, l3, l4, _⟩ := first_len p at' m n hmay hm hn hg
  obtain ⟨_, _, _, _, _, gx, gg, gx0, gg0, hx, _, hgn⟩ := look_parts p at' m n hmay hm hn hg.right hg.den
  unfold nextN at h
  rw [if_neg (by omega), if_neg (by rw [e2]; decide), l1, l2] at h
  rw [l1]
  rcases first_ok (look p at').g (n + m) with ⟨f1, f2⟩ | ⟨s, f1, f2, f3, f4⟩
  · rw [f1, if_pos (by omega)] at h
    simp at h
  · rw [f2, if_neg (by omega), Int.toNat_natCast] at h
    have hsb := in_new p at' m n hmay hm hn hg s f3
    obtain ⟨_, _, _, gv, gv0, hv⟩ := ask_parts p at' m n s hmay hm hn hg
    rcases out_ok at' (look p at').x (look (askP p s) at').x m with ⟨o1, o2⟩ | ⟨o, o1, o2, o3, o4⟩
    · refine ⟨s, f2, f1, hsb, ?_, fun k hk => ?_⟩
      · rw [hgn s]; exact (pos_mul_iff _ _ gg0).2 f3
      · rw [hv k hk]; exact Int.mul_nonpos_of_nonneg_of_nonpos (Int.le_of_lt gv0) (o2 k hk)
    · rw [o2, if_neg (by omega)] at h
      simp at h

theorem sgD_ne (p : Lp) (at' : List Int) (m : Nat) : sgD p at' m ≠ 0 := by unfold sgD; split <;> omega

/-- The variables of a corner, as frac.Point tells them. -/
def varsN (p : Lp) (at' : List Int) : List Int × Int × Int := pt ((look p at').x.take p.costs.length) (look p at').xd

theorem vars_ok (p : Lp) (at' : List Int) (m n : Nat) (hmay : p.may = true) (hm : m = p.rows.length) (hn : n = p.costs.length) (hg : Good p at' m n) :
    (varsN p at').2.2 = 0 ∧ (varsN p at').1.length = n ∧ mayPB (varsN p at').2.1 (varsN p at').1 = true ∧ ∀ j, j < n → (xL p at' m (n + m))[j]?.getD 0 * (varsN p at').2.1 = (varsN p at').1[j]?.getD 0 * denL p at' m := by
  have hn4 := (p.may_of hmay).1.2
  obtain ⟨_, l1, _, d1, b1, gx, gg, gx0, gg0, hx, hd, _⟩ := look_parts p at' m n hmay hm hn hg.right hg.den
  obtain ⟨x, xd, x1, x2, x3, x4⟩ := pt_may ((look p at').x.take n) (look p at').xd (by omega) (by omega) (fun j => by
    have := b1 j
    rw [List.getElem?_take]
    split
    · omega
    · simp) (by simp; omega)
  unfold varsN
  rw [← hn, x1]
  refine ⟨rfl, by rw [x2, List.length_take]; omega, x3, fun j hj => ?_⟩
  have h1 := x4 j
  rw [List.getElem?_take, if_pos hj] at h1
  have h2 := hx j
  refine Int.eq_of_mul_eq_mul_left (sgD_ne p at' m) ?_
  show sgD p at' m * ((xL p at' m (n + m))[j]?.getD 0 * xd) = sgD p at' m * (x[j]?.getD 0 * denL p at' m)
  have e1 : sgD p at' m * ((xL p at' m (n + m))[j]?.getD 0 * xd) = gx * ((look p at').x[j]?.getD 0 * xd) := by
    have : sgD p at' m * ((xL p at' m (n + m))[j]?.getD 0 * xd) = sgD p at' m * (xL p at' m (n + m))[j]?.getD 0 * xd := by grind
    rw [this, h2]; grind
  have e2 : sgD p at' m * (x[j]?.getD 0 * denL p at' m) = gx * (x[j]?.getD 0 * (look p at').xd) := by
    have : sgD p at' m * (x[j]?.getD 0 * denL p at' m) = sgD p at' m * denL p at' m * x[j]?.getD 0 := by grind
    rw [this, hd]; grind
  rw [e1, e2, h1]

/-- What solve.walked answers at a corner where a walk ends. -/
def walkedA (p : Lp) (at' : List Int) (k : Int) : Ans :=
  if k = 2 then ⟨2, (varsN p at').1, (varsN p at').2.1, [], 0, rayN p at' (firstN (look p at').g (look p at').g.length).toNat, 1, 0, 0⟩
  else ⟨k, (varsN p at').1, (varsN p at').2.1, (look p at').y, (look p at').yd, [], 0, (worth p (varsN p at').1 (varsN p at').2.1).1, (worth p (varsN p at').1 (varsN p at').2.1).2.1⟩

theorem look_y (p : Lp) (at' : List Int) (m n : Nat) (hmay : p.may = true) (hm : m = p.rows.length) (hn : n = p.costs.length) (hg : Good p at' m n) :
    (look p at').y.length = m ∧ mayPB (look p at').yd (look p at').y = true ∧ ∀ i : Nat, (priceL p at' m)[i]?.getD 0 * (look p at').yd = (look p at').y[i]?.getD 0 * denL p at' m := by
  have h1 : 1 ≤ m := by have := (p.may_of hmay).2.2.1.1; omega
  have h4 : m ≤ 4 := by have := (p.may_of hmay).2.2.1.2; omega
  have hb := den_bd12 p at' m hmay h1 h4
  have pb := price_bd2 p at' m hmay hm
  obtain ⟨y, yd, y1, y2, y3, y4⟩ := pt_may (priceL p at' m) (denL p at' m) hg.den (by omega) (fun j => by have := pb j; omega) (by unfold priceL sharesL; simp; omega)
  have hy : (look p at').y = y ∧ (look p at').yd = yd := by
    unfold look
    rw [if_neg (by simp [hmay]), if_neg (by rw [← hm, ← hn, hg.right]; decide), if_neg (by rw [← hm]; exact hg.den), ← hm]
    exact ⟨by show (pt (priceL p at' m) (denL p at' m)).1 = y; rw [y1], by show (pt (priceL p at' m) (denL p at' m)).2.1 = yd; rw [y1]⟩
  rw [hy.1, hy.2]
  exact ⟨by rw [y2]; unfold priceL sharesL; simp, y3, y4⟩

theorem walked_holds (p : Lp) (at' : List Int) (m n : Nat) (hmay : p.may = true) (hm : m = p.rows.length) (hn : n = p.costs.length) (hg : Good p at' m n) (k : Int) (hk : nextN p at' = ([], k, 0)) (hk0 : k ≠ 0) : (k = 1 ∨ k = 2) ∧ holds p (walkedA p at' k) = true := by
  have h1 : 1 ≤ m := by have := (p.may_of hmay).2.2.1.1; omega
  have h4 : m ≤ 4 := by have := (p.may_of hmay).2.2.1.2; omega
  have hn4 := (p.may_of hmay).1
  obtain ⟨v1, v2, v3, v4⟩ := vars_ok p at' m n hmay hm hn hg
  have hgo := good_goes p at' m n hmay hm hn hg _ _ v2 v3 v4
  rcases next_kind p at' m n hmay hm hn hg with ⟨e, ht⟩ | ⟨e, _⟩ | ⟨nx, e, _⟩
  · rw [hk] at e
    simp only [Prod.mk.injEq, and_true, true_and] at e
    subst e
    refine ⟨Or.inl rfl, ?_⟩
    have hT : Top p at' m n := ⟨hg, ht⟩
    obtain ⟨y1, y2, y3⟩ := look_y p at' m n hmay hm hn hg
    have hb := den_bd12 p at' m hmay h1 h4
    have b1 := dotN_bd p.costs (xL p at' m (n + m)) 400 497664 (withinB_iff _ _ (p.may_of hmay).2.1 (by omega)) (x_bd p at' m (n + m) hmay hm) n
    obtain ⟨w1, _⟩ := corner_worth p at' m n hmay hm hn hg.right hg.den _ _ _ _ v4 (fun i _ => y3 i)
    obtain ⟨hfit, _, hxd, hxw, _⟩ := goes_len p _ _ hgo
    have b2 := dotN_bd p.costs (varsN p at').1 400 1073741824 (withinB_iff _ _ (p.may_of hmay).2.1 (by omega)) (withinB_iff _ _ hxw (by omega)) n
    have hs := mk_same (dotN p.costs (varsN p at').1 n) (varsN p at').2.1 (dotN p.costs (xL p at' m (n + m)) n) (denL p at' m) w1 (by omega) hg.den (by omega) (by omega) (by omega) (by omega)
    obtain ⟨l, ld, l1, l2, _, _⟩ := pt_may [dotN p.costs (xL p at' m (n + m)) n] (denL p at' m) hg.den (by omega) (fun j => by
      match j with
      | 0 => simp; omega
      | j + 1 => simp) (by simp)
    have hmk : (mk (dotN p.costs (xL p at' m (n + m)) n) (denL p at' m)).2.2 = 0 := by
      refine Classical.byContradiction fun hz => ?_
      have := (pt_one_bad _ _ _ _ _ rfl hz).1
      rw [l1] at this
      simp only [Prod.mk.injEq] at this
      exact hz this.2.2.symm
    have hw : worth p (varsN p at').1 (varsN p at').2.1 = mk (dotN p.costs (varsN p at').1 n) (varsN p at').2.1 := by
      unfold worth
      have hf : p.fits (varsN p at').1 (varsN p at').2.1 = true := by
        unfold Lp.goes at hgo
        simp only [Bool.and_eq_true] at hgo
        exact hgo.1.1
      rw [if_pos hf, v2]
    unfold walkedA
    rw [if_neg (by omega), holds_best p _ hmay rfl]
    simp only [Bool.and_eq_true]
    refine ⟨?_, top_best p at' m n hmay hm hn hT _ v2 v3 v4 y1 y2 (fun i _ => y3 i) ?_⟩
    · rfl
    · show mk (dotN p.costs (varsN p at').1 n) (varsN p at').2.1 = (_, _, 0)
      rw [hw, hs, ← hmk]
  · rw [hk] at e
    simp only [Prod.mk.injEq, and_true, true_and] at e
    subst e
    refine ⟨Or.inr rfl, ?_⟩
    obtain ⟨s, s1, s2, s3, s4, s5⟩ := end_col p at' m n hmay hm hn hg hk
    have hR := dir_ray p at' m n s hmay hm hg s2 s3 s4 s5
    obtain ⟨_, l1, _, d1, b1, gx, _, gx0, _, hx, hd, _⟩ := look_parts (askP p s) at' m n (ask_may p s hmay) (by rw [ask_len]; exact hm) hn hg.right (by rw [ask_den p s at' m hm]; exact hg.den)
    rw [ask_sgD p s at' m hm] at hx hd
    rw [ask_den p s at' m hm] at hd
    have hr : ∀ j, j < n → (rayN p at' s)[j]?.getD 0 = if j = s then (look (askP p s) at').xd else -((look (askP p s) at').x[j]?.getD 0) := fun j hj => by
      unfold rayN
      rw [range_getD, if_pos (by omega)]
    unfold walkedA
    rw [if_pos rfl, holds_endless p _ hmay rfl, s1, Int.toNat_natCast]
    simp only [Bool.and_eq_true]
    refine ⟨?_, ray_endless p m n hmay hm hn _ hR _ hgo rfl (by show (rayN p at' s).length = n; unfold rayN; simp; omega) (fun j hj => ?_) 1 gx (by omega) gx0 fun j hj => ?_⟩
    · exact ⟨rfl, rfl⟩
    · show (rayN p at' s)[j]?.getD 0 ≤ _
      rw [hr j hj]
      have := b1 j
      split <;> omega
    · show sgD p at' m * dirF p at' m (n + m) s j * 1 = (rayN p at' s)[j]?.getD 0 * gx
      rw [hr j hj]
      by_cases hjs : j = s
      · subst hjs
        rw [if_pos rfl]
        unfold dirF
        rw [if_pos rfl, hd]; grind
      · rw [if_neg hjs]
        have hxj := hx j
        cases hb : inB at' m j with
        | false =>
          rw [dir_not p at' m (n + m) s j hb hjs]
          rw [x_not (askP p s) at' m (n + m) j hb] at hxj
          have : (look (askP p s) at').x[j]?.getD 0 = 0 := by
            have h0 : gx * (look (askP p s) at').x[j]?.getD 0 = 0 := by rw [← hxj]; omega
            rcases Int.mul_eq_zero.1 h0 with h | h
            · omega
            · exact h
          rw [this]; omega
        | true =>
          obtain ⟨i, hi, rfl⟩ := (inB_true at' m j).1 hb
          rw [dir_in p at' m (n + m) s i hg.right hi s3]
          rw [ask_x p s at' m (n + m) hm, spread_in (n + m) at' _ m hg.right m (Nat.le_refl _) i hi] at hxj
          rw [Int.mul_neg, hxj]; grind
  · rw [hk] at e
    simp only [Prod.mk.injEq] at e
    exact absurd e.2.1 hk0

end Num
end Go.Proofs.YtipcbhodlgoflabGreat

/- Of all sets of columns one leads to an answer: in plain numbers. -/
namespace Go.Proofs.YtipcbhodlgoflabGreat
namespace Num

def setOf (at' : List Int) : Nat := (at'.map fun x => 2 ^ x.toNat).foldl (· + ·) 0

theorem sets_all : ∀ n m : Fin 4, (allC (m + 1) (n + 1 + (m + 1))).all (fun l => decide (0 < setOf l) && decide (setOf l < 2 ^ (n.val + 1 + (m.val + 1))) && (membersTo (setOf l) 8 == l)) = true := by decide +kernel

/-- All columns that are right are the bits of a number. -/
theorem sets_come (at' : List Int) (m n : Nat) (h1 : 1 ≤ m) (h4 : m ≤ 4) (hn1 : 1 ≤ n) (hn4 : n ≤ 4) (hr : rightB at' m (n + m) = true) : ∃ q, 0 < q ∧ q < 2 ^ (n + m) ∧ membersTo q 8 = at' := by
  have hmem := all_come at' m n h1 h4 hn1 hn4 hr
  obtain ⟨m, rfl⟩ : ∃ k, m = k + 1 := ⟨m - 1, by omega⟩
  obtain ⟨n, rfl⟩ : ∃ k, n = k + 1 := ⟨n - 1, by omega⟩
  have h := sets_all ⟨n, by omega⟩ ⟨m, by omega⟩
  rw [List.all_eq_true] at h
  have := h at' hmem
  simp only [Bool.and_eq_true, decide_eq_true_eq, beq_iff_eq] at this
  exact ⟨setOf at', this.1.1, this.1.2, this.2⟩

/-- A set of columns that was tried in vain. -/
def Tried (p : Lp) (m q : Nat) : Prop := (look p (membersTo q 8)).err = 0 → anyNeg (look p (membersTo q 8)).x = true ∧ ∀ k, k < m → (look p (membersTo q 8)).x[atF (membersTo q 8) k]?.getD 0 < 0 → holds p (noAns p (membersTo q 8) (atF (membersTo q 8) k)) = false

/-- Not all are tried in vain. -/
theorem tried_not (p : Lp) (m n : Nat) (hmay : p.may = true) (hm : m = p.rows.length) (hn : n = p.costs.length) : ¬ ∀ q, 0 < q → q < 2 ^ (n + m) → Tried p m q := by
  intro h
  have h1 : 1 ≤ m := by have := (p.may_of hmay).2.2.1.1; omega
  have h4 : m ≤ 4 := by have := (p.may_of hmay).2.2.1.2; omega
  have hn4 := (p.may_of hmay).1
  rcases goes_or_refuses p m n hmay hm hn with ⟨g, hg⟩ | ⟨at', c, y, D, hR⟩
  · obtain ⟨q, q1, q2, q3⟩ := sets_come g m n h1 h4 (by omega) (by omega) hg.right
    have ht := h q q1 q2
    unfold Tried at ht
    rw [q3] at ht
    obtain ⟨e1, e2⟩ := (good_of p g m n hmay hm hn).2 hg
    have := (ht e1).1
    rw [e2] at this
    exact absurd this (by decide)
  · obtain ⟨q, q1, q2, q3⟩ := sets_come at' m n h1 h4 (by omega) (by omega) hR.right
    have ht := h q q1 q2
    unfold Tried at ht
    rw [q3] at ht
    obtain ⟨e0, _, _, _, _, gx, gg, gx0, _, hx, _⟩ := look_parts p at' m n hmay hm hn hR.right hR.den
    obtain ⟨k, hk, hkc⟩ := (inB_true at' m c).1 hR.col
    have hneg : (look p at').x[atF at' k]?.getD 0 < 0 := by
      rw [hkc]
      have hb := hR.below
      rw [hx c] at hb
      refine Int.not_le.1 fun h0 => ?_
      have := Int.mul_nonneg (Int.le_of_lt gx0) h0
      omega
    have := (ht e0).2 k hk hneg
    rw [hkc, refuses_holds p at' m n c y D hmay hm hn hR] at this
    exact absurd this (by decide)

/-- What a corner that is handed on tells. -/
theorem ok_right (p : Lp) (at' : List Int) (m n : Nat) (hm : m = p.rows.length) (hn : n = p.costs.length) (h : (look p at').err = 0) : rightB at' m (n + m) = true ∧ denL p at' m ≠ 0 := by
  unfold look at h
  split at h
  · simp [noLook] at h
  · split at h
    · simp [noLook] at h
    · split at h
      · simp [noLook] at h
      · rename_i h2 h3
        rw [← hm, ← hn] at h2
        rw [← hm] at h3
        exact ⟨by simpa using h2, h3⟩

end Num
end Go.Proofs.YtipcbhodlgoflabGreat
