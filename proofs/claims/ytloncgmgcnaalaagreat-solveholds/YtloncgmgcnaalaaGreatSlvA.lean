/- How a walk ends, in plain numbers: prices at a corner whose gains are none, or a way that rises without end. -/
import Derived.Test.YtloncgmgcnaalaaGreatIndA
import Derived.Test.YtloncgmgcnaalaaGreatPrfP
namespace Go.Proofs.YtloncgmgcnaalaaGreat
namespace Num

/-- What Next tells at a corner that goes. -/
theorem next_kind (p : Lp) (at' : List Int) (m n : Nat) (hmay : p.may = true) (hm : m = p.rows.length) (hn : n = p.costs.length) (hg : Good p at' m n) :
    (nextN p at' = ([], 1, 0) ∧ ∀ j : Nat, j < n + m → sgD p at' m * (gainL p at' m (n + m))[j]?.getD 0 ≤ 0) ∨
    (nextN p at' = ([], 2, 0) ∧ ∃ s, s < n + m ∧ inB at' m s = false ∧ 0 < sgD p at' m * (gainL p at' m (n + m))[s]?.getD 0 ∧ ∀ k, k < m → sgD p at' m * (wayL p at' m s)[k]?.getD 0 ≤ 0) ∨
    ∃ nx, nextN p at' = (nx, 0, 0) ∧ Good p nx m n := by
  rcases next_cases p at' m n hmay hm hn with ⟨e, he, h1, h2⟩ | ⟨_, ⟨k, hk, hk2, h1⟩ | ⟨nx, s, k, h1, _, h3, _⟩⟩
  · exact absurd hg h2
  · obtain ⟨e1, e2⟩ := (good_of p at' m n hmay hm hn).2 hg
    obtain ⟨l1, l2, l3, l4, _⟩ := first_len p at' m n hmay hm hn hg
    obtain ⟨_, _, _, _, _, gx, gg, gx0, gg0, hx, _, hgn⟩ := look_parts p at' m n hmay hm hn hg.right hg.den
    rw [h1]
    unfold nextN at h1
    rw [if_neg (by omega), if_neg (by rw [e2]; decide), l1, l2] at h1
    rcases first_ok (look p at').g (n + m) with ⟨f1, f2⟩ | ⟨s, f1, f2, f3, f4⟩
    · rw [f1, if_pos (by omega)] at h1
      simp only [Prod.mk.injEq, true_and, and_true] at h1
      refine Or.inl ⟨by rw [h1], fun j hj => ?_⟩
      rw [hgn j]
      exact Int.mul_nonpos_of_nonneg_of_nonpos (Int.le_of_lt gg0) (f2 j hj)
    · rw [f2, if_neg (by omega), Int.toNat_natCast] at h1
      have hsb := in_new p at' m n hmay hm hn hg s f3
      obtain ⟨_, _, _, gv, gv0, hv⟩ := ask_parts p at' m n s hmay hm hn hg
      rcases out_ok at' (look p at').x (look (askP p s) at').x m with ⟨o1, o2⟩ | ⟨o, o1, o2, o3, o4⟩
      · rw [o1, if_pos (by omega)] at h1
        simp only [Prod.mk.injEq, true_and, and_true] at h1
        refine Or.inr (Or.inl ⟨by rw [h1], s, f1, hsb, ?_, fun k hk => ?_⟩)
        · rw [hgn s]; exact (pos_mul_iff _ _ gg0).2 f3
        · rw [hv k hk]; exact Int.mul_nonpos_of_nonneg_of_nonpos (Int.le_of_lt gv0) (o2 k hk)
      · rw [o2, if_neg (by omega)] at h1
        simp only [Prod.mk.injEq] at h1
        omega
  · exact Or.inr (Or.inr ⟨nx, h1, h3⟩)

/-- From a corner that goes a walk goes on, and ends. -/
theorem walk_ex (p : Lp) (at' : List Int) (m n : Nat) (hmay : p.may = true) (hm : m = p.rows.length) (hn : n = p.costs.length) (hg : Good p at' m n) : ∃ l k, IsWalk p at' l k := by
  have key : ∀ d (l : List (List Int)) (now : List Int), Path p at' l now → Good p now m n → 4096 ≤ l.length + d → ∃ l k, IsWalk p at' l k := by
    intro d
    induction d with
    | zero =>
      intro l now h _ hl
      have := path_short m n hmay hm hn h
      omega
    | succ d ih =>
      intro l now h hgn hl
      rcases next_kind p now m n hmay hm hn hgn with ⟨h1, _⟩ | ⟨h1, _⟩ | ⟨nx, h1, h2⟩
      · exact ⟨_, _, h.ends h1 (by omega)⟩
      · exact ⟨_, _, h.ends h1 (by omega)⟩
      · exact ih _ _ (h.push h1) h2 (by simp; omega)
  exact key 4096 [] at' (Path.start p at') hg (by simp)

/-- A corner without gains. -/
structure Top (p : Lp) (at' : List Int) (m n : Nat) : Prop extends Good p at' m n where
  gain : ∀ j : Nat, j < n + m → sgD p at' m * (gainL p at' m (n + m))[j]?.getD 0 ≤ 0

/-- A way that rises without end. -/
structure Ray (p : Lp) (m n : Nat) (r : Nat → Int) : Prop where
  up : ∀ j, j < n + m → 0 ≤ r j
  level : ∀ i, i < m → sumN (fun j => hasF p j i * r j) (n + m) = 0
  rise : 0 < sumN (fun j => p.costs[j]?.getD 0 * r j) (n + m)

theorem gain_eq (p : Lp) (at' : List Int) (m N j : Nat) (hm : m = p.rows.length) (hj : j < N) : (gainL p at' m N)[j]?.getD 0 = p.costs[j]?.getD 0 * denL p at' m - sumN (fun i => hasF p j i * (priceL p at' m)[i]?.getD 0) m := by
  unfold gainL
  rw [range_getD, if_pos hj]
  unfold gainF
  rw [← hm, dotN_sum]
  congr 1
  exact sumN_congr _ _ _ fun i hi => by rw [range_getD, if_pos hi]

theorem dir_rise (p : Lp) (at' : List Int) (m n s : Nat) (hmay : p.may = true) (hm : m = p.rows.length) (hr : rightB at' m (n + m) = true) (hd : denL p at' m ≠ 0) (hs : s < n + m) (hsb : inB at' m s = false) :
    sumN (fun j => p.costs[j]?.getD 0 * dirF p at' m (n + m) s j) (n + m) = (gainL p at' m (n + m))[s]?.getD 0 := by
  have h1 : 1 ≤ m := by have := (p.may_of hmay).2.2.1.1; omega
  have h4 : m ≤ 4 := by have := (p.may_of hmay).2.2.1.2; omega
  have e0 : sumN (fun j => (gainL p at' m (n + m))[j]?.getD 0 * dirF p at' m (n + m) s j) (n + m) = (gainL p at' m (n + m))[s]?.getD 0 * denL p at' m := by
    rw [sumN_only _ s _ hs]
    · show _ * dirF p at' m (n + m) s s = _
      unfold dirF
      rw [if_pos rfl]
    · intro j _ hjs
      show _ * dirF p at' m (n + m) s j = 0
      cases hb : inB at' m j with
      | false => rw [dir_not p at' m (n + m) s j hb hjs]; omega
      | true =>
        obtain ⟨i, hi, rfl⟩ := (inB_true at' m j).1 hb
        rw [comes_gain p at' m n hmay hm hr i hi]; omega
  have e1 : sumN (fun j => (gainL p at' m (n + m))[j]?.getD 0 * dirF p at' m (n + m) s j) (n + m) = sumN (fun j => denL p at' m * (p.costs[j]?.getD 0 * dirF p at' m (n + m) s j) + (-1) * sumN (fun i => hasF p j i * (priceL p at' m)[i]?.getD 0 * dirF p at' m (n + m) s j) m) (n + m) := by
    refine sumN_congr _ _ _ fun j hj => ?_
    rw [gain_eq p at' m (n + m) j hm hj]
    have : sumN (fun i => hasF p j i * (priceL p at' m)[i]?.getD 0 * dirF p at' m (n + m) s j) m = dirF p at' m (n + m) s j * sumN (fun i => hasF p j i * (priceL p at' m)[i]?.getD 0) m := by
      rw [← sumN_mul]; exact sumN_congr _ _ _ fun i _ => by grind
    rw [this]; grind
  have e2 : sumN (fun j => sumN (fun i => hasF p j i * (priceL p at' m)[i]?.getD 0 * dirF p at' m (n + m) s j) m) (n + m) = 0 := by
    rw [sumN_swap]
    refine (sumN_congr _ (fun _ => 0) _ fun i hi => ?_).trans (sumN_zero m)
    have : sumN (fun j => hasF p j i * (priceL p at' m)[i]?.getD 0 * dirF p at' m (n + m) s j) (n + m) = (priceL p at' m)[i]?.getD 0 * sumN (fun j => hasF p j i * dirF p at' m (n + m) s j) (n + m) := by
      rw [← sumN_mul]; exact sumN_congr _ _ _ fun j _ => by grind
    rw [this, dir_level p at' m (n + m) s hr h1 h4 hs hsb i hi]; omega
  rw [e1, sumN_add, sumN_mul, sumN_mul, e2] at e0
  have e3 : denL p at' m * sumN (fun j => p.costs[j]?.getD 0 * dirF p at' m (n + m) s j) (n + m) = denL p at' m * (gainL p at' m (n + m))[s]?.getD 0 := by rw [Int.mul_comm (denL p at' m) ((gainL p at' m (n + m))[s]?.getD 0)]; omega
  exact Int.eq_of_mul_eq_mul_left hd e3

theorem dir_ray (p : Lp) (at' : List Int) (m n s : Nat) (hmay : p.may = true) (hm : m = p.rows.length) (hg : Good p at' m n) (hs : s < n + m) (hsb : inB at' m s = false) (h0 : 0 < sgD p at' m * (gainL p at' m (n + m))[s]?.getD 0) (hw : ∀ k, k < m → sgD p at' m * (wayL p at' m s)[k]?.getD 0 ≤ 0) :
    Ray p m n (fun j => sgD p at' m * dirF p at' m (n + m) s j) := by
  have h1 : 1 ≤ m := by have := (p.may_of hmay).2.2.1.1; omega
  have h4 : m ≤ 4 := by have := (p.may_of hmay).2.2.1.2; omega
  refine ⟨fun j hj => ?_, fun i hi => ?_, ?_⟩
  · show 0 ≤ sgD p at' m * dirF p at' m (n + m) s j
    by_cases hjs : j = s
    · subst hjs
      unfold dirF
      rw [if_pos rfl]
      exact Int.le_of_lt (sgD_pos p at' m hg.den)
    · cases hb : inB at' m j with
      | false => rw [dir_not p at' m (n + m) s j hb hjs]; omega
      | true =>
        obtain ⟨k, hk, rfl⟩ := (inB_true at' m j).1 hb
        rw [dir_in p at' m (n + m) s k hg.right hk hsb, Int.mul_neg]
        have := hw k hk
        omega
  · have e : sumN (fun j => hasF p j i * (sgD p at' m * dirF p at' m (n + m) s j)) (n + m) = sgD p at' m * sumN (fun j => hasF p j i * dirF p at' m (n + m) s j) (n + m) := by
      rw [← sumN_mul]; exact sumN_congr _ _ _ fun j _ => by grind
    show sumN (fun j => hasF p j i * (sgD p at' m * dirF p at' m (n + m) s j)) (n + m) = 0
    rw [e, dir_level p at' m (n + m) s hg.right h1 h4 hs hsb i hi]; omega
  · have e : sumN (fun j => p.costs[j]?.getD 0 * (sgD p at' m * dirF p at' m (n + m) s j)) (n + m) = sgD p at' m * sumN (fun j => p.costs[j]?.getD 0 * dirF p at' m (n + m) s j) (n + m) := by
      rw [← sumN_mul]; exact sumN_congr _ _ _ fun j _ => by grind
    show 0 < sumN (fun j => p.costs[j]?.getD 0 * (sgD p at' m * dirF p at' m (n + m) s j)) (n + m)
    rw [e, dir_rise p at' m n s hmay hm hg.right hg.den hs hsb]
    exact h0

theorem sgD_bd (p : Lp) (at' : List Int) (m : Nat) (x : Int) (h : -497664 ≤ x ∧ x ≤ 497664) : -497664 ≤ sgD p at' m * x ∧ sgD p at' m * x ≤ 497664 := by unfold sgD; split <;> omega

theorem dir_bd (p : Lp) (at' : List Int) (m n s : Nat) (hmay : p.may = true) (hm : m = p.rows.length) (hr : rightB at' m (n + m) = true) (hsb : inB at' m s = false) (j : Nat) : -497664 ≤ dirF p at' m (n + m) s j ∧ dirF p at' m (n + m) s j ≤ 497664 := by
  have h1 : 1 ≤ m := by have := (p.may_of hmay).2.2.1.1; omega
  have h4 : m ≤ 4 := by have := (p.may_of hmay).2.2.1.2; omega
  by_cases hjs : j = s
  · subst hjs
    unfold dirF
    rw [if_pos rfl]
    exact den_bd12 p at' m hmay h1 h4
  · cases hb : inB at' m j with
    | false => rw [dir_not p at' m (n + m) s j hb hjs]; omega
    | true =>
      obtain ⟨k, hk, rfl⟩ := (inB_true at' m j).1 hb
      rw [dir_in p at' m (n + m) s k hr hk hsb]
      have := shares_bd12 m (chosenL p at' m) (colF p m s) (chosen_sq p at' m) (by simp [colF]) h1 h4 (chosen_bd12 p at' m hmay) (hasF_bdx p hmay m s) k
      unfold wayL
      omega

/-- Where a corner goes, one without gains is found, or a way that rises without end. -/
theorem top_or_ray (p : Lp) (at' : List Int) (m n : Nat) (hmay : p.may = true) (hm : m = p.rows.length) (hn : n = p.costs.length) (hg : Good p at' m n) : (∃ t, Top p t m n) ∨ ∃ r, Ray p m n r ∧ ∀ j : Nat, r j ≤ 497664 := by
  obtain ⟨l, k, hw⟩ := walk_ex p at' m n hmay hm hn hg
  have hgs := (isWalk_good hmay hw).1
  obtain ⟨K, a1, a2, a3, a4, a5⟩ := hw
  have hgK := hgs K (by omega)
  rw [← hm, ← hn] at hgK
  rcases next_kind p _ m n hmay hm hn hgK with ⟨_, h2⟩ | ⟨_, s, s1, s2, s3, s4⟩ | ⟨nx, h1, _⟩
  · exact Or.inl ⟨_, hgK, h2⟩
  · exact Or.inr ⟨_, dir_ray p _ m n s hmay hm hgK s1 s2 s3 s4, fun j => (sgD_bd p _ m _ (dir_bd p _ m n s hmay hm hgK.right s2 j)).2⟩
  · rw [a4] at h1
    simp only [Prod.mk.injEq] at h1
    exact absurd h1.2.1 a5

/-- The prices at a corner without gains. -/
theorem top_prices (p : Lp) (at' : List Int) (m n : Nat) (hm : m = p.rows.length) (hn : n = p.costs.length) (h : Top p at' m n) :
    (∀ i, i < m → 0 ≤ sgD p at' m * (priceL p at' m)[i]?.getD 0) ∧ ∀ j, j < n + m → p.costs[j]?.getD 0 * (sgD p at' m * denL p at' m) ≤ sumN (fun i => hasF p j i * (sgD p at' m * (priceL p at' m)[i]?.getD 0)) m := by
  have key : ∀ j, j < n + m → p.costs[j]?.getD 0 * (sgD p at' m * denL p at' m) ≤ sumN (fun i => hasF p j i * (sgD p at' m * (priceL p at' m)[i]?.getD 0)) m := by
    intro j hj
    have := h.gain j hj
    rw [gain_eq p at' m (n + m) j hm hj, Int.mul_sub, ← sumN_mul] at this
    have e : sumN (fun i => sgD p at' m * (hasF p j i * (priceL p at' m)[i]?.getD 0)) m = sumN (fun i => hasF p j i * (sgD p at' m * (priceL p at' m)[i]?.getD 0)) m := sumN_congr _ _ _ fun i _ => by grind
    rw [e] at this
    have e2 : sgD p at' m * (p.costs[j]?.getD 0 * denL p at' m) = p.costs[j]?.getD 0 * (sgD p at' m * denL p at' m) := by grind
    omega
  refine ⟨fun i hi => ?_, key⟩
  have := key (n + i) (by omega)
  rw [List.getElem?_eq_none (by omega)] at this
  rw [sumN_only _ i m hi (fun q _ hq => by show hasF p (n + i) q * _ = 0; rw [has_slack p n i q hn, if_neg hq]; omega)] at this
  rw [has_slack p n i i hn, if_pos rfl] at this
  simpa using this

end Num
end Go.Proofs.YtloncgmgcnaalaaGreat

/- Which kind of answer a program has, by all its corners: what an answer that holds is of that kind; in plain numbers. -/
namespace Go.Proofs.YtloncgmgcnaalaaGreat
namespace Num

theorem pairs (h : Nat → Nat → Int) (y r : Nat → Int) (m N : Nat) : sumN (fun j => sumN (fun i => h j i * y i) m * r j) N = sumN (fun i => y i * sumN (fun j => h j i * r j) N) m := by
  have e1 : sumN (fun j => sumN (fun i => h j i * y i) m * r j) N = sumN (fun j => sumN (fun i => r j * (h j i * y i)) m) N := sumN_congr _ _ _ fun j _ => by rw [sumN_mul, Int.mul_comm]
  have e2 : sumN (fun i => y i * sumN (fun j => h j i * r j) N) m = sumN (fun i => sumN (fun j => r j * (h j i * y i)) N) m := sumN_congr _ _ _ fun i _ => by
    rw [← sumN_mul]; exact sumN_congr _ _ _ fun j _ => by grind
  rw [e1, e2, sumN_swap]

theorem has_row (p : Lp) (n j i : Nat) (hn : n = p.costs.length) (hj : j < n) : hasF p j i = (p.rows[i]?.getD ([], 0)).1[j]?.getD 0 := by
  unfold hasF
  rw [if_pos (by omega)]

theorem slack_sum (p : Lp) (m n i : Nat) (hn : n = p.costs.length) (hi : i < m) (z : Nat → Int) : sumN (fun j => hasF p j i * z j) (n + m) = sumN (fun j => (p.rows[i]?.getD ([], 0)).1[j]?.getD 0 * z j) n + z (n + i) := by
  rw [sumN_split]
  congr 1
  · exact sumN_congr _ _ _ fun j hj => by rw [has_row p n j i hn hj]
  · rw [sumN_only _ i m hi (fun q _ hq => by show hasF p (n + q) i * _ = 0; rw [has_slack p n q i hn, if_neg (by omega)]; omega)]
    show hasF p (n + i) i * _ = _
    rw [has_slack p n i i hn, if_pos rfl]; omega

theorem slack_price (p : Lp) (m n q : Nat) (hn : n = p.costs.length) (hq : q < m) (y : Nat → Int) : sumN (fun i => hasF p (n + q) i * y i) m = y q := by
  rw [sumN_only _ q m hq (fun i _ hi => by show hasF p (n + q) i * _ = 0; rw [has_slack p n q i hn, if_neg hi]; omega)]
  show hasF p (n + q) q * _ = _
  rw [has_slack p n q q hn, if_pos rfl]; omega

/-- A list told on, past its end: by what the rows leave. -/
def overF (n : Nat) (x : List Int) (f : Nat → Int) (j : Nat) : Int := if j < n then x[j]?.getD 0 else f (j - n)

theorem over_in (n : Nat) (x : List Int) (f : Nat → Int) (j : Nat) (hj : j < n) : overF n x f j = x[j]?.getD 0 := by unfold overF; rw [if_pos hj]
theorem over_out (n : Nat) (x : List Int) (f : Nat → Int) (i : Nat) : overF n x f (n + i) = f i := by unfold overF; rw [if_neg (by omega), Nat.add_sub_cancel_left]

theorem over_row (p : Lp) (m n i : Nat) (hn : n = p.costs.length) (hi : i < m) (x : List Int) (f : Nat → Int) : sumN (fun j => hasF p j i * overF n x f j) (n + m) = dotN (p.rows[i]?.getD ([], 0)).1 x n + f i := by
  rw [slack_sum p m n i hn hi, over_out, dotN_sum]
  congr 1
  exact sumN_congr _ _ _ fun j hj => by rw [over_in n x f j hj]

/-- Where a point goes, a corner goes. -/
theorem goes_good (p : Lp) (m n : Nat) (hmay : p.may = true) (hm : m = p.rows.length) (hn : n = p.costs.length) (x : List Int) (xd : Int) (h : p.goes x xd = true) : ∃ at', Good p at' m n := by
  obtain ⟨_, _, hd, _, hx, _⟩ := goes_len p x xd h
  refine goes_corner p m n hmay hm hn (n + m) (overF n x fun i => mostF p i * xd - dotN (p.rows[i]?.getD ([], 0)).1 x n) xd (by omega) (fun j hj => ?_) (fun i hi => ?_) ?_
  · by_cases hjn : j < n
    · rw [over_in _ _ _ _ hjn]; exact not_neg x hx j
    · obtain ⟨i, rfl⟩ : ∃ i, j = n + i := ⟨j - n, by omega⟩
      rw [over_out]
      have := goes_rows p x xd h i (by omega)
      rw [← hn] at this
      unfold mostF
      omega
  · rw [over_row p m n i hn hi]; grind
  · unfold suppL
    refine Nat.le_trans (List.length_filter_le _ _) (by simp)

/-- What covers the costs leaves no way that rises without end. -/
theorem ray_no (p : Lp) (m n : Nat) (r : Nat → Int) (h : Ray p m n r) (y : Nat → Int) (D : Int) (hD : 0 < D) (hc : ∀ j, j < n + m → p.costs[j]?.getD 0 * D ≤ sumN (fun i => hasF p j i * y i) m) : False := by
  have e1 := pairs (hasF p) y r m (n + m)
  have e2 : sumN (fun i => y i * sumN (fun j => hasF p j i * r j) (n + m)) m = 0 := (sumN_congr _ (fun _ => 0) _ fun i hi => by rw [h.level i hi]; omega).trans (sumN_zero m)
  have e3 : sumN (fun j => D * (p.costs[j]?.getD 0 * r j)) (n + m) ≤ sumN (fun j => sumN (fun i => hasF p j i * y i) m * r j) (n + m) := sumN_le _ _ _ fun j hj => by
    have := Int.mul_le_mul_of_nonneg_right (hc j hj) (h.up j hj)
    have e : D * (p.costs[j]?.getD 0 * r j) = p.costs[j]?.getD 0 * D * r j := by grind
    rw [e]; exact this
  rw [sumN_mul, e1, e2] at e3
  have := Int.mul_pos hD h.rise
  omega

theorem cov_of (p : Lp) (m n : Nat) (hn : n = p.costs.length) (y : List Int) (yd : Int) (c : List Int) (hc : c.length = n) (h : coversB p m y yd c = true) : ∀ j, j < n + m → c[j]?.getD 0 * yd ≤ sumN (fun i => hasF p j i * y[i]?.getD 0) m := by
  obtain ⟨k1, k2⟩ := covers_of _ _ _ _ _ h
  obtain ⟨_, _, _, hy, _⟩ := point_of _ _ _ k1
  intro j hj
  by_cases hjn : j < n
  · have := k2 j (by omega)
    rw [dotN_sum] at this
    have e : sumN (fun i => (colL p m j)[i]?.getD 0 * y[i]?.getD 0) m = sumN (fun i => hasF p j i * y[i]?.getD 0) m := sumN_congr _ _ _ fun i hi => by unfold colL; rw [range_getD, if_pos hi]
    rw [e] at this
    exact this
  · obtain ⟨q, rfl⟩ : ∃ q, j = n + q := ⟨j - n, by omega⟩
    rw [slack_price p m n q hn (by omega), List.getElem?_eq_none (by omega)]
    have := not_neg y hy q
    simp; omega

/-- The kind of answer a program has, by all its corners. -/
def KindIs (p : Lp) (m n : Nat) (k : Int) : Prop := (k = 1 ∧ ∃ t, Top p t m n) ∨ (k = 2 ∧ (¬ ∃ t, Top p t m n) ∧ ∃ g, Good p g m n) ∨ (k = 3 ∧ ¬ ∃ g, Good p g m n)

theorem endless_ray (p : Lp) (m n : Nat) (hm : m = p.rows.length) (hn : n = p.costs.length) (a : Ans) (h : endlessB p a = true) : Ray p m n (overF n a.r fun i => -dotN (p.rows[i]?.getD ([], 0)).1 a.r n) := by
  obtain ⟨_, _, _, _, hr, _, _, _, hl, h0⟩ := endless_parts2 p a h
  refine ⟨fun j hj => ?_, fun i hi => ?_, ?_⟩
  · by_cases hjn : j < n
    · rw [over_in _ _ _ _ hjn]; exact hr j
    · obtain ⟨i, rfl⟩ : ∃ i, j = n + i := ⟨j - n, by omega⟩
      rw [over_out]
      have := hl i (by omega)
      rw [← hn] at this
      omega
  · rw [over_row p m n i hn hi]; omega
  · rw [sumN_split]
    have e1 : sumN (fun j => p.costs[j]?.getD 0 * overF n a.r (fun i => -dotN (p.rows[i]?.getD ([], 0)).1 a.r n) j) n = dotN p.costs a.r n := by
      rw [dotN_sum]; exact sumN_congr _ _ _ fun j hj => by rw [over_in _ _ _ _ hj]
    have e2 : sumN (fun i => p.costs[n + i]?.getD 0 * overF n a.r (fun i => -dotN (p.rows[i]?.getD ([], 0)).1 a.r n) (n + i)) m = 0 := (sumN_congr _ (fun _ => 0) _ fun i hi => by rw [List.getElem?_eq_none (by omega)]; simp).trans (sumN_zero m)
    rw [← hn] at h0
    omega

/-- An answer that holds is of the kind that all corners tell. -/
theorem holds_kind (p : Lp) (a : Ans) (m n : Nat) (hm : m = p.rows.length) (hn : n = p.costs.length) (h : holds p a = true) : KindIs p m n a.kind := by
  cases hmay : p.may with
  | false => rw [holds_no p a hmay] at h; exact absurd h (by decide)
  | true =>
  by_cases k1 : a.kind = 1
  · rw [holds_best p a hmay k1] at h
    simp only [Bool.and_eq_true] at h
    have hb := h.2
    unfold bestB at hb
    simp only [Bool.and_eq_true] at hb
    obtain ⟨⟨⟨b1, b2⟩, _⟩, _⟩ := hb
    obtain ⟨g, hg⟩ := goes_good p m n hmay hm hn _ _ b1
    rw [← hm] at b2
    rcases top_or_ray p g m n hmay hm hn hg with ht | ⟨r, hr, _⟩
    · exact Or.inl ⟨k1, ht⟩
    · obtain ⟨c1, _⟩ := covers_of _ _ _ _ _ b2
      obtain ⟨_, hyd, _⟩ := point_of _ _ _ c1
      exact (ray_no p m n r hr _ a.yd (by omega) (cov_of p m n hn _ _ _ hn.symm b2)).elim
  · by_cases k2 : a.kind = 2
    · rw [holds_endless p a hmay k2] at h
      simp only [Bool.and_eq_true] at h
      have hr := endless_ray p m n hm hn a h.2
      have hb := h.2
      unfold endlessB at hb
      simp only [Bool.and_eq_true] at hb
      refine Or.inr (Or.inl ⟨k2, ?_, goes_good p m n hmay hm hn _ _ hb.1.1.1.1⟩)
      rintro ⟨t, ht⟩
      exact ray_no p m n _ hr _ _ (sgD_pos p t m ht.den) (top_prices p t m n hm hn ht).2
    · by_cases k3 : a.kind = 3
      · rw [holds_nothing p a hmay k3] at h
        simp only [Bool.and_eq_true] at h
        have hb := h.2
        unfold nothingB at hb
        simp only [Bool.and_eq_true, decide_eq_true_eq] at hb
        obtain ⟨⟨_, b2⟩, b3⟩ := hb
        rw [← hm, ← hn] at b2
        rw [← hm] at b3
        refine Or.inr (Or.inr ⟨k3, ?_⟩)
        rintro ⟨g, hg⟩
        have h1 : 1 ≤ m := by have := (p.may_of hmay).2.2.1.1; omega
        have h4 : m ≤ 4 := by have := (p.may_of hmay).2.2.1.2; omega
        have hc := cov_of p m n hn _ _ _ (by simp) b2
        have e1 := pairs (hasF p) (fun i => a.y[i]?.getD 0) (fun j => sgD p g m * (xL p g m (n + m))[j]?.getD 0) m (n + m)
        have e2 : 0 ≤ sumN (fun j => sumN (fun i => hasF p j i * a.y[i]?.getD 0) m * (sgD p g m * (xL p g m (n + m))[j]?.getD 0)) (n + m) := by
          refine Int.le_trans (Int.le_of_eq (sumN_zero (n + m)).symm) (sumN_le _ _ _ fun j hj => Int.mul_nonneg ?_ (hg.x j))
          have := hc j hj
          have e0 : (List.replicate n (0 : Int))[j]?.getD 0 = 0 := by
            rw [List.getElem?_replicate]; split <;> rfl
          rw [e0] at this
          omega
        have e3 : sumN (fun i => a.y[i]?.getD 0 * sumN (fun j => hasF p j i * (sgD p g m * (xL p g m (n + m))[j]?.getD 0)) (n + m)) m = (sgD p g m * denL p g m) * pricedN p m a.y := by
          unfold pricedN
          rw [dotN_sum, ← sumN_mul]
          refine sumN_congr _ _ _ fun i hi => ?_
          have e : sumN (fun j => hasF p j i * (sgD p g m * (xL p g m (n + m))[j]?.getD 0)) (n + m) = sgD p g m * sumN (fun j => hasF p j i * (xL p g m (n + m))[j]?.getD 0) (n + m) := by
            rw [← sumN_mul]; exact sumN_congr _ _ _ fun j _ => by grind
          rw [e, x_level p g m (n + m) hg.right h1 h4 i hi]
          unfold mostsL
          rw [range_getD, if_pos hi]
          grind
        rw [e1, e3] at e2
        have := Int.mul_neg_of_pos_of_neg (sgD_pos p g m hg.den) b3
        omega
      · rw [holds_none p a k1 k2 k3] at h; exact absurd h (by decide)

/-- There is one kind only. -/
theorem kind_one (p : Lp) (m n : Nat) (k l : Int) (h1 : KindIs p m n k) (h2 : KindIs p m n l) : k = l := by
  rcases h1 with ⟨a, ha⟩ | ⟨a, ha, hb⟩ | ⟨a, ha⟩ <;> rcases h2 with ⟨b, hc⟩ | ⟨b, hc, hd⟩ | ⟨b, hc⟩
  · omega
  · exact absurd ha hc
  · obtain ⟨t, ht⟩ := ha; exact absurd ⟨t, ht.toGood⟩ hc
  · exact absurd hc ha
  · omega
  · exact absurd hb hc
  · obtain ⟨t, ht⟩ := hc; exact absurd ⟨t, ht.toGood⟩ ha
  · exact absurd hd ha
  · omega

end Num
end Go.Proofs.YtloncgmgcnaalaaGreat

/- Where no corner goes, the rows tell it: in plain numbers, by the program that asks for the prices. -/
namespace Go.Proofs.YtloncgmgcnaalaaGreat
namespace Num

/-- The program that asks for prices at which nothing costs less than 0, and all is had for less than 0. -/
def dualP (p : Lp) : Lp := ⟨(List.range p.rows.length).map fun i => -mostF p i, (List.range p.costs.length).map fun j => ((List.range p.rows.length).map fun i => -hasF p j i, 0)⟩

theorem dual_costs (p : Lp) : (dualP p).costs.length = p.rows.length := by simp [dualP]
theorem dual_rows (p : Lp) : (dualP p).rows.length = p.costs.length := by simp [dualP]

theorem dual_row (p : Lp) (j : Nat) (hj : j < p.costs.length) : (dualP p).rows[j]?.getD ([], 0) = ((List.range p.rows.length).map fun i => -hasF p j i, 0) := by
  unfold dualP
  dsimp only
  rw [List.getElem?_map, List.getElem?_range hj]
  rfl

theorem most_bd (p : Lp) (hmay : p.may = true) (i : Nat) : -12 ≤ mostF p i ∧ mostF p i ≤ 12 := by
  unfold mostF
  by_cases hi : i < p.rows.length
  · exact (p.row_of hmay i hi).2.2
  · rw [List.getElem?_eq_none (l := p.rows) (by omega)]; simp

theorem dual_may (p : Lp) (hmay : p.may = true) : (dualP p).may = true := by
  obtain ⟨h1, h2, h3, h4⟩ := p.may_of hmay
  unfold Lp.may
  rw [dual_costs, dual_rows]
  simp only [Bool.and_eq_true, decide_eq_true_eq]
  refine ⟨⟨⟨⟨⟨h3.1, h3.2⟩, ?_⟩, h1.1⟩, h1.2⟩, ?_⟩
  · unfold withinB dualP
    rw [List.all_eq_true]
    intro x hx
    obtain ⟨i, _, rfl⟩ := List.mem_map.1 hx
    have := most_bd p hmay i
    simp only [Bool.and_eq_true, decide_eq_true_eq]
    omega
  · rw [List.all_eq_true]
    intro r hr
    unfold dualP at hr
    dsimp only at hr
    obtain ⟨j, hj, rfl⟩ := List.mem_map.1 hr
    unfold rowB
    have hw : withinB 12 ((List.range p.rows.length).map fun i => -hasF p j i) = true := by
      unfold withinB
      rw [List.all_eq_true]
      intro x hx
      obtain ⟨i, _, rfl⟩ := List.mem_map.1 hx
      have := hasF_bd p hmay j i
      simp only [Bool.and_eq_true, decide_eq_true_eq]
      omega
    simp [hw, withinB_one]

theorem dual_has (p : Lp) (i j : Nat) (hi : i < p.rows.length) (hj : j < p.costs.length) : hasF (dualP p) i j = -hasF p j i := by
  rw [has_row (dualP p) p.rows.length i j (dual_costs p).symm hi, dual_row p j hj, range_getD, if_pos hi]

theorem dual_most (p : Lp) (j : Nat) (hj : j < p.costs.length) : mostF (dualP p) j = 0 := by
  unfold mostF; rw [dual_row p j hj]

theorem dual_cost (p : Lp) (i : Nat) (hi : i < p.rows.length) : (dualP p).costs[i]?.getD 0 = -mostF p i := by
  unfold dualP
  dsimp only
  rw [range_getD, if_pos hi]

/-- A corner goes, or the rows tell that nothing does. -/
theorem goes_or_not (p : Lp) (m n : Nat) (hmay : p.may = true) (hm : m = p.rows.length) (hn : n = p.costs.length) :
    (∃ g, Good p g m n) ∨ ∃ y : Nat → Int, (∀ i, i < m → 0 ≤ y i) ∧ (∀ i, y i ≤ 497664) ∧ (∀ j, j < n → 0 ≤ sumN (fun i => hasF p j i * y i) m) ∧ sumN (fun i => mostF p i * y i) m < 0 := by
  have dm := dual_may p hmay
  have dc : m = (dualP p).costs.length := by rw [dual_costs]; exact hm
  have dr : n = (dualP p).rows.length := by rw [dual_rows]; exact hn
  obtain ⟨g, hg⟩ : ∃ g, Good (dualP p) g n m := goes_corner (dualP p) n m dm dr dc (m + n) (fun _ => 0) 1 (by omega) (fun _ _ => Int.le_refl _) (fun j hj => by
    rw [dual_most p j (by omega)]
    exact (sumN_congr _ (fun _ => 0) _ fun _ _ => by omega).trans (sumN_zero _)) (by unfold suppL; exact Nat.le_trans (List.length_filter_le _ _) (by simp))
  rcases top_or_ray (dualP p) g n m dm dr dc hg with ⟨t, ht⟩ | ⟨r, hr, hb⟩
  · refine Or.inl ?_
    obtain ⟨t1, t2⟩ := top_prices (dualP p) t n m dr dc ht
    have hD := sgD_pos (dualP p) t n ht.den
    generalize sgD (dualP p) t n * denL (dualP p) t n = D at *
    refine goes_corner p m n hmay hm hn (n + m) (fun j => if j < n then sgD (dualP p) t n * (priceL (dualP p) t n)[j]?.getD 0 else mostF p (j - n) * D - sumN (fun q => hasF p q (j - n) * (sgD (dualP p) t n * (priceL (dualP p) t n)[q]?.getD 0)) n) D hD (fun j hj => ?_) (fun i hi => ?_) ?_
    · show 0 ≤ (if j < n then _ else _)
      by_cases hjn : j < n
      · rw [if_pos hjn]; exact t1 j hjn
      · rw [if_neg hjn]
        have := t2 (j - n) (by omega)
        rw [dual_cost p (j - n) (by omega)] at this
        have e : sumN (fun q => hasF (dualP p) (j - n) q * (sgD (dualP p) t n * (priceL (dualP p) t n)[q]?.getD 0)) n = -1 * sumN (fun q => hasF p q (j - n) * (sgD (dualP p) t n * (priceL (dualP p) t n)[q]?.getD 0)) n := by
          rw [← sumN_mul]
          exact sumN_congr _ _ _ fun q hq => by rw [dual_has p (j - n) q (by omega) (by omega)]; grind
        rw [e, Int.neg_mul] at this
        omega
    · rw [slack_sum p m n i hn hi]
      have e : sumN (fun j => (p.rows[i]?.getD ([], 0)).1[j]?.getD 0 * (if j < n then sgD (dualP p) t n * (priceL (dualP p) t n)[j]?.getD 0 else mostF p (j - n) * D - sumN (fun q => hasF p q (j - n) * (sgD (dualP p) t n * (priceL (dualP p) t n)[q]?.getD 0)) n)) n = sumN (fun q => hasF p q i * (sgD (dualP p) t n * (priceL (dualP p) t n)[q]?.getD 0)) n :=
        sumN_congr _ _ _ fun j hj => by rw [if_pos hj, has_row p n j i hn hj]
      rw [e, if_neg (by omega), Nat.add_sub_cancel_left, Int.mul_comm D]
      omega
    · unfold suppL
      exact Nat.le_trans (List.length_filter_le _ _) (by simp)
  · refine Or.inr ⟨r, fun i hi => hr.up i (by omega), hb, fun j hj => ?_, ?_⟩
    · have := hr.level j hj
      rw [sumN_split] at this
      have e1 : sumN (fun i => hasF (dualP p) i j * r i) m = -1 * sumN (fun i => hasF p j i * r i) m := by
        rw [← sumN_mul]
        exact sumN_congr _ _ _ fun i hi => by rw [dual_has p i j (by omega) (by omega)]; grind
      have e2 : sumN (fun q => hasF (dualP p) (m + q) j * r (m + q)) n = r (m + j) := by
        rw [sumN_only _ j n hj (fun q _ hq => by show hasF (dualP p) (m + q) j * _ = 0; rw [has_slack (dualP p) m q j dc, if_neg (by omega)]; omega)]
        show hasF (dualP p) (m + j) j * _ = _
        rw [has_slack (dualP p) m j j dc, if_pos rfl]; omega
      rw [e1, e2] at this
      have := hr.up (m + j) (by omega)
      omega
    · have := hr.rise
      rw [sumN_split] at this
      have e1 : sumN (fun i => (dualP p).costs[i]?.getD 0 * r i) m = -1 * sumN (fun i => mostF p i * r i) m := by
        rw [← sumN_mul]
        exact sumN_congr _ _ _ fun i hi => by rw [dual_cost p i (by omega)]; grind
      have e2 : sumN (fun q => (dualP p).costs[m + q]?.getD 0 * r (m + q)) n = 0 := (sumN_congr _ (fun _ => 0) _ fun i hi => by rw [List.getElem?_eq_none (by omega)]; simp).trans (sumN_zero n)
      rw [e1, e2] at this
      omega

end Num
end Go.Proofs.YtloncgmgcnaalaaGreat

/- Answers that hold, made of a corner, of a way, of how often each row is taken: in plain numbers. -/
namespace Go.Proofs.YtloncgmgcnaalaaGreat
namespace Num

/-- One fraction, one lowest form. -/
theorem mk_same (n1 d1 n2 d2 : Int) (h : n1 * d2 = n2 * d1) (h1 : d1 ≠ 0) (h2 : d2 ≠ 0) (b1 : -4611686018427387904 ≤ d1 ∧ d1 ≤ 4611686018427387904) (b2 : -4611686018427387904 ≤ d2 ∧ d2 ≤ 4611686018427387904) (c1 : -4611686018427387904 ≤ n1 ∧ n1 ≤ 4611686018427387904) (c2 : -4611686018427387904 ≤ n2 ∧ n2 ≤ 4611686018427387904) : mk n1 d1 = mk n2 d2 := by
  rw [mk_in d1 n1 h1 b1 c1, mk_in d2 n2 h2 b2 c2]
  have e1 := fitsB_mul 1073741824 d2 d1 [n1] h2 h1
  have e2 := fitsB_mul 1073741824 d1 d2 [n2] h1 h2
  have g1 := byOf_mul d2 d1 [n1] h2 h1
  have g2 := byOf_mul d1 d2 [n2] h1 h2
  simp only [List.map_cons, List.map_nil] at e1 e2 g1 g2
  have hn : d2 * n1 = d1 * n2 := by rw [Int.mul_comm d2, h, Int.mul_comm]
  have hd : d2 * d1 = d1 * d2 := Int.mul_comm _ _
  rw [hn, hd] at e1 g1
  rw [← e1, ← e2, ← tdiv_mul_tdiv d2 n1 _ h2, ← tdiv_mul_tdiv d2 d1 _ h2, ← g1, ← tdiv_mul_tdiv d1 n2 _ h1, ← tdiv_mul_tdiv d1 d2 _ h1, ← g2, hn, hd]

theorem any_of (x : List Int) (h : ∀ j, j < x.length → 0 ≤ x[j]?.getD 0) : anyNeg x = false := by
  rw [anyNeg_false]
  intro j
  by_cases hj : j < x.length
  · exact h j hj
  · rw [List.getElem?_eq_none (by omega)]; simp

/-- The point of a corner that goes, in whatever terms it is told. -/
theorem good_goes (p : Lp) (at' : List Int) (m n : Nat) (hmay : p.may = true) (hm : m = p.rows.length) (hn : n = p.costs.length) (hg : Good p at' m n) (x : List Int) (xd : Int) (hl : x.length = n) (hx : mayPB xd x = true) (he : ∀ j, j < n → (xL p at' m (n + m))[j]?.getD 0 * xd = x[j]?.getD 0 * denL p at' m) : p.goes x xd = true := by
  have hD := sgD_pos p at' m hg.den
  have hx2 := hx
  unfold mayPB at hx2
  simp only [Bool.and_eq_true] at hx2
  obtain ⟨xd1, _⟩ := mayB_bd _ _ hx2.1
  unfold Lp.goes Lp.fits
  simp only [Bool.and_eq_true, Bool.not_eq_true', beq_iff_eq]
  refine ⟨⟨⟨⟨hmay, by omega⟩, hx⟩, any_of x fun j hj => ?_⟩, ?_⟩
  · have h1 := Int.mul_nonneg (hg.x j) (show 0 ≤ xd by omega)
    rw [Int.mul_assoc, he j (by omega)] at h1
    have h2 : 0 ≤ sgD p at' m * denL p at' m * x[j]?.getD 0 := by
      have : sgD p at' m * denL p at' m * x[j]?.getD 0 = sgD p at' m * (x[j]?.getD 0 * denL p at' m) := by grind
      omega
    exact (nonneg_mul_iff _ _ hD).1 h2
  · rw [List.all_eq_true]
    intro r hr
    obtain ⟨i, hi, rfl⟩ := List.getElem_of_mem hr
    unfold rowGoes
    rw [decide_eq_true_eq, hl]
    have hrow := comes_row p at' m n hmay hm hn hg.right i (by omega)
    rw [List.getElem?_eq_getElem hi, Option.getD_some] at hrow
    have hmost : mostF p i = p.rows[i].2 := by unfold mostF; rw [List.getElem?_eq_getElem hi, Option.getD_some]
    rw [hmost] at hrow
    have e : dotN p.rows[i].1 (xL p at' m (n + m)) n * xd = dotN p.rows[i].1 x n * denL p at' m := by
      rw [dotN_sum, dotN_sum, Int.mul_comm, ← sumN_mul, Int.mul_comm (sumN _ n), ← sumN_mul]
      refine sumN_congr _ _ _ fun j hj => ?_
      have := he j hj
      grind
    have hs := Int.mul_nonneg (hg.x (n + i)) (show 0 ≤ xd by omega)
    generalize dotN p.rows[i].1 x n = A at *
    generalize dotN p.rows[i].1 (xL p at' m (n + m)) n = B at *
    generalize (xL p at' m (n + m))[n + i]?.getD 0 = s at *
    generalize sgD p at' m = σ at *
    generalize denL p at' m = D at *
    have e2 : σ * D * A + σ * s * xd = σ * D * (p.rows[i].2 * xd) := by
      have : σ * ((B + s) * xd) = σ * (p.rows[i].2 * D * xd) := by rw [hrow]
      have a1 : σ * ((B + s) * xd) = σ * (B * xd) + σ * s * xd := by grind
      rw [a1, e] at this
      grind
    exact Int.le_of_mul_le_mul_left (show σ * D * A ≤ σ * D * (p.rows[i].2 * xd) by omega) hD

/-- The prices of a corner without gains, in whatever terms they are told. -/
theorem top_covers (p : Lp) (at' : List Int) (m n : Nat) (hm : m = p.rows.length) (hn : n = p.costs.length) (ht : Top p at' m n) (y : List Int) (yd : Int) (hl : y.length = m) (hy : mayPB yd y = true) (he : ∀ i, i < m → (priceL p at' m)[i]?.getD 0 * yd = y[i]?.getD 0 * denL p at' m) : coversB p m y yd p.costs = true := by
  have hD := sgD_pos p at' m ht.den
  have hy2 := hy
  unfold mayPB at hy2
  simp only [Bool.and_eq_true] at hy2
  obtain ⟨yd1, _⟩ := mayB_bd _ _ hy2.1
  obtain ⟨t1, t2⟩ := top_prices p at' m n hm hn ht
  have key : ∀ i, i < m → sgD p at' m * (priceL p at' m)[i]?.getD 0 * yd = sgD p at' m * denL p at' m * y[i]?.getD 0 := fun i hi => by
    have := he i hi
    grind
  unfold coversB pointB
  simp only [Bool.and_eq_true, Bool.not_eq_true', beq_iff_eq, List.all_eq_true]
  refine ⟨⟨⟨hl, hy⟩, any_of y fun i hi => ?_⟩, fun j hj => ?_⟩
  · have h1 := Int.mul_nonneg (t1 i (by omega)) (show 0 ≤ yd by omega)
    rw [key i (by omega)] at h1
    exact (nonneg_mul_iff _ _ hD).1 h1
  · rw [List.mem_range] at hj
    unfold costB
    rw [decide_eq_true_eq]
    have h1 := Int.mul_le_mul_of_nonneg_right (t2 j (by omega)) (show 0 ≤ yd by omega)
    have e : sumN (fun i => hasF p j i * (sgD p at' m * (priceL p at' m)[i]?.getD 0)) m * yd = sgD p at' m * denL p at' m * dotN (colL p m j) y m := by
      rw [dotN_sum, Int.mul_comm, ← sumN_mul, ← sumN_mul]
      refine sumN_congr _ _ _ fun i hi => ?_
      unfold colL
      rw [range_getD, if_pos hi]
      have := key i hi
      grind
    rw [e] at h1
    have e2 : p.costs[j]?.getD 0 * (sgD p at' m * denL p at' m) * yd = sgD p at' m * denL p at' m * (p.costs[j]?.getD 0 * yd) := by grind
    rw [e2] at h1
    exact Int.le_of_mul_le_mul_left h1 hD

/-- The worth of a corner's point, and what its prices come to, are one. -/
theorem corner_worth (p : Lp) (at' : List Int) (m n : Nat) (hmay : p.may = true) (hm : m = p.rows.length) (hn : n = p.costs.length) (hr : rightB at' m (n + m) = true) (hd : denL p at' m ≠ 0) (x y : List Int) (xd yd : Int)
    (hx : ∀ j, j < n → (xL p at' m (n + m))[j]?.getD 0 * xd = x[j]?.getD 0 * denL p at' m) (hy : ∀ i, i < m → (priceL p at' m)[i]?.getD 0 * yd = y[i]?.getD 0 * denL p at' m) :
    dotN p.costs x n * denL p at' m = dotN p.costs (xL p at' m (n + m)) n * xd ∧ dotN p.costs x n * yd = pricedN p m y * xd := by
  have e1 : dotN p.costs x n * denL p at' m = dotN p.costs (xL p at' m (n + m)) n * xd := by
    rw [dotN_sum, dotN_sum, Int.mul_comm, ← sumN_mul, Int.mul_comm (sumN _ n), ← sumN_mul]
    refine sumN_congr _ _ _ fun j hj => ?_
    have := hx j hj
    grind
  have e2 : pricedN p m y * denL p at' m = dotN (mostsL p m) (priceL p at' m) m * yd := by
    unfold pricedN
    rw [dotN_sum, dotN_sum, Int.mul_comm, ← sumN_mul, Int.mul_comm (sumN _ m), ← sumN_mul]
    refine sumN_congr _ _ _ fun i hi => ?_
    have := hy i hi
    grind
  have e3 := comes_worth p at' m n hmay hm hn hr
  refine ⟨e1, Int.eq_of_mul_eq_mul_left hd ?_⟩
  have a1 : denL p at' m * (dotN p.costs x n * yd) = dotN p.costs x n * denL p at' m * yd := by grind
  have a2 : denL p at' m * (pricedN p m y * xd) = pricedN p m y * denL p at' m * xd := by grind
  rw [a1, a2, e1, e2, e3]
  grind

/-- A corner without gains makes an answer that is best. -/
theorem top_best (p : Lp) (at' : List Int) (m n : Nat) (hmay : p.may = true) (hm : m = p.rows.length) (hn : n = p.costs.length) (ht : Top p at' m n) (a : Ans) (hxl : a.x.length = n) (hx : mayPB a.xd a.x = true) (hxe : ∀ j, j < n → (xL p at' m (n + m))[j]?.getD 0 * a.xd = a.x[j]?.getD 0 * denL p at' m)
    (hyl : a.y.length = m) (hy : mayPB a.yd a.y = true) (hye : ∀ i, i < m → (priceL p at' m)[i]?.getD 0 * a.yd = a.y[i]?.getD 0 * denL p at' m) (hw : mk (dotN p.costs a.x n) a.xd = (a.wn, a.wd, 0)) : bestB p a = true := by
  have hg := good_goes p at' m n hmay hm hn ht.toGood a.x a.xd hxl hx hxe
  have hc := top_covers p at' m n hm hn ht a.y a.yd hyl hy hye
  obtain ⟨_, hww⟩ := corner_worth p at' m n hmay hm hn ht.right ht.den a.x a.y a.xd a.yd hxe hye
  obtain ⟨_, _, hxd, hxw, _⟩ := goes_len p _ _ hg
  obtain ⟨_, hyd, hyw, _⟩ := point_of _ _ _ (covers_of _ _ _ _ _ hc).1
  have hn4 := (p.may_of hmay).1.2
  have h4 := (p.may_of hmay).2.2.1.2
  have b1 := dotN_bd p.costs a.x 400 1073741824 (withinB_iff _ _ (p.may_of hmay).2.1 (by omega)) (withinB_iff _ _ hxw (by omega)) n
  have b2 := dotN_bd (mostsL p m) a.y 400 1073741824 (mosts_bd p hmay m) (withinB_iff _ _ hyw (by omega)) m
  unfold bestB
  rw [← hm, ← hn, hg, hc, hw]
  have hs := mk_same (dotN p.costs a.x n) a.xd (pricedN p m a.y) a.yd hww (by omega) (by omega) (by omega) (by omega) (by omega) (by unfold pricedN; omega)
  rw [← hs, hw]
  simp

end Num
end Go.Proofs.YtloncgmgcnaalaaGreat

/- Answers that hold, of a way that rises without end, and of how often each row is taken; each program that may be has one: in plain numbers. -/
namespace Go.Proofs.YtloncgmgcnaalaaGreat
namespace Num

theorem gl_one (l : List Int) : gl 1 l = 1 := by
  have h := byOf_dvd_d 1 l
  unfold byOf at h
  rw [if_neg (by omega)] at h
  have : ((gl 1 l : Nat) : Int) ∣ ((1 : Nat) : Int) := by simpa using h
  have := Int.natCast_dvd_natCast.1 this
  exact Nat.dvd_one.1 this

theorem within_of (b : Int) (l : List Int) (h : ∀ j, j < l.length → -b ≤ l[j]?.getD 0 ∧ l[j]?.getD 0 ≤ b) : withinB b l = true := by
  unfold withinB
  rw [List.all_eq_true]
  intro x hx
  obtain ⟨j, hj, rfl⟩ := List.getElem_of_mem hx
  have := h j hj
  rw [List.getElem?_eq_getElem hj, Option.getD_some] at this
  simpa using this

theorem may_one (l : List Int) (h8 : l.length ≤ 8) (h : ∀ j, j < l.length → -1073741824 ≤ l[j]?.getD 0 ∧ l[j]?.getD 0 ≤ 1073741824) : mayPB 1 l = true := by
  unfold mayPB
  rw [mayB_g 1 l (by omega) (by rw [withinB_one]; rfl) (within_of _ l h), gl_one]
  simp [h8]

/-- A way that rises without end makes an answer that is endless. -/
theorem ray_endless (p : Lp) (m n : Nat) (hmay : p.may = true) (hm : m = p.rows.length) (hn : n = p.costs.length) (R : Nat → Int) (hR : Ray p m n R) (a : Ans) (hg : p.goes a.x a.xd = true) (hd : a.rd = 1) (hl : a.r.length = n) (hb : ∀ j, j < n → a.r[j]?.getD 0 ≤ 1073741824)
    (e h : Int) (he : 0 < e) (hh : 0 < h) (hr : ∀ j, j < n → R j * e = a.r[j]?.getD 0 * h) : endlessB p a = true := by
  have hn4 := (p.may_of hmay).1.2
  have h0 : ∀ j, j < n → 0 ≤ a.r[j]?.getD 0 := fun j hj => by
    have := Int.mul_nonneg (hR.up j (by omega)) (Int.le_of_lt he)
    rw [hr j hj, Int.mul_comm] at this
    exact (nonneg_mul_iff _ _ hh).1 this
  have key : ∀ c : Nat → Int, sumN (fun j => c j * a.r[j]?.getD 0) n * h = sumN (fun j => c j * R j) n * e := fun c => by
    rw [Int.mul_comm, ← sumN_mul, Int.mul_comm (sumN _ n), ← sumN_mul]
    refine sumN_congr _ _ _ fun j hj => ?_
    have := hr j hj
    grind
  unfold endlessB pointB
  rw [hg, hd, ← hn]
  simp only [Bool.and_eq_true, Bool.not_eq_true', beq_iff_eq, decide_eq_true_eq, true_and, List.all_eq_true]
  refine ⟨⟨⟨⟨hl, may_one a.r (by omega) fun j hj => ?_⟩, any_of _ fun j hj => h0 j (by omega)⟩, fun q hq => ?_⟩, ?_⟩
  · have := h0 j (by omega)
    have := hb j (by omega)
    omega
  · obtain ⟨i, hi, rfl⟩ := List.getElem_of_mem hq
    unfold rowLevel
    rw [decide_eq_true_eq, dotN_sum]
    have h1 := hR.level i (by omega)
    rw [slack_sum p m n i hn (by omega), List.getElem?_eq_getElem hi, Option.getD_some] at h1
    have h2 := key fun j => p.rows[i].1[j]?.getD 0
    have h3 := hR.up (n + i) (by omega)
    have h4 : sumN (fun j => p.rows[i].1[j]?.getD 0 * R j) n = -(R (n + i)) := by omega
    rw [h4] at h2
    have h5 := Int.mul_nonneg h3 (Int.le_of_lt he)
    rw [Int.neg_mul] at h2
    generalize sumN (fun j => p.rows[i].1[j]?.getD 0 * a.r[j]?.getD 0) n = z at *
    refine Int.not_lt.1 fun hz => ?_
    have := Int.mul_pos hz hh
    omega
  · rw [dotN_sum]
    have h1 := hR.rise
    rw [sumN_split] at h1
    have e2 : sumN (fun i => p.costs[n + i]?.getD 0 * R (n + i)) m = 0 := (sumN_congr _ (fun _ => 0) _ fun i hi => by rw [List.getElem?_eq_none (by omega)]; simp).trans (sumN_zero m)
    have h2 := key fun j => p.costs[j]?.getD 0
    have h3 := Int.mul_pos (show 0 < sumN (fun j => p.costs[j]?.getD 0 * R j) n by omega) he
    rw [← h2, Int.mul_comm] at h3
    exact (pos_mul_iff _ _ hh).1 h3

/-- How often each row is taken, where nothing goes. -/
structure Never (p : Lp) (m n : Nat) (y : Nat → Int) : Prop where
  up : ∀ i, i < m → 0 ≤ y i
  cover : ∀ j, j < n → 0 ≤ sumN (fun i => hasF p j i * y i) m
  falls : sumN (fun i => mostF p i * y i) m < 0

theorem never_nothing (p : Lp) (m n : Nat) (hmay : p.may = true) (hm : m = p.rows.length) (hn : n = p.costs.length) (Y : Nat → Int) (hY : Never p m n Y) (a : Ans) (hd : a.yd = 1) (hl : a.y.length = m) (hb : ∀ i, i < m → a.y[i]?.getD 0 ≤ 1073741824)
    (e h : Int) (he : 0 < e) (hh : 0 < h) (hy : ∀ i, i < m → Y i * e = a.y[i]?.getD 0 * h) : nothingB p a = true := by
  have h4 := (p.may_of hmay).2.2.1.2
  have h0 : ∀ i, i < m → 0 ≤ a.y[i]?.getD 0 := fun i hi => by
    have := Int.mul_nonneg (hY.up i hi) (Int.le_of_lt he)
    rw [hy i hi, Int.mul_comm] at this
    exact (nonneg_mul_iff _ _ hh).1 this
  have key : ∀ c : Nat → Int, sumN (fun i => c i * a.y[i]?.getD 0) m * h = sumN (fun i => c i * Y i) m * e := fun c => by
    rw [Int.mul_comm, ← sumN_mul, Int.mul_comm (sumN _ m), ← sumN_mul]
    refine sumN_congr _ _ _ fun i hi => ?_
    have := hy i hi
    grind
  unfold nothingB coversB pointB
  rw [hd, ← hm, ← hn]
  simp only [Bool.and_eq_true, Bool.not_eq_true', beq_iff_eq, decide_eq_true_eq, List.all_eq_true]
  refine ⟨⟨by decide, ⟨⟨hl, may_one a.y (by omega) fun i hi => ?_⟩, any_of _ fun i hi => h0 i (by omega)⟩, fun j hj => ?_⟩, ?_⟩
  · have := h0 i (by omega)
    have := hb i (by omega)
    omega
  · simp only [List.length_replicate, List.mem_range] at hj
    unfold costB
    rw [decide_eq_true_eq, dotN_sum]
    have e0 : (List.replicate n (0 : Int))[j]?.getD 0 = 0 := by
      rw [List.getElem?_replicate]; split <;> rfl
    have e1 : sumN (fun i => (colL p m j)[i]?.getD 0 * a.y[i]?.getD 0) m = sumN (fun i => hasF p j i * a.y[i]?.getD 0) m := sumN_congr _ _ _ fun i hi => by unfold colL; rw [range_getD, if_pos hi]
    rw [e0, e1]
    have h2 := key fun i => hasF p j i
    have h3 := Int.mul_nonneg (hY.cover j hj) (Int.le_of_lt he)
    rw [← h2, Int.mul_comm] at h3
    have := (nonneg_mul_iff _ _ hh).1 h3
    omega
  · unfold pricedN
    rw [dotN_sum]
    have e1 : sumN (fun i => (mostsL p m)[i]?.getD 0 * a.y[i]?.getD 0) m = sumN (fun i => mostF p i * a.y[i]?.getD 0) m := sumN_congr _ _ _ fun i hi => by unfold mostsL; rw [range_getD, if_pos hi]
    rw [e1]
    have h2 := key fun i => mostF p i
    have h3 := Int.mul_neg_of_neg_of_pos hY.falls he
    rw [← h2] at h3
    refine Int.not_le.1 fun hz => ?_
    have := Int.mul_nonneg hz (Int.le_of_lt hh)
    omega

/-- The lowest terms of numbers that are not too great may be. -/
theorem pt_may (l : List Int) (d : Int) (hd : d ≠ 0) (hdb : -1073741824 ≤ d ∧ d ≤ 1073741824) (hl : ∀ j : Nat, -1073741824 ≤ l[j]?.getD 0 ∧ l[j]?.getD 0 ≤ 1073741824) (h8 : l.length ≤ 8) :
    ∃ x xd, pt l d = (x, xd, 0) ∧ x.length = l.length ∧ mayPB xd x = true ∧ ∀ j : Nat, l[j]?.getD 0 * xd = x[j]?.getD 0 * d := by
  obtain ⟨g, g0, h1, h2, h3, h4, h5, _⟩ := pt_ok l d hd hdb hl h8
  have hw : withinB 4611686018427387904 l = true := within_of _ l fun j _ => by have := hl j; omega
  have hw2 : withinB 4611686018427387904 [d] = true := by rw [withinB_one]; simp; omega
  have hp := pt_in l d hd hw hw2
  refine ⟨(pt l d).1, (pt l d).2.1, by rw [← h1], h2, ?_, fun j => ?_⟩
  · cases hmp : mayPB (d.tdiv (byOf d l)) (l.map fun n => n.tdiv (byOf d l)) with
    | false =>
      rw [hmp] at hp
      rw [hp] at h1
      simp at h1
    | true =>
      rw [hmp] at hp
      rw [hp]
      simpa using hmp
  · rw [h3 j]
    generalize (pt l d).1[j]?.getD 0 = x at *
    generalize (pt l d).2.1 = xd at *
    rw [h4]; grind

/-- Each program that may be has an answer that holds. -/
theorem holds_ex (p : Lp) (hmay : p.may = true) : ∃ a, holds p a = true := by
  obtain ⟨m, hm⟩ : ∃ m, m = p.rows.length := ⟨_, rfl⟩
  obtain ⟨n, hn⟩ : ∃ n, n = p.costs.length := ⟨_, rfl⟩
  have h1 : 1 ≤ m := by have := (p.may_of hmay).2.2.1.1; omega
  have h4 : m ≤ 4 := by have := (p.may_of hmay).2.2.1.2; omega
  have hn4 := (p.may_of hmay).1.2
  have point : ∀ g, Good p g m n → ∃ x xd, x.length = n ∧ mayPB xd x = true ∧ ∀ j, j < n → (xL p g m (n + m))[j]?.getD 0 * xd = x[j]?.getD 0 * denL p g m := by
    intro g hg
    have hb := den_bd12 p g m hmay h1 h4
    obtain ⟨x, xd, _, x2, x3, x4⟩ := pt_may ((xL p g m (n + m)).take n) (denL p g m) hg.den (by omega) (fun j => by
      have := x_bd p g m (n + m) hmay hm j
      rw [List.getElem?_take]
      split
      · omega
      · simp) (by simp; omega)
    refine ⟨x, xd, ?_, x3, fun j hj => ?_⟩
    · rw [x2]; unfold xL; rw [List.length_take, spread_len]; omega
    · have := x4 j
      rw [List.getElem?_take, if_pos hj] at this
      exact this
  rcases goes_or_not p m n hmay hm hn with ⟨g, hg⟩ | ⟨Y, y1, y2, y3, y4⟩
  · rcases top_or_ray p g m n hmay hm hn hg with ⟨t, ht⟩ | ⟨R, hR, hb⟩
    · obtain ⟨x, xd, x1, x2, x3⟩ := point t ht.toGood
      have hb := den_bd12 p t m hmay h1 h4
      have pb := price_bd2 p t m hmay hm
      obtain ⟨y, yd, _, y2, y3, y4⟩ := pt_may (priceL p t m) (denL p t m) ht.den (by omega) (fun j => by have := pb j; omega) (by unfold priceL sharesL; simp; omega)
      have b1 := dotN_bd p.costs (xL p t m (n + m)) 400 497664 (withinB_iff _ _ (p.may_of hmay).2.1 (by omega)) (x_bd p t m (n + m) hmay hm) n
      have hyl : y.length = m := by rw [y2]; unfold priceL sharesL; simp
      obtain ⟨w1, _⟩ := corner_worth p t m n hmay hm hn ht.right ht.den x y xd yd x3 (fun i _ => y4 i)
      have hgo := good_goes p t m n hmay hm hn ht.toGood x xd x1 x2 x3
      obtain ⟨_, _, hxd, hxw, _⟩ := goes_len p _ _ hgo
      have b2 := dotN_bd p.costs x 400 1073741824 (withinB_iff _ _ (p.may_of hmay).2.1 (by omega)) (withinB_iff _ _ hxw (by omega)) n
      have hs := mk_same (dotN p.costs x n) xd (dotN p.costs (xL p t m (n + m)) n) (denL p t m) w1 (by omega) ht.den (by omega) (by omega) (by omega) (by omega)
      obtain ⟨l, ld, l1, l2, _, _⟩ := pt_may [dotN p.costs (xL p t m (n + m)) n] (denL p t m) ht.den (by omega) (fun j => by
        match j with
        | 0 => simp; omega
        | j + 1 => simp) (by simp)
      have hmk : ∃ wn wd, mk (dotN p.costs (xL p t m (n + m)) n) (denL p t m) = (wn, wd, 0) := by
        refine ⟨(mk (dotN p.costs (xL p t m (n + m)) n) (denL p t m)).1, (mk (dotN p.costs (xL p t m (n + m)) n) (denL p t m)).2.1, ?_⟩
        by_cases hz : (mk (dotN p.costs (xL p t m (n + m)) n) (denL p t m)).2.2 = 0
        · rw [← hz]
        · have := (pt_one_bad _ _ _ _ _ rfl hz).1
          rw [l1] at this
          simp only [Prod.mk.injEq] at this
          exact absurd this.2.2.symm hz
      obtain ⟨wn, wd, hmk⟩ := hmk
      refine ⟨⟨1, x, xd, y, yd, [], 0, wn, wd⟩, ?_⟩
      rw [holds_best p _ hmay rfl]
      simp only [Bool.and_eq_true]
      exact ⟨by decide, top_best p t m n hmay hm hn ht _ x1 x2 x3 hyl y3 (fun i _ => y4 i) (hs.trans hmk)⟩
    · obtain ⟨x, xd, x1, x2, x3⟩ := point g hg
      refine ⟨⟨2, x, xd, [], 0, (List.range n).map R, 1, 0, 0⟩, ?_⟩
      rw [holds_endless p _ hmay rfl]
      simp only [Bool.and_eq_true]
      refine ⟨by decide, ray_endless p m n hmay hm hn R hR _ (good_goes p g m n hmay hm hn hg x xd x1 x2 x3) rfl (by simp) (fun j hj => ?_) 1 1 (by omega) (by omega) fun j hj => ?_⟩
      · show ((List.range n).map R)[j]?.getD 0 ≤ _
        rw [range_getD, if_pos hj]
        have := hb j; omega
      · show _ = ((List.range n).map R)[j]?.getD 0 * 1
        rw [range_getD, if_pos hj]
  · refine ⟨⟨3, [], 0, (List.range m).map Y, 1, [], 0, 0, 0⟩, ?_⟩
    rw [holds_nothing p _ hmay rfl]
    simp only [Bool.and_eq_true]
    refine ⟨by decide, never_nothing p m n hmay hm hn Y ⟨y1, y3, y4⟩ _ rfl (by simp) (fun j hj => ?_) 1 1 (by omega) (by omega) fun j hj => ?_⟩
    · show ((List.range m).map Y)[j]?.getD 0 ≤ _
      rw [range_getD, if_pos hj]
      have := y2 j; omega
    · show _ = ((List.range m).map Y)[j]?.getD 0 * 1
      rw [range_getD, if_pos hj]

end Num
end Go.Proofs.YtloncgmgcnaalaaGreat

/- Where no corner goes, a corner refuses: it has a column below 0 that no other one lifts; in plain numbers. -/
namespace Go.Proofs.YtloncgmgcnaalaaGreat
namespace Num

/-- A best corner of the program that asks for the prices makes a corner that goes. -/
theorem dual_top_goes (p : Lp) (m n : Nat) (hmay : p.may = true) (hm : m = p.rows.length) (hn : n = p.costs.length) (t : List Int) (ht : Top (dualP p) t n m) : ∃ g, Good p g m n := by
  have dc : m = (dualP p).costs.length := by rw [dual_costs]; exact hm
  have dr : n = (dualP p).rows.length := by rw [dual_rows]; exact hn
  obtain ⟨t1, t2⟩ := top_prices (dualP p) t n m dr dc ht
  have hD := sgD_pos (dualP p) t n ht.den
  generalize sgD (dualP p) t n * denL (dualP p) t n = D at *
  refine goes_corner p m n hmay hm hn (n + m) (fun j => if j < n then sgD (dualP p) t n * (priceL (dualP p) t n)[j]?.getD 0 else mostF p (j - n) * D - sumN (fun q => hasF p q (j - n) * (sgD (dualP p) t n * (priceL (dualP p) t n)[q]?.getD 0)) n) D hD (fun j hj => ?_) (fun i hi => ?_) ?_
  · show 0 ≤ (if j < n then _ else _)
    by_cases hjn : j < n
    · rw [if_pos hjn]; exact t1 j hjn
    · rw [if_neg hjn]
      have := t2 (j - n) (by omega)
      rw [dual_cost p (j - n) (by omega)] at this
      have e : sumN (fun q => hasF (dualP p) (j - n) q * (sgD (dualP p) t n * (priceL (dualP p) t n)[q]?.getD 0)) n = -1 * sumN (fun q => hasF p q (j - n) * (sgD (dualP p) t n * (priceL (dualP p) t n)[q]?.getD 0)) n := by
        rw [← sumN_mul]
        exact sumN_congr _ _ _ fun q hq => by rw [dual_has p (j - n) q (by omega) (by omega)]; grind
      rw [e, Int.neg_mul] at this
      omega
  · rw [slack_sum p m n i hn hi]
    have e : sumN (fun j => (p.rows[i]?.getD ([], 0)).1[j]?.getD 0 * (if j < n then sgD (dualP p) t n * (priceL (dualP p) t n)[j]?.getD 0 else mostF p (j - n) * D - sumN (fun q => hasF p q (j - n) * (sgD (dualP p) t n * (priceL (dualP p) t n)[q]?.getD 0)) n)) n = sumN (fun q => hasF p q i * (sgD (dualP p) t n * (priceL (dualP p) t n)[q]?.getD 0)) n :=
      sumN_congr _ _ _ fun j hj => by rw [if_pos hj, has_row p n j i hn hj]
    rw [e, if_neg (by omega), Nat.add_sub_cancel_left, Int.mul_comm D]
    omega
  · unfold suppL
    exact Nat.le_trans (List.length_filter_le _ _) (by simp)

/-- The column of the program that belongs to one of the program that asks for the prices, and back. -/
def phi (m n q : Nat) : Nat := if q < m then n + q else q - m
def psi (m n j : Nat) : Nat := if j < n then m + j else j - n

theorem psi_phi (m n q : Nat) (h : q < m + n) : psi m n (phi m n q) = q := by
  unfold psi phi
  split
  · rw [if_neg (by omega)]; omega
  · rw [if_pos (by omega)]; omega
theorem phi_lt (m n q : Nat) (h : q < m + n) : phi m n q < n + m := by unfold phi; split <;> omega

/-- What a column costs at prices that are level in the other program. -/
theorem dual_col (p : Lp) (m n : Nat) (hm : m = p.rows.length) (hn : n = p.costs.length) (z : Nat → Int) (hz : ∀ j, j < n → sumN (fun q => hasF (dualP p) q j * z q) (m + n) = 0) (j : Nat) (hj : j < n + m) : sumN (fun i => hasF p j i * z i) m = z (psi m n j) := by
  have dc : m = (dualP p).costs.length := by rw [dual_costs]; exact hm
  by_cases hjn : j < n
  · unfold psi
    rw [if_pos hjn]
    have := hz j hjn
    rw [sumN_split] at this
    have e1 : sumN (fun i => hasF (dualP p) i j * z i) m = -1 * sumN (fun i => hasF p j i * z i) m := by
      rw [← sumN_mul]
      exact sumN_congr _ _ _ fun i hi => by rw [dual_has p i j (by omega) (by omega)]; grind
    have e2 : sumN (fun q => hasF (dualP p) (m + q) j * z (m + q)) n = z (m + j) := by
      rw [sumN_only _ j n hjn (fun q _ hq => by show hasF (dualP p) (m + q) j * _ = 0; rw [has_slack (dualP p) m q j dc, if_neg (by omega)]; omega)]
      show hasF (dualP p) (m + j) j * _ = _
      rw [has_slack (dualP p) m j j dc, if_pos rfl]; omega
    rw [e1, e2] at this
    omega
  · obtain ⟨q, rfl⟩ : ∃ q, j = n + q := ⟨j - n, by omega⟩
    unfold psi
    rw [if_neg hjn, slack_price p m n q hn (by omega), Nat.add_sub_cancel_left]

theorem sumL_map (f : Nat → Int) (g : Nat → Nat) : ∀ l : List Nat, sumL f (l.map g) = sumL (fun q => f (g q)) l
  | [] => rfl
  | q :: t => by show f (g q) + sumL f (t.map g) = f (g q) + sumL (fun q => f (g q)) t; rw [sumL_map f g t]

theorem sumL_only (f : Nat → Int) (c : Nat) (l : List Nat) (hn : l.Nodup) (hc : c ∈ l) (h : ∀ j ∈ l, j ≠ c → f j = 0) : sumL f l = f c := by
  rw [sumL_erase f c l hc, sumL_congr f (fun _ => 0) (l.erase c) fun j hj => ?_, sumL_zero]
  · omega
  · rw [hn.mem_erase_iff] at hj
    exact h j hj.2 hj.1

/-- The columns beside those of g. -/
def restL (m n : Nat) (g : List Int) : List Nat := ((List.range (m + n)).filter fun q => !inB g n q).map (phi m n)

theorem rest_mem (m n : Nat) (g : List Int) (j : Nat) : j ∈ restL m n g ↔ ∃ q, q < m + n ∧ inB g n q = false ∧ phi m n q = j := by
  unfold restL
  simp only [List.mem_map, List.mem_filter, List.mem_range, Bool.not_eq_true']
  exact ⟨fun ⟨q, ⟨h1, h2⟩, h3⟩ => ⟨q, h1, h2, h3⟩, fun ⟨q, h1, h2, h3⟩ => ⟨q, ⟨h1, h2⟩, h3⟩⟩

theorem rest_nodup (m n : Nat) (g : List Int) : (restL m n g).Nodup := by
  unfold restL
  have h : ((List.range (m + n)).filter fun q => !inB g n q).Nodup := List.Pairwise.filter _ List.nodup_range
  refine List.pairwise_map.2 (List.Pairwise.imp_of_mem (fun {a b} ha hb hab e => hab ?_) h)
  have ha' := List.mem_range.1 (List.mem_filter.1 ha).1
  have hb' := List.mem_range.1 (List.mem_filter.1 hb).1
  rw [← psi_phi m n a ha', e, psi_phi m n b hb']

theorem rest_len (m n : Nat) (g : List Int) (hr : rightB g n (m + n) = true) : (restL m n g).length = m := by
  unfold restL
  rw [List.length_map]
  have hnd : ((List.range n).map (atF g)).Nodup := by
    refine List.pairwise_map.2 (List.Pairwise.imp_of_mem (fun {a b} ha hb hab => ?_) List.pairwise_lt_range)
    have := atF_rise g (m + n) n hr b (List.mem_range.1 hb) a hab
    omega
  have hp : ((List.range (m + n)).filter fun q => inB g n q).Perm ((List.range n).map (atF g)) := (List.perm_ext_iff_of_nodup (List.Pairwise.filter _ List.nodup_range) hnd).2 fun q => by
    simp only [List.mem_filter, List.mem_range, List.mem_map]
    rw [inB_true]
    exact ⟨fun h => h.2, fun ⟨i, hi, he⟩ => ⟨by rw [← he]; exact atF_lt g (m + n) n hr i hi, i, hi, he⟩⟩
  have hl := hp.length_eq
  rw [List.length_map, List.length_range] at hl
  have hc := List.length_eq_countP_add_countP (fun q => inB g n q) (l := List.range (m + n))
  rw [List.length_range, List.countP_eq_length_filter, List.countP_eq_length_filter] at hc
  have he : ((List.range (m + n)).filter fun q => decide ¬(inB g n q) = true) = (List.range (m + n)).filter fun q => !inB g n q := by
    congr 1
    funext q
    cases inB g n q <;> rfl
  rw [he] at hc
  omega

/-- The columns beside a corner of the other program are independent. -/
theorem rest_ind (p : Lp) (m n : Nat) (hmay : p.may = true) (hm : m = p.rows.length) (hn : n = p.costs.length) (g : List Int) (hr : rightB g n (m + n) = true) (hd : denL (dualP p) g n ≠ 0) : IndC p m (restL m n g) := by
  have h1 : 1 ≤ n := by have := (p.may_of hmay).1.1; omega
  have h4 : n ≤ 4 := by have := (p.may_of hmay).1.2; omega
  intro v hv j hj
  obtain ⟨s, hs, hsb, rfl⟩ := (rest_mem m n g j).1 hj
  have e1 : sumN (fun i => dirF (dualP p) g n (m + n) s i * sumL (fun j => hasF p j i * v j) (restL m n g)) m = 0 := (sumN_congr _ (fun _ => 0) _ fun i hi => by rw [hv i hi]; omega).trans (sumN_zero m)
  have e2 : sumN (fun i => dirF (dualP p) g n (m + n) s i * sumL (fun j => hasF p j i * v j) (restL m n g)) m = sumN (fun i => sumL (fun j => v j * (hasF p j i * dirF (dualP p) g n (m + n) s i)) (restL m n g)) m := sumN_congr _ _ _ fun i _ => by
    rw [← sumL_mul]
    exact sumL_congr _ _ _ fun j _ => by grind
  rw [e2, sumL_sumN] at e1
  have e3 : ∀ j, j < n + m → sumN (fun i => v j * (hasF p j i * dirF (dualP p) g n (m + n) s i)) m = v j * dirF (dualP p) g n (m + n) s (psi m n j) := fun j hj => by
    rw [sumN_mul, dual_col p m n hm hn (dirF (dualP p) g n (m + n) s) (fun j hj => dir_level (dualP p) g n (m + n) s hr h1 h4 hs hsb j hj) j hj]
  rw [sumL_only _ (phi m n s) (restL m n g) (rest_nodup m n g) hj fun j hj hne => ?_] at e1
  · rw [e3 _ (phi_lt m n s hs), psi_phi m n s hs] at e1
    unfold dirF at e1
    rw [if_pos rfl] at e1
    rcases Int.mul_eq_zero.1 e1 with h | h
    · exact h
    · exact absurd h hd
  · obtain ⟨q, hq, hqb, rfl⟩ := (rest_mem m n g j).1 hj
    show sumN (fun i => v (phi m n q) * (hasF p (phi m n q) i * dirF (dualP p) g n (m + n) s i)) m = 0
    rw [e3 _ (phi_lt m n q hq), psi_phi m n q hq, dir_not (dualP p) g n (m + n) s q hqb (fun e => hne (by rw [e]))]
    omega

/-- A corner that refuses, by its column c, with how often each row is taken. -/
structure Refuses (p : Lp) (at' : List Int) (m n c : Nat) (y : Nat → Int) (D : Int) : Prop where
  right : rightB at' m (n + m) = true
  den : denL p at' m ≠ 0
  col : inB at' m c = true
  below : sgD p at' m * (xL p at' m (n + m))[c]?.getD 0 < 0
  never : Never p m n y
  pos : 0 < D
  own : ∀ j, inB at' m j = true → sumN (fun i => hasF p j i * y i) m = if j = c then D else 0

/-- A corner goes, or one refuses. -/
theorem goes_or_refuses (p : Lp) (m n : Nat) (hmay : p.may = true) (hm : m = p.rows.length) (hn : n = p.costs.length) : (∃ g, Good p g m n) ∨ ∃ at' c y D, Refuses p at' m n c y D := by
  have dm := dual_may p hmay
  have dc : m = (dualP p).costs.length := by rw [dual_costs]; exact hm
  have dr : n = (dualP p).rows.length := by rw [dual_rows]; exact hn
  have h1 : 1 ≤ m := by have := (p.may_of hmay).2.2.1.1; omega
  have h4 : m ≤ 4 := by have := (p.may_of hmay).2.2.1.2; omega
  obtain ⟨g0, hg0⟩ : ∃ g, Good (dualP p) g n m := goes_corner (dualP p) n m dm dr dc (m + n) (fun _ => 0) 1 (by omega) (fun _ _ => Int.le_refl _) (fun j hj => by
    rw [dual_most p j (by omega)]
    exact (sumN_congr _ (fun _ => 0) _ fun _ _ => by omega).trans (sumN_zero _)) (by unfold suppL; exact Nat.le_trans (List.length_filter_le _ _) (by simp))
  obtain ⟨l, k, hw⟩ := walk_ex (dualP p) g0 n m dm dr dc hg0
  have hgs := (isWalk_good dm hw).1
  obtain ⟨K, a1, a2, a3, a4, a5⟩ := hw
  have hg := hgs K (by omega)
  rw [← dr, ← dc] at hg
  generalize l[K]?.getD [] = g at *
  rcases next_kind (dualP p) g n m dm dr dc hg with ⟨_, h2⟩ | ⟨_, s, s1, s2, s3, s4⟩ | ⟨nx, hx, _⟩
  · exact Or.inl (dual_top_goes p m n hmay hm hn g ⟨hg, h2⟩)
  · refine Or.inr ?_
    have hR := dir_ray (dualP p) g n m s dm dr hg s1 s2 s3 s4
    have hind := rest_ind p m n hmay hm hn g hg.right hg.den
    have hnd := rest_nodup m n g
    have hlen := rest_len m n g hg.right
    have hltN : ∀ j ∈ restL m n g, j < n + m := fun j hj => by
      obtain ⟨q, hq, _, rfl⟩ := (rest_mem m n g j).1 hj
      exact phi_lt m n q hq
    obtain ⟨hr, hin⟩ := rise_ok m (n + m) (restL m n g) hnd hltN hlen
    have hd := ind_den p m n h1 h4 (restL m n g) hind hnd hltN hlen
    generalize riseL (n + m) (restL m n g) = at' at *
    have hD := sgD_pos (dualP p) g n hg.den
    have hcol : ∀ j, j < n + m → sumN (fun i => hasF p j i * (sgD (dualP p) g n * dirF (dualP p) g n (m + n) s i)) m = sgD (dualP p) g n * dirF (dualP p) g n (m + n) s (psi m n j) := fun j hj => dual_col p m n hm hn (fun i => sgD (dualP p) g n * dirF (dualP p) g n (m + n) s i) (fun j hj => hR.level j hj) j hj
    have hcS : phi m n s ∈ restL m n g := (rest_mem m n g _).2 ⟨s, s1, s2, rfl⟩
    have hnev : Never p m n (fun i => sgD (dualP p) g n * dirF (dualP p) g n (m + n) s i) := by
      refine ⟨fun i hi => hR.up i (by omega), fun j hj => ?_, ?_⟩
      · rw [hcol j (by omega)]
        exact hR.up _ (by unfold psi; rw [if_pos hj]; omega)
      · have := hR.rise
        rw [sumN_split] at this
        have e1 : sumN (fun i => (dualP p).costs[i]?.getD 0 * (sgD (dualP p) g n * dirF (dualP p) g n (m + n) s i)) m = -1 * sumN (fun i => mostF p i * (sgD (dualP p) g n * dirF (dualP p) g n (m + n) s i)) m := by
          rw [← sumN_mul]
          exact sumN_congr _ _ _ fun i hi => by rw [dual_cost p i (by omega)]; grind
        have e2 : sumN (fun q => (dualP p).costs[m + q]?.getD 0 * (sgD (dualP p) g n * dirF (dualP p) g n (m + n) s (m + q))) n = 0 := (sumN_congr _ (fun _ => 0) _ fun i hi => by rw [List.getElem?_eq_none (by omega)]; simp).trans (sumN_zero n)
        rw [e1, e2] at this
        omega
    have hown : ∀ j, inB at' m j = true → sumN (fun i => hasF p j i * (sgD (dualP p) g n * dirF (dualP p) g n (m + n) s i)) m = if j = phi m n s then sgD (dualP p) g n * denL (dualP p) g n else 0 := by
      intro j hj
      rw [hin j, decide_eq_true_eq] at hj
      rw [hcol j (hltN j hj)]
      obtain ⟨q, hq, hqb, rfl⟩ := (rest_mem m n g j).1 hj
      rw [psi_phi m n q hq]
      by_cases hqs : q = s
      · subst hqs
        rw [if_pos rfl]
        unfold dirF
        rw [if_pos rfl]
      · rw [if_neg (fun e => hqs (by rw [← psi_phi m n q hq, e, psi_phi m n s s1])), dir_not (dualP p) g n (m + n) s q hqb hqs]; omega
    refine ⟨at', phi m n s, fun i => sgD (dualP p) g n * dirF (dualP p) g n (m + n) s i, sgD (dualP p) g n * denL (dualP p) g n, hr, hd, by rw [hin, decide_eq_true_eq]; exact hcS, ?_, hnev, hD, hown⟩
    have hf := hnev.falls
    have e1 := pairs (hasF p) (fun i => sgD (dualP p) g n * dirF (dualP p) g n (m + n) s i) (fun j => (xL p at' m (n + m))[j]?.getD 0) m (n + m)
    generalize hy : (fun i => sgD (dualP p) g n * dirF (dualP p) g n (m + n) s i) = y at *
    have hyv : ∀ i, sgD (dualP p) g n * dirF (dualP p) g n (m + n) s i = y i := fun i => by rw [← hy]
    simp only [hyv] at e1 hf hown
    have e2 : sumN (fun i => y i * sumN (fun j => hasF p j i * (xL p at' m (n + m))[j]?.getD 0) (n + m)) m = denL p at' m * sumN (fun i => mostF p i * y i) m := by
      rw [← sumN_mul]
      exact sumN_congr _ _ _ fun i hi => by rw [x_level p at' m (n + m) hr h1 h4 i hi]; grind
    have e3 : sumN (fun j => sumN (fun i => hasF p j i * y i) m * (xL p at' m (n + m))[j]?.getD 0) (n + m) = sgD (dualP p) g n * denL (dualP p) g n * (xL p at' m (n + m))[phi m n s]?.getD 0 := by
      rw [sumN_only _ (phi m n s) (n + m) (phi_lt m n s s1) fun j _ hne => ?_]
      · show sumN (fun i => hasF p (phi m n s) i * y i) m * _ = _
        rw [hown _ (by rw [hin, decide_eq_true_eq]; exact hcS), if_pos rfl]
      · show sumN (fun i => hasF p j i * y i) m * (xL p at' m (n + m))[j]?.getD 0 = 0
        cases hb : inB at' m j with
        | false => rw [x_not p at' m (n + m) j hb]; omega
        | true => rw [hown j hb, if_neg hne]; omega
    rw [e3, e2] at e1
    have hDp := sgD_pos p at' m hd
    generalize sumN (fun i => mostF p i * y i) m = Fv at *
    generalize (xL p at' m (n + m))[phi m n s]?.getD 0 = x at *
    generalize sgD (dualP p) g n * denL (dualP p) g n = D at *
    have h5 : sgD p at' m * x * D = sgD p at' m * denL p at' m * Fv := by
      have : sgD p at' m * (D * x) = sgD p at' m * (denL p at' m * Fv) := by rw [e1]
      grind
    have h6 := Int.mul_neg_of_pos_of_neg hDp hf
    rw [← h5] at h6
    refine Int.not_le.1 fun h7 => ?_
    have := Int.mul_nonneg h7 (Int.le_of_lt hD)
    omega
  · rw [a4] at hx
    simp only [Prod.mk.injEq] at hx
    exact absurd hx.2.1 a5

/-- Prices at which no chosen column costs anything are none. -/
theorem left_none (p : Lp) (at' : List Int) (m : Nat) (h1 : 1 ≤ m) (h4 : m ≤ 4) (hd : denL p at' m ≠ 0) (z : Nat → Int) (hz : ∀ k, k < m → sumN (fun i => hasF p (atF at' k) i * z i) m = 0) (q : Nat) (hq : q < m) : z q = 0 := by
  have hc : ∀ i, i < m → sumN (fun k => hasF p (atF at' k) i * (sharesL (chosenL p at' m) (unitL m q) m)[k]?.getD 0) m = denL p at' m * (if i = q then 1 else 0) := by
    intro i hi
    have := cramer m (chosenL p at' m) (unitL m q) (chosen_sq p at' m) (by unfold unitL; simp) h1 h4 i hi
    unfold crm at this
    rw [dotN_sum, unitL_at m q i hi] at this
    rw [show vol (chosenL p at' m) none4 = denL p at' m from rfl] at this
    rw [← this]
    exact sumN_congr _ _ _ fun k hk => by rw [range_getD, if_pos hk, chosen_at p at' m k i hk hi, Int.mul_comm]
  generalize (sharesL (chosenL p at' m) (unitL m q) m) = u at *
  have e1 : sumN (fun i => z i * sumN (fun k => hasF p (atF at' k) i * u[k]?.getD 0) m) m = denL p at' m * z q := by
    rw [sumN_only _ q m hq fun i hi hne => by show z i * _ = 0; rw [hc i hi, if_neg hne]; omega]
    show z q * sumN _ m = _
    rw [hc q hq, if_pos rfl]; grind
  have e2 : sumN (fun i => z i * sumN (fun k => hasF p (atF at' k) i * u[k]?.getD 0) m) m = sumN (fun k => u[k]?.getD 0 * sumN (fun i => hasF p (atF at' k) i * z i) m) m := by
    have a1 : sumN (fun i => z i * sumN (fun k => hasF p (atF at' k) i * u[k]?.getD 0) m) m = sumN (fun i => sumN (fun k => u[k]?.getD 0 * (hasF p (atF at' k) i * z i)) m) m := sumN_congr _ _ _ fun i _ => by
      rw [← sumN_mul]; exact sumN_congr _ _ _ fun k _ => by grind
    rw [a1, sumN_swap]
    exact sumN_congr _ _ _ fun k _ => by rw [sumN_mul]
  have e3 : sumN (fun k => u[k]?.getD 0 * sumN (fun i => hasF p (atF at' k) i * z i) m) m = 0 := (sumN_congr _ (fun _ => 0) _ fun k hk => by rw [hz k hk]; omega).trans (sumN_zero m)
  rw [e2, e3] at e1
  rcases Int.mul_eq_zero.1 e1.symm with h | h
  · exact absurd h hd
  · exact h

/-- The program with the costs by which the variables are worth what the column c comes to. -/
def valP (p : Lp) (c : Nat) : Lp := ⟨(List.range p.costs.length).map fun k => if c < p.costs.length then (if k = c then 1 else 0) else -((p.rows[c - p.costs.length]?.getD ([], 0)).1[k]?.getD 0), p.rows⟩

/-- What solve.prices answers. -/
def pricesN (p : Lp) (at' : List Int) (c : Nat) : List Int :=
  if c < p.costs.length then (look (valP p c) at').y
  else (look (valP p c) at').y.set (c - p.costs.length) ((look (valP p c) at').y[c - p.costs.length]?.getD 0 + (look (valP p c) at').yd)

theorem val_costs (p : Lp) (c : Nat) : (valP p c).costs.length = p.costs.length := by simp [valP]

theorem val_has (p : Lp) (c j i : Nat) : hasF (valP p c) j i = hasF p j i := by
  unfold hasF
  rw [val_costs]
  rfl

theorem val_cost (p : Lp) (n c j : Nat) (hn : n = p.costs.length) : (valP p c).costs[j]?.getD 0 = if c < n then (if j = c then 1 else 0) else (if j < n then -hasF p j (c - n) else 0) := by
  show ((List.range p.costs.length).map _)[j]?.getD 0 = _
  rw [range_getD, ← hn]
  by_cases hj : j < n
  · rw [if_pos hj]
    split
    · rfl
    · rw [has_row p n j (c - n) hn hj]
  · rw [if_neg hj]
    split
    · rw [if_neg (by omega)]
    · rfl

theorem val_may (p : Lp) (c : Nat) (hmay : p.may = true) : (valP p c).may = true := by
  obtain ⟨h1, h2, h3, h4⟩ := p.may_of hmay
  unfold Lp.may at hmay ⊢
  rw [val_costs]
  simp only [Bool.and_eq_true, decide_eq_true_eq] at hmay ⊢
  refine ⟨⟨⟨⟨⟨h1.1, h1.2⟩, ?_⟩, h3.1⟩, h3.2⟩, hmay.2⟩
  unfold withinB valP
  rw [List.all_eq_true]
  intro x hx
  obtain ⟨k, hk, rfl⟩ := List.mem_map.1 hx
  have hk' := List.mem_range.1 hk
  simp only [Bool.and_eq_true, decide_eq_true_eq]
  split
  · split <;> omega
  · have hb : -12 ≤ (p.rows[c - p.costs.length]?.getD ([], 0)).1[k]?.getD 0 ∧ (p.rows[c - p.costs.length]?.getD ([], 0)).1[k]?.getD 0 ≤ 12 := by
      by_cases hq : c - p.costs.length < p.rows.length
      · exact withinB_iff _ _ (p.row_of (by unfold Lp.may; simp only [Bool.and_eq_true, decide_eq_true_eq]; exact hmay) _ hq).2.1 (by omega) k
      · rw [List.getElem?_eq_none (l := p.rows) (by omega)]; simp
    omega

theorem chosen_val (p : Lp) (c : Nat) (at' : List Int) (m : Nat) : chosenL (valP p c) at' m = chosenL p at' m := by
  unfold chosenL
  refine List.map_congr_left fun k _ => ?_
  exact List.map_congr_left fun i _ => val_has p c _ i

theorem val_den (p : Lp) (c : Nat) (at' : List Int) (m : Nat) : denL (valP p c) at' m = denL p at' m := by
  unfold denL
  rw [chosen_val]

/-- What the prices come to. -/
theorem prices_ok (p : Lp) (at' : List Int) (m n c : Nat) (hmay : p.may = true) (hm : m = p.rows.length) (hn : n = p.costs.length) (hr : rightB at' m (n + m) = true) (hd : denL p at' m ≠ 0) (hc : c < n + m) :
    (pricesN p at' c).length = m ∧ (∀ i : Nat, (pricesN p at' c)[i]?.getD 0 ≤ 1073741824) ∧ ∃ e : Int, 0 < e ∧ ∀ k, k < m → sumN (fun i => hasF p (atF at' k) i * (pricesN p at' c)[i]?.getD 0) m = if atF at' k = c then e else 0 := by
  have h1 : 1 ≤ m := by have := (p.may_of hmay).2.2.1.1; omega
  have h4 : m ≤ 4 := by have := (p.may_of hmay).2.2.1.2; omega
  have vm := val_may p c hmay
  have vr : m = (valP p c).rows.length := hm
  have vn : n = (valP p c).costs.length := by rw [val_costs]; exact hn
  have hd' : denL (valP p c) at' m ≠ 0 := by rw [val_den]; exact hd
  have hb := den_bd12 (valP p c) at' m vm h1 h4
  have pb := price_bd2 (valP p c) at' m vm vr
  obtain ⟨g, g0, q1, q2, q3, q4, q5, q6, q7⟩ := pt_ok (priceL (valP p c) at' m) (denL (valP p c) at' m) hd' (by omega) (fun j => by have := pb j; omega) (by unfold priceL sharesL; simp; omega)
  have hy : (look (valP p c) at').y = (pt (priceL (valP p c) at' m) (denL (valP p c) at' m)).1 ∧ (look (valP p c) at').yd = (pt (priceL (valP p c) at' m) (denL (valP p c) at' m)).2.1 := by
    unfold look
    rw [if_neg (by simp [vm]), if_neg (by rw [← vr, ← vn, hr]; decide), if_neg (by rw [← vr]; exact hd'), ← vr]
    exact ⟨rfl, rfl⟩
  have hyl : (look (valP p c) at').y.length = m := by rw [hy.1, q2]; unfold priceL sharesL; simp
  have hyd : 1 ≤ (look (valP p c) at').yd ∧ (look (valP p c) at').yd ≤ 497664 := by rw [hy.2]; omega
  have hyb : ∀ i : Nat, (look (valP p c) at').y[i]?.getD 0 ≤ 796262400 := fun i => by
    rw [hy.1]
    have := q7 i
    have := pb i
    omega
  have hcost : ∀ k, k < m → sumN (fun i => hasF p (atF at' k) i * (look (valP p c) at').y[i]?.getD 0) m = (valP p c).costs[atF at' k]?.getD 0 * (look (valP p c) at').yd := by
    intro k hk
    have hg := comes_gain (valP p c) at' m n vm vr hr k hk
    rw [gain_eq (valP p c) at' m (n + m) _ vr (atF_lt at' (n + m) m hr k hk)] at hg
    refine Int.eq_of_mul_eq_mul_left g0 ?_
    rw [← sumN_mul]
    have e1 : sumN (fun i => g * (hasF p (atF at' k) i * (look (valP p c) at').y[i]?.getD 0)) m = sumN (fun i => hasF (valP p c) (atF at' k) i * (priceL (valP p c) at' m)[i]?.getD 0) m := sumN_congr _ _ _ fun i _ => by
      rw [val_has, q3 i, hy.1]; grind
    rw [e1]
    have e2 : g * ((valP p c).costs[atF at' k]?.getD 0 * (look (valP p c) at').yd) = (valP p c).costs[atF at' k]?.getD 0 * denL (valP p c) at' m := by
      rw [q4, hy.2]; grind
    omega
  have hpn : pricesN p at' c = if c < n then (look (valP p c) at').y else (look (valP p c) at').y.set (c - n) ((look (valP p c) at').y[c - n]?.getD 0 + (look (valP p c) at').yd) := by unfold pricesN; rw [← hn]
  rw [hpn]
  clear hpn hy q1 q2 q3 q4 q5 q6 q7
  generalize (look (valP p c) at').y = y at *
  generalize (look (valP p c) at').yd = yd at *
  by_cases hcn : c < n
  · rw [if_pos hcn]
    refine ⟨hyl, fun i => by have := hyb i; omega, yd, by omega, fun k hk => ?_⟩
    rw [hcost k hk, val_cost p n c _ hn, if_pos hcn]
    split <;> omega
  · rw [if_neg hcn]
    have hset : ∀ i : Nat, i < m → (y.set (c - n) (y[c - n]?.getD 0 + yd))[i]?.getD 0 = y[i]?.getD 0 + (if i = c - n then yd else 0) := by
      intro i hi
      rw [List.getElem?_set]
      by_cases hic : c - n = i
      · subst hic
        rw [if_pos rfl, if_pos (by omega), if_pos rfl]; rfl
      · rw [if_neg hic, if_neg (fun e => hic e.symm)]; omega
    refine ⟨by rw [List.length_set]; exact hyl, fun i => ?_, yd, by omega, fun k hk => ?_⟩
    · by_cases hi : i < m
      · rw [hset i hi]
        have := hyb i
        split <;> omega
      · rw [List.getElem?_eq_none (by rw [List.length_set]; omega)]; simp
    · have e1 : sumN (fun i => hasF p (atF at' k) i * (y.set (c - n) (y[c - n]?.getD 0 + yd))[i]?.getD 0) m = sumN (fun i => hasF p (atF at' k) i * y[i]?.getD 0 + hasF p (atF at' k) i * (if i = c - n then yd else 0)) m := sumN_congr _ _ _ fun i hi => by rw [hset i hi]; grind
      have e2 : sumN (fun i => hasF p (atF at' k) i * (if i = c - n then yd else 0)) m = hasF p (atF at' k) (c - n) * yd := by
        rw [sumN_only _ (c - n) m (by omega) fun i _ hne => by show hasF p (atF at' k) i * (if i = c - n then yd else 0) = 0; rw [if_neg hne]; omega]
        show hasF p (atF at' k) (c - n) * (if c - n = c - n then yd else 0) = _
        rw [if_pos rfl]
      rw [e1, sumN_add, e2, hcost k hk, val_cost p n c _ hn, if_neg hcn]
      generalize atF at' k = j
      by_cases hj : j < n
      · rw [if_pos hj, if_neg (by omega)]; grind
      · obtain ⟨q, rfl⟩ : ∃ q, j = n + q := ⟨j - n, by omega⟩
        rw [if_neg hj, has_slack p n q (c - n) hn]
        by_cases hq : n + q = c
        · rw [if_pos hq, if_pos (by omega)]; omega
        · rw [if_neg hq, if_neg (by omega)]; omega

/-- The answer that refused holds for proved. -/
def noAns (p : Lp) (at' : List Int) (c : Nat) : Ans := ⟨3, [], 0, pricesN p at' c, 1, [], 0, 0, 0⟩

/-- Where a corner refuses, the prices of its column prove it. -/
theorem refuses_holds (p : Lp) (at' : List Int) (m n c : Nat) (y : Nat → Int) (D : Int) (hmay : p.may = true) (hm : m = p.rows.length) (hn : n = p.costs.length) (h : Refuses p at' m n c y D) : holds p (noAns p at' c) = true := by
  have h1 : 1 ≤ m := by have := (p.may_of hmay).2.2.1.1; omega
  have h4 : m ≤ 4 := by have := (p.may_of hmay).2.2.1.2; omega
  obtain ⟨k0, hk0, hkc⟩ := (inB_true at' m c).1 h.col
  have hcN : c < n + m := by rw [← hkc]; exact atF_lt at' (n + m) m h.right k0 hk0
  obtain ⟨p1, p2, e, he, p3⟩ := prices_ok p at' m n c hmay hm hn h.right h.den hcN
  have hprop : ∀ i, i < m → y i * e = (pricesN p at' c)[i]?.getD 0 * D := by
    intro i hi
    have := left_none p at' m h1 h4 h.den (fun i => y i * e - (pricesN p at' c)[i]?.getD 0 * D) (fun k hk => by
      have a1 : sumN (fun i => hasF p (atF at' k) i * (y i * e - (pricesN p at' c)[i]?.getD 0 * D)) m = sumN (fun i => e * (hasF p (atF at' k) i * y i) + (-D) * (hasF p (atF at' k) i * (pricesN p at' c)[i]?.getD 0)) m := sumN_congr _ _ _ fun i _ => by grind
      rw [a1, sumN_add, sumN_mul, sumN_mul, p3 k hk, h.own _ ((inB_true at' m _).2 ⟨k, hk, rfl⟩)]
      split <;> grind) i hi
    have this' : y i * e - (pricesN p at' c)[i]?.getD 0 * D = 0 := this
    omega
  rw [holds_nothing p _ hmay rfl]
  simp only [Bool.and_eq_true]
  refine ⟨?_, never_nothing p m n hmay hm hn y h.never (noAns p at' c) rfl p1 (fun i _ => p2 i) e D he h.pos hprop⟩
  exact ⟨⟨rfl, rfl⟩, rfl⟩

end Num
end Go.Proofs.YtloncgmgcnaalaaGreat
