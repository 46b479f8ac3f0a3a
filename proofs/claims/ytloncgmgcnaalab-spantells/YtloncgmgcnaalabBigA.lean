/- Corners of programs whose costs are of any size, in plain numbers: one without gains is found, or a way that rises without end. -/
import Derived.Test.YtloncgmgcnaalabSlvA
namespace Go.Proofs.Ytloncgmgcnaalab
namespace Num

theorem comes_gain_b (p : Lp) (at' : List Int) (m n : Nat) (h1 : 1 ≤ m) (h4 : m ≤ 4) (hm : m = p.rows.length) (hr : rightB at' m (n + m) = true) (k : Nat) (hk : k < m) : (gainL p at' m (n + m))[atF at' k]?.getD 0 = 0 := by
  have hsq := turn_sq _ m (chosen_sq p at' m)
  have hc := cramer m (turnL (chosenL p at' m)) (worthsL p at' m) hsq (by simp [worthsL]) h1 h4 k hk
  rw [vol_turn m _ (chosen_sq p at' m) h1 h4] at hc
  have e0 : (worthsL p at' m)[k]?.getD 0 = p.costs[atF at' k]?.getD 0 := by unfold worthsL; rw [range_getD, if_pos hk]
  rw [e0] at hc
  unfold gainL
  rw [range_getD, if_pos (atF_lt at' (n + m) m hr k hk)]
  unfold gainF
  rw [← hm]
  have e1 : dotN ((List.range m).map (hasF p (atF at' k))) (priceL p at' m) m = crm (turnL (chosenL p at' m)) (worthsL p at' m) m k := by
    unfold crm
    rw [dotN_sum, dotN_sum]
    refine sumN_congr _ _ _ fun i hi => ?_
    rw [range_getD, if_pos hi, range_getD, if_pos hi, Int.mul_comm]
    congr 1
    rw [← down_turn]
    exact (at2_grid (fun i k => hasF p (atF at' k) i) m i k hi hk).symm
  rw [e1, hc]
  show p.costs[atF at' k]?.getD 0 * vol (chosenL p at' m) none4 - vol (chosenL p at' m) none4 * p.costs[atF at' k]?.getD 0 = 0
  rw [Int.mul_comm]; omega

theorem NextOk.out_b {p : Lp} {at' at2' : List Int} {m n s k : Nat} (h : NextOk p at' at2' m (n + m) s k) (h1 : 1 ≤ m) (h4 : m ≤ 4) (hm : m = p.rows.length) : inB at' m s = false := by
  cases hb : inB at' m s with
  | false => rfl
  | true =>
    obtain ⟨i, hi, hs⟩ := (inB_true at' m s).1 hb
    have := comes_gain_b p at' m n h1 h4 hm h.right i hi
    have h2 := h.sg
    rw [← hs, this] at h2
    omega

theorem steps_of_b (p : Lp) (m n : Nat) (h1 : 1 ≤ m) (h4 : m ≤ 4) (hm : m = p.rows.length) (ats : Nat → List Int) (ss ks : Nat → Nat) (K : Nat) (hx : ∀ q j : Nat, q ≤ K → 0 ≤ sgD p (ats q) m * (xL p (ats q) m (n + m))[j]?.getD 0) (hd : ∀ q, q ≤ K → denL p (ats q) m ≠ 0)
    (h : ∀ q, q < K → NextOk p (ats q) (ats (q + 1)) m (n + m) (ss q) (ks q)) :
    Steps (n + m) m (fun j => p.costs[j]?.getD 0) (fun i j => hasF p j i) (fun q j => inB (ats q) m j) (fun q j => sgD p (ats q) m * (xL p (ats q) m (n + m))[j]?.getD 0) (fun q => sgD p (ats q) m * denL p (ats q) m)
      (fun q j => sgD p (ats q) m * (gainL p (ats q) m (n + m))[j]?.getD 0) (fun q => sgD p (ats q) m * denL p (ats q) m) (fun q i => sgD p (ats q) m * (priceL p (ats q) m)[i]?.getD 0)
      (fun q j => sgD p (ats q) m * dirF p (ats q) m (n + m) (ss q) j) ss (fun q => atF (ats q) (ks q)) K := by
  have hso : ∀ q, q < K → inB (ats q) m (ss q) = false := fun q hq => (h q hq).out_b h1 h4 hm
  have hdo : ∀ q, q < K → dirF p (ats q) m (n + m) (ss q) (atF (ats q) (ks q)) = -(wayL p (ats q) m (ss q))[ks q]?.getD 0 := fun q hq => dir_in p (ats q) m (n + m) (ss q) (ks q) (h q hq).right (h q hq).km (hso q hq)
  refine ⟨fun q hq => sgD_pos p _ m (hd q hq), fun q hq => sgD_pos p _ m (hd q (by omega)), fun q j hq => hx q j hq, ?_, ?_, ?_, ?_, ?_, fun q hq => (h q hq).sN, fun q hq => (h q hq).sg, fun q j hq hj => (h q hq).sl j hj, fun q hq => atF_lt _ _ m (h q hq).right _ (h q hq).km, fun q hq => (inB_true _ _ _).2 ⟨_, (h q hq).km, rfl⟩, ?_, ?_, fun q j hq => (h q hq).inn j, ?_⟩
  · intro q j hq hb
    obtain ⟨i, hi, rfl⟩ := (inB_true _ _ _).1 hb
    show sgD p (ats q) m * _ = 0
    rw [comes_gain_b p (ats q) m n h1 h4 hm (h q hq).right i hi]; omega
  · intro q j hq hj
    show sgD p (ats q) m * _ = _
    unfold gainL
    rw [range_getD, if_pos hj]
    unfold gainF
    rw [← hm, dotN_sum]
    have e : sumN (fun i => sgD p (ats q) m * (priceL p (ats q) m)[i]?.getD 0 * hasF p j i) m = sgD p (ats q) m * sumN (fun i => ((List.range m).map (hasF p j))[i]?.getD 0 * (priceL p (ats q) m)[i]?.getD 0) m := by
      rw [← sumN_mul]
      refine sumN_congr _ _ _ fun i hi => ?_
      rw [range_getD, if_pos hi]; grind
    rw [e]; grind
  · intro q i hq hi
    have e : sumN (fun j => hasF p j i * (sgD p (ats q) m * dirF p (ats q) m (n + m) (ss q) j)) (n + m) = sgD p (ats q) m * sumN (fun j => hasF p j i * dirF p (ats q) m (n + m) (ss q) j) (n + m) := by
      rw [← sumN_mul]; exact sumN_congr _ _ _ fun j _ => by grind
    show sumN (fun j => hasF p j i * (sgD p (ats q) m * dirF p (ats q) m (n + m) (ss q) j)) (n + m) = 0
    rw [e, dir_level p (ats q) m (n + m) (ss q) (h q hq).right h1 h4 (h q hq).sN (hso q hq) i hi]; omega
  · intro q j hq hb hne
    show sgD p (ats q) m * _ = 0
    rw [dir_not p (ats q) m (n + m) (ss q) j hb hne]; omega
  · intro q hq
    show 0 < sgD p (ats q) m * dirF p (ats q) m (n + m) (ss q) (ss q)
    unfold dirF
    rw [if_pos rfl]
    exact sgD_pos p _ m (hd q (by omega))
  · intro q hq
    show sgD p (ats q) m * dirF p (ats q) m (n + m) (ss q) (atF (ats q) (ks q)) < 0
    rw [hdo q hq]
    have := (h q hq).falls
    rw [Int.mul_neg]; omega
  · intro q j hq hb hdn he
    obtain ⟨l, hl, rfl⟩ := (inB_true _ _ _).1 hb
    have hdl := dir_in p (ats q) m (n + m) (ss q) l (h q hq).right hl (hso q hq)
    rw [hdl] at hdn he
    rw [hdo q hq] at he
    rw [Int.mul_neg] at hdn
    have hsq := sgD_sq p (ats q) m
    have e2 : (xL p (ats q) m (n + m))[atF (ats q) (ks q)]?.getD 0 * (wayL p (ats q) m (ss q))[l]?.getD 0 = (xL p (ats q) m (n + m))[atF (ats q) l]?.getD 0 * (wayL p (ats q) m (ss q))[ks q]?.getD 0 := by
      generalize (xL p (ats q) m (n + m))[atF (ats q) (ks q)]?.getD 0 = x1 at *
      generalize (wayL p (ats q) m (ss q))[l]?.getD 0 = w1 at *
      generalize (xL p (ats q) m (n + m))[atF (ats q) l]?.getD 0 = x2 at *
      generalize (wayL p (ats q) m (ss q))[ks q]?.getD 0 = w2 at *
      generalize sgD p (ats q) m = g at *
      have a1 : (g * g) * (x1 * w1) = (g * g) * (x2 * w2) := by grind
      rw [hsq] at a1
      omega
    have hkl := (h q hq).least l hl (by omega) e2
    show atF (ats q) (ks q) ≤ atF (ats q) l
    by_cases hkl2 : ks q = l
    · rw [hkl2]; exact Nat.le_refl _
    · have := atF_rise (ats q) _ m (h q hq).right l hl (ks q) (by omega); omega
  · intro q j hq hj
    have he := exchange p (ats q) (ats (q + 1)) m (n + m) (ss q) (ks q) (h q hq).right (h q hq).right2 h1 h4 (h q hq).sN (hso q hq) (h q hq).km (h q hq).inn (h q hq).den2 j hj
    rw [hdo q hq]
    have hsq := sgD_sq p (ats q) m
    generalize (xL p (ats (q + 1)) m (n + m))[j]?.getD 0 = y1 at *
    generalize (xL p (ats q) m (n + m))[j]?.getD 0 = y2 at *
    generalize (xL p (ats q) m (n + m))[atF (ats q) (ks q)]?.getD 0 = y3 at *
    generalize (wayL p (ats q) m (ss q))[ks q]?.getD 0 = w at *
    generalize dirF p (ats q) m (n + m) (ss q) j = dd at *
    generalize denL p (ats q) m = D at *
    generalize denL p (ats (q + 1)) m = D2 at *
    generalize sgD p (ats q) m = g at *
    generalize sgD p (ats (q + 1)) m = g2 at *
    have a1 : g2 * y1 * (g * D) * (-(g * -w)) = g2 * (g * g) * (y1 * D * w) := by grind
    have a2 : g2 * D2 * (g * y2 * (-(g * -w)) + g * y3 * (g * dd)) = g2 * (g * g) * (D2 * (y2 * w + y3 * dd)) := by grind
    rw [a1, a2, he]

theorem walk_new_b (p : Lp) (m n : Nat) (h1 : 1 ≤ m) (h4 : m ≤ 4) (hm : m = p.rows.length) (ats : Nat → List Int) (ss ks : Nat → Nat) (K : Nat) (hx : ∀ q j : Nat, q ≤ K → 0 ≤ sgD p (ats q) m * (xL p (ats q) m (n + m))[j]?.getD 0) (hd : ∀ q, q ≤ K → denL p (ats q) m ≠ 0)
    (h : ∀ q, q < K → NextOk p (ats q) (ats (q + 1)) m (n + m) (ss q) (ks q)) (a b : Nat) (hab : a < b) (hb : b ≤ K) : ats a ≠ ats b := by
  intro e
  exact (steps_of_b p m n h1 h4 hm ats ss ks K hx hd h).never_back a b hab hb (fun j => by show inB (ats a) m j = inB (ats b) m j; rw [e]) (fun j _ => by show sgD p (ats a) m * _ * _ = sgD p (ats b) m * _ * _; rw [e])

theorem next_above_b (p : Lp) (at' at2' : List Int) (m n s k : Nat) (h1 : 1 ≤ m) (h4 : m ≤ 4) (hm : m = p.rows.length) (h : NextOk p at' at2' m (n + m) s k) (hx : ∀ j : Nat, 0 ≤ sgD p at' m * (xL p at' m (n + m))[j]?.getD 0)
    (hn : ∀ l, l < m → 0 < sgD p at' m * (wayL p at' m s)[l]?.getD 0 → (sgD p at' m * (xL p at' m (n + m))[atF at' k]?.getD 0) * (sgD p at' m * (wayL p at' m s)[l]?.getD 0) ≤ (sgD p at' m * (xL p at' m (n + m))[atF at' l]?.getD 0) * (sgD p at' m * (wayL p at' m s)[k]?.getD 0)) :
    ∀ j : Nat, 0 ≤ sgD p at2' m * (xL p at2' m (n + m))[j]?.getD 0 := by
  intro j
  have hsb := h.out_b h1 h4 hm
  by_cases hj : j < n + m
  · have he := exchange p at' at2' m (n + m) s k h.right h.right2 h1 h4 h.sN hsb h.km h.inn h.den2 j hj
    have hsq := sgD_sq p at' m
    have hD := sgD_pos p at' m h.den
    have hD2 := sgD_pos p at2' m h.den2
    have hw := h.falls
    have hxj := hx j
    have hxo := hx (atF at' k)
    have hR : 0 ≤ (sgD p at' m * (xL p at' m (n + m))[j]?.getD 0) * (sgD p at' m * (wayL p at' m s)[k]?.getD 0) + (sgD p at' m * (xL p at' m (n + m))[atF at' k]?.getD 0) * (sgD p at' m * dirF p at' m (n + m) s j) := by
      cases hb : inB at' m j with
      | false =>
        by_cases hjs : j = s
        · subst hjs
          have : dirF p at' m (n + m) j j = denL p at' m := by unfold dirF; rw [if_pos rfl]
          rw [this]
          have a1 := Int.mul_nonneg hxj (Int.le_of_lt hw)
          have a2 := Int.mul_nonneg hxo (Int.le_of_lt hD)
          omega
        · rw [dir_not p at' m (n + m) s j hb hjs, Int.mul_zero, Int.mul_zero, Int.add_zero]
          exact Int.mul_nonneg hxj (Int.le_of_lt hw)
      | true =>
        obtain ⟨l, hl, rfl⟩ := (inB_true at' m j).1 hb
        rw [dir_in p at' m (n + m) s l h.right hl hsb, Int.mul_neg, Int.mul_neg]
        by_cases hwl : 0 < sgD p at' m * (wayL p at' m s)[l]?.getD 0
        · have := hn l hl hwl
          omega
        · have a1 := Int.mul_nonneg hxj (Int.le_of_lt hw)
          have a2 := Int.mul_nonpos_of_nonneg_of_nonpos hxo (Int.not_lt.1 hwl)
          omega
    generalize (xL p at2' m (n + m))[j]?.getD 0 = y1 at *
    generalize (xL p at' m (n + m))[j]?.getD 0 = y2 at *
    generalize (xL p at' m (n + m))[atF at' k]?.getD 0 = y3 at he hR
    generalize (wayL p at' m s)[k]?.getD 0 = w at he hR hw
    generalize dirF p at' m (n + m) s j = dd at *
    generalize denL p at' m = D at *
    generalize denL p at2' m = D2 at *
    generalize sgD p at' m = g at *
    generalize sgD p at2' m = g2 at *
    have e : (g2 * y1) * ((g * D) * (g * w)) = (g2 * D2) * ((g * y2) * (g * w) + (g * y3) * (g * dd)) := by
      have a1 : (g2 * y1) * ((g * D) * (g * w)) = g2 * (g * g) * (y1 * D * w) := by grind
      have a2 : (g2 * D2) * ((g * y2) * (g * w) + (g * y3) * (g * dd)) = g2 * (g * g) * (D2 * (y2 * w + y3 * dd)) := by grind
      rw [a1, a2, he]
    have q1 := Int.mul_pos hD hw
    have q2 := Int.mul_nonneg (Int.le_of_lt hD2) hR
    by_cases hneg : 0 ≤ g2 * y1
    · exact hneg
    · have := Int.mul_neg_of_neg_of_pos (Int.not_le.1 hneg) q1
      omega
  · rw [List.getElem?_eq_none (by unfold xL; rw [spread_len]; omega)]
    show 0 ≤ sgD p at2' m * 0
    omega

theorem walk_ends_b (p : Lp) (m n : Nat) (h1 : 1 ≤ m) (h4 : m ≤ 4) (hm : m = p.rows.length) (h8 : n + m ≤ 8) (ats : Nat → List Int) (ss ks : Nat → Nat) (K : Nat) (hx : ∀ q j : Nat, q ≤ K → 0 ≤ sgD p (ats q) m * (xL p (ats q) m (n + m))[j]?.getD 0) (hd : ∀ q, q ≤ K → denL p (ats q) m ≠ 0) (hr : ∀ q, q ≤ K → rightB (ats q) m (n + m) = true)
    (h : ∀ q, q < K → NextOk p (ats q) (ats (q + 1)) m (n + m) (ss q) (ks q)) : K < 4096 := by
  by_cases hK : K < 4096
  · exact hK
  · obtain ⟨i, j, hij, hj, he⟩ := pigeon 4096 (fun q => codeN (ats q)) fun i hi => code_lt _ m _ (hr i (by omega)) h8
    exact absurd (code_one _ _ m _ (hr i (by omega)) (hr j (by omega)) h4 h8 he) (walk_new_b p m n h1 h4 hm ats ss ks K hx hd h i j hij (by omega))

theorem next_of_b (p : Lp) (at' : List Int) (m n s k : Nat) (h1 : 1 ≤ m) (h4 : m ≤ 4) (hm : m = p.rows.length) (hr : rightB at' m (n + m) = true) (hd : denL p at' m ≠ 0) (hx : ∀ j : Nat, 0 ≤ sgD p at' m * (xL p at' m (n + m))[j]?.getD 0)
    (hs : s < n + m) (sg : 0 < sgD p at' m * (gainL p at' m (n + m))[s]?.getD 0) (sl : ∀ j : Nat, j < s → sgD p at' m * (gainL p at' m (n + m))[j]?.getD 0 ≤ 0)
    (hk : k < m) (falls : 0 < sgD p at' m * (wayL p at' m s)[k]?.getD 0)
    (near : ∀ l, l < m → 0 < sgD p at' m * (wayL p at' m s)[l]?.getD 0 → (sgD p at' m * (xL p at' m (n + m))[atF at' k]?.getD 0) * (sgD p at' m * (wayL p at' m s)[l]?.getD 0) ≤ (sgD p at' m * (xL p at' m (n + m))[atF at' l]?.getD 0) * (sgD p at' m * (wayL p at' m s)[k]?.getD 0) ∧
      ((sgD p at' m * (xL p at' m (n + m))[atF at' k]?.getD 0) * (sgD p at' m * (wayL p at' m s)[l]?.getD 0) = (sgD p at' m * (xL p at' m (n + m))[atF at' l]?.getD 0) * (sgD p at' m * (wayL p at' m s)[k]?.getD 0) → k ≤ l)) :
    ∃ k', k' < m ∧ (∀ i, i < k' → restF at' k i < s) ∧ (∀ i, k' ≤ i → i + 1 < m → s < restF at' k i) ∧ NextOk p at' (swapI at' k k' s) m (n + m) s k ∧ ∀ j : Nat, 0 ≤ sgD p (swapI at' k k' s) m * (xL p (swapI at' k k' s) m (n + m))[j]?.getD 0 := by
  have hsb : inB at' m s = false := by
    cases hb : inB at' m s with
    | false => rfl
    | true =>
      obtain ⟨i, hi, he⟩ := (inB_true at' m s).1 hb
      have := comes_gain_b p at' m n h1 h4 hm hr i hi
      rw [← he, this] at sg
      omega
  obtain ⟨k', a1, a2, a3⟩ := place_of (restF at' k) s (m - 1) (fun i j hij hj => rest_rise at' k m (n + m) hr i j hij (by omega)) (fun i hi => by
    unfold restF
    exact (inB_false at' m s).1 hsb _ (by split <;> omega))
  have hk' : k' < m := by omega
  have hok : NextOk p at' (swapI at' k k' s) m (n + m) s k := by
    refine ⟨hr, swap_right at' k k' s m (n + m) hr hk hk' hs a2 (fun i hi hi2 => a3 i hi (by omega)), hd, ?_, hs, sg, sl, hk, falls, ?_, swap_inB at' k k' s m (n + m) hr hk hk'⟩
    · rw [den_swap p at' k k' s m (right_all at' m _ hr).1 h1 h4 hk hk']
      have hw : (wayL p at' m s)[k]?.getD 0 ≠ 0 := by intro e; rw [e] at falls; omega
      unfold sgn
      split <;> omega
    · intro l hl hwl he
      refine (near l hl hwl).2 ?_
      generalize (xL p at' m (n + m))[atF at' k]?.getD 0 = x1 at *
      generalize (wayL p at' m s)[l]?.getD 0 = w1 at *
      generalize (xL p at' m (n + m))[atF at' l]?.getD 0 = x2 at *
      generalize (wayL p at' m s)[k]?.getD 0 = w2 at *
      generalize sgD p at' m = g at *
      grind
  exact ⟨k', hk', a2, fun i hi hi2 => a3 i hi (by omega), hok, next_above_b p at' _ m n s k h1 h4 hm hok hx fun l hl hwl => (near l hl hwl).1⟩

theorem dir_rise_b (p : Lp) (at' : List Int) (m n s : Nat) (h1 : 1 ≤ m) (h4 : m ≤ 4) (hm : m = p.rows.length) (hr : rightB at' m (n + m) = true) (hd : denL p at' m ≠ 0) (hs : s < n + m) (hsb : inB at' m s = false) :
    sumN (fun j => p.costs[j]?.getD 0 * dirF p at' m (n + m) s j) (n + m) = (gainL p at' m (n + m))[s]?.getD 0 := by
  have e0 : sumN (fun j => (gainL p at' m (n + m))[j]?.getD 0 * dirF p at' m (n + m) s j) (n + m) = (gainL p at' m (n + m))[s]?.getD 0 * denL p at' m := by
    rw [sumN_only _ s _ hs]
    · show _ * dirF p at' m (n + m) s s = _
      unfold dirF
      rw [if_pos rfl]
    · intro j _ hjs
      show _ * dirF p at' m (n + m) s j = 0
      cases hb : inB at' m j with
      | false => rw [dir_not p at' m (n + m) s j hb hjs]; omega
      | true =>
        obtain ⟨i, hi, rfl⟩ := (inB_true at' m j).1 hb
        rw [comes_gain_b p at' m n h1 h4 hm hr i hi]; omega
  have e1 : sumN (fun j => (gainL p at' m (n + m))[j]?.getD 0 * dirF p at' m (n + m) s j) (n + m) = sumN (fun j => denL p at' m * (p.costs[j]?.getD 0 * dirF p at' m (n + m) s j) + (-1) * sumN (fun i => hasF p j i * (priceL p at' m)[i]?.getD 0 * dirF p at' m (n + m) s j) m) (n + m) := by
    refine sumN_congr _ _ _ fun j hj => ?_
    rw [gain_eq p at' m (n + m) j hm hj]
    have : sumN (fun i => hasF p j i * (priceL p at' m)[i]?.getD 0 * dirF p at' m (n + m) s j) m = dirF p at' m (n + m) s j * sumN (fun i => hasF p j i * (priceL p at' m)[i]?.getD 0) m := by
      rw [← sumN_mul]; exact sumN_congr _ _ _ fun i _ => by grind
    rw [this]; grind
  have e2 : sumN (fun j => sumN (fun i => hasF p j i * (priceL p at' m)[i]?.getD 0 * dirF p at' m (n + m) s j) m) (n + m) = 0 := by
    rw [sumN_swap]
    refine (sumN_congr _ (fun _ => 0) _ fun i hi => ?_).trans (sumN_zero m)
    have : sumN (fun j => hasF p j i * (priceL p at' m)[i]?.getD 0 * dirF p at' m (n + m) s j) (n + m) = (priceL p at' m)[i]?.getD 0 * sumN (fun j => hasF p j i * dirF p at' m (n + m) s j) (n + m) := by
      rw [← sumN_mul]; exact sumN_congr _ _ _ fun j _ => by grind
    rw [this, dir_level p at' m (n + m) s hr h1 h4 hs hsb i hi]; omega
  rw [e1, sumN_add, sumN_mul, sumN_mul, e2] at e0
  have e3 : denL p at' m * sumN (fun j => p.costs[j]?.getD 0 * dirF p at' m (n + m) s j) (n + m) = denL p at' m * (gainL p at' m (n + m))[s]?.getD 0 := by rw [Int.mul_comm (denL p at' m) ((gainL p at' m (n + m))[s]?.getD 0)]; omega
  exact Int.eq_of_mul_eq_mul_left hd e3

theorem dir_ray_b (p : Lp) (at' : List Int) (m n s : Nat) (h1 : 1 ≤ m) (h4 : m ≤ 4) (hm : m = p.rows.length) (hg : Good p at' m n) (hs : s < n + m) (hsb : inB at' m s = false) (h0 : 0 < sgD p at' m * (gainL p at' m (n + m))[s]?.getD 0) (hw : ∀ k, k < m → sgD p at' m * (wayL p at' m s)[k]?.getD 0 ≤ 0) :
    Ray p m n (fun j => sgD p at' m * dirF p at' m (n + m) s j) := by
  refine ⟨fun j hj => ?_, fun i hi => ?_, ?_⟩
  · show 0 ≤ sgD p at' m * dirF p at' m (n + m) s j
    by_cases hjs : j = s
    · subst hjs
      unfold dirF
      rw [if_pos rfl]
      exact Int.le_of_lt (sgD_pos p at' m hg.den)
    · cases hb : inB at' m j with
      | false => rw [dir_not p at' m (n + m) s j hb hjs]; omega
      | true =>
        obtain ⟨k, hk, rfl⟩ := (inB_true at' m j).1 hb
        rw [dir_in p at' m (n + m) s k hg.right hk hsb, Int.mul_neg]
        have := hw k hk
        omega
  · have e : sumN (fun j => hasF p j i * (sgD p at' m * dirF p at' m (n + m) s j)) (n + m) = sgD p at' m * sumN (fun j => hasF p j i * dirF p at' m (n + m) s j) (n + m) := by
      rw [← sumN_mul]; exact sumN_congr _ _ _ fun j _ => by grind
    show sumN (fun j => hasF p j i * (sgD p at' m * dirF p at' m (n + m) s j)) (n + m) = 0
    rw [e, dir_level p at' m (n + m) s hg.right h1 h4 hs hsb i hi]; omega
  · have e : sumN (fun j => p.costs[j]?.getD 0 * (sgD p at' m * dirF p at' m (n + m) s j)) (n + m) = sgD p at' m * sumN (fun j => p.costs[j]?.getD 0 * dirF p at' m (n + m) s j) (n + m) := by
      rw [← sumN_mul]; exact sumN_congr _ _ _ fun j _ => by grind
    show 0 < sumN (fun j => p.costs[j]?.getD 0 * (sgD p at' m * dirF p at' m (n + m) s j)) (n + m)
    rw [e, dir_rise_b p at' m n s h1 h4 hm hg.right hg.den hs hsb]
    exact h0

theorem map_sg (c : Int) (l : List Int) (j : Nat) : (l.map (c * ·))[j]?.getD 0 = c * l[j]?.getD 0 := by
  rw [List.getElem?_map]
  cases l[j]? with
  | none => simp
  | some x => simp

/-- One step from a corner that goes. -/
theorem step_b (p : Lp) (at' : List Int) (m n : Nat) (h1 : 1 ≤ m) (h4 : m ≤ 4) (hm : m = p.rows.length) (hg : Good p at' m n) : Top p at' m n ∨ (∃ r, Ray p m n r) ∨ ∃ nx s k, NextOk p at' nx m (n + m) s k ∧ Good p nx m n := by
  rcases first_ok ((gainL p at' m (n + m)).map (sgD p at' m * ·)) (n + m) with ⟨_, f2⟩ | ⟨s, f1, _, f3, f4⟩
  · exact Or.inl ⟨hg, fun j hj => by have := f2 j hj; rw [map_sg] at this; exact this⟩
  · rw [map_sg] at f3
    have f4' : ∀ j : Nat, j < s → sgD p at' m * (gainL p at' m (n + m))[j]?.getD 0 ≤ 0 := fun j hj => by have := f4 j hj; rw [map_sg] at this; exact this
    have hsb : inB at' m s = false := by
      cases hb : inB at' m s with
      | false => rfl
      | true =>
        obtain ⟨i, hi, he⟩ := (inB_true at' m s).1 hb
        have := comes_gain_b p at' m n h1 h4 hm hg.right i hi
        rw [← he, this] at f3
        omega
    have hv : ∀ k, k < m → ((spreadN (n + m) at' (wayL p at' m s) m).map (sgD p at' m * ·))[atF at' k]?.getD 0 = sgD p at' m * (wayL p at' m s)[k]?.getD 0 := fun k hk => by
      rw [map_sg, spread_in (n + m) at' _ m hg.right m (Nat.le_refl _) k hk]
    rcases out_ok at' ((xL p at' m (n + m)).map (sgD p at' m * ·)) ((spreadN (n + m) at' (wayL p at' m s) m).map (sgD p at' m * ·)) m with ⟨_, o2⟩ | ⟨o, o1, _, o3, o4⟩
    · exact Or.inr (Or.inl ⟨_, dir_ray_b p at' m n s h1 h4 hm hg f1 hsb f3 fun k hk => by rw [← hv k hk]; exact o2 k hk⟩)
    · rw [hv o o1] at o3
      obtain ⟨k', a1, a2, a3, a4, a5⟩ := next_of_b p at' m n s o h1 h4 hm hg.right hg.den hg.x f1 f3 f4' o1 o3 (fun l hl hlv => by
        have := o4 l hl (by rw [hv l hl]; exact hlv)
        rw [hv l hl, hv o o1, map_sg, map_sg] at this
        exact this)
      exact Or.inr (Or.inr ⟨_, s, o, a4, a4.right2, a4.den2, a5⟩)

/-- Where a corner goes, one without gains is found, or a way that rises without end: of costs of any size. -/
theorem top_or_ray_b (p : Lp) (at' : List Int) (m n : Nat) (h1 : 1 ≤ m) (h4 : m ≤ 4) (h8 : n + m ≤ 8) (hm : m = p.rows.length) (hg : Good p at' m n) : (∃ t, Top p t m n) ∨ ∃ r, Ray p m n r := by
  refine Classical.byContradiction fun hno => ?_
  have hT : ∀ t, ¬ Top p t m n := fun t h => hno (Or.inl ⟨t, h⟩)
  have hR : ∀ r, ¬ Ray p m n r := fun r h => hno (Or.inr ⟨r, h⟩)
  have go : ∀ q : { a : List Int // Good p a m n }, ∃ nx : { a : List Int // Good p a m n }, ∃ s k, NextOk p q.1 nx.1 m (n + m) s k := by
    intro q
    rcases step_b p q.1 m n h1 h4 hm q.2 with h | ⟨r, h⟩ | ⟨nx, s, k, h, h'⟩
    · exact absurd h (hT _)
    · exact absurd h (hR _)
    · exact ⟨⟨nx, h'⟩, s, k, h⟩
  let ats : Nat → { a : List Int // Good p a m n } := fun q => Nat.rec ⟨at', hg⟩ (fun _ r => Classical.choose (go r)) q
  have hs : ∀ q, ∃ s k, NextOk p (ats q).1 (ats (q + 1)).1 m (n + m) s k := fun q => Classical.choose_spec (go (ats q))
  have := walk_ends_b p m n h1 h4 hm h8 (fun q => (ats q).1) (fun q => Classical.choose (hs q)) (fun q => Classical.choose (Classical.choose_spec (hs q))) 4096 (fun q j _ => (ats q).2.x j) (fun q _ => (ats q).2.den) (fun q _ => (ats q).2.right) (fun q _ => Classical.choose_spec (Classical.choose_spec (hs q)))
  omega

end Num
end Go.Proofs.Ytloncgmgcnaalab
