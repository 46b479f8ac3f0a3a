/- Columns that are independent: there are as many as rows at most, they can be filled up, and as many as rows have a volume. In plain numbers. -/
import Derived.Test.YtloncgmgcnaalaaGreatWalkQ
namespace Go.Proofs.YtloncgmgcnaalaaGreat
namespace Num

/-- A sum over listed places. -/
def sumL (f : Nat → Int) : List Nat → Int
  | [] => 0
  | j :: t => f j + sumL f t

theorem sumL_congr (f g : Nat → Int) : ∀ l : List Nat, (∀ j ∈ l, f j = g j) → sumL f l = sumL g l
  | [], _ => rfl
  | j :: t, h => by
    show f j + sumL f t = g j + sumL g t
    rw [h j (by simp), sumL_congr f g t fun i hi => h i (List.mem_cons_of_mem _ hi)]

theorem sumL_zero : ∀ l : List Nat, sumL (fun _ => 0) l = 0
  | [] => rfl
  | _ :: t => by show 0 + sumL (fun _ => 0) t = 0; rw [sumL_zero t]; rfl

theorem sumL_add (f g : Nat → Int) : ∀ l : List Nat, sumL (fun j => f j + g j) l = sumL f l + sumL g l
  | [] => rfl
  | j :: t => by
    show f j + g j + sumL (fun j => f j + g j) t = f j + sumL f t + (g j + sumL g t)
    rw [sumL_add f g t]; omega

theorem sumL_mul (c : Int) (f : Nat → Int) : ∀ l : List Nat, sumL (fun j => c * f j) l = c * sumL f l
  | [] => by simp [sumL]
  | j :: t => by
    show c * f j + sumL (fun j => c * f j) t = c * (f j + sumL f t)
    rw [sumL_mul c f t, Int.mul_add]

theorem sumL_erase (f : Nat → Int) (c : Nat) : ∀ l : List Nat, c ∈ l → sumL f l = f c + sumL f (l.erase c)
  | [], h => by simp at h
  | j :: t, h => by
    by_cases hj : j = c
    · subst hj; simp [sumL]
    · rw [List.erase_cons_tail (by simpa using hj)]
      show f j + sumL f t = f c + (f j + sumL f (t.erase c))
      have ht : c ∈ t := by
        rcases List.mem_cons.1 h with h | h
        · exact absurd h.symm hj
        · exact h
      rw [sumL_erase f c t ht]
      omega

theorem sumL_range (f : Nat → Int) (n : Nat) : sumL f (List.range n) = sumN f n := by
  induction n with
  | zero => rfl
  | succ n ih =>
    have hap : ∀ (a b : List Nat), sumL f (a ++ b) = sumL f a + sumL f b := by
      intro a b
      induction a with
      | nil => simp [sumL]
      | cons x t ih => show f x + sumL f (t ++ b) = f x + sumL f t + sumL f b; rw [ih]; omega
    rw [List.range_succ, hap, ih]
    show sumN f n + (f n + 0) = sumN f n + f n
    omega

/-- Fewer rows than columns: something but nought comes to nought. -/
theorem ker (rows : List (Nat → Int)) : ∀ (cols : List Nat), cols.Nodup → rows.length < cols.length → ∃ u : Nat → Int, (∃ j ∈ cols, u j ≠ 0) ∧ ∀ r ∈ rows, sumL (fun j => r j * u j) cols = 0 := by
  suffices H : ∀ (n : Nat) (rows : List (Nat → Int)), rows.length = n → ∀ (cols : List Nat), cols.Nodup → rows.length < cols.length → ∃ u : Nat → Int, (∃ j ∈ cols, u j ≠ 0) ∧ ∀ r ∈ rows, sumL (fun j => r j * u j) cols = 0 from H rows.length rows rfl
  intro n
  induction n with
  | zero =>
    intro rows hl cols _ h
    match rows, cols, hl, h with
    | [], j :: t, _, _ => exact ⟨fun _ => 1, ⟨j, by simp, by show (1 : Int) ≠ 0; decide⟩, fun r hr => by simp at hr⟩
  | succ n ih =>
    intro rows hl cols hn h
    match rows, hl with
    | r :: rs, hl =>
      have hrs : rs.length = n := by simpa using hl
      have hlt : n + 1 < cols.length := by simp at h; omega
      by_cases hz : ∀ j ∈ cols, r j = 0
      · obtain ⟨u, hu, hr⟩ := ih rs hrs cols hn (by omega)
        refine ⟨u, hu, fun r' hr' => ?_⟩
        rcases List.mem_cons.1 hr' with rfl | hr'
        · rw [sumL_congr _ (fun _ => 0) cols fun j hj => by rw [hz j hj]; omega, sumL_zero]
        · exact hr r' hr'
      · have hc : ∃ c ∈ cols, r c ≠ 0 := by
          apply Classical.byContradiction
          intro hno
          exact hz fun j hj => Classical.byContradiction fun hne => hno ⟨j, hj, hne⟩
        obtain ⟨c, hcm, hc0⟩ := hc
        obtain ⟨u, ⟨j0, hj0, hu0⟩, hr⟩ := ih (rs.map fun r' j => r c * r' j - r' c * r j) (by rw [List.length_map]; exact hrs) (cols.erase c) (hn.erase c) (by rw [List.length_map, List.length_erase_of_mem hcm]; omega)
        have hne : ∀ j ∈ cols.erase c, j ≠ c := fun j hj => by rw [hn.mem_erase_iff] at hj; exact hj.1
        obtain ⟨S, hS⟩ : ∃ S, S = sumL (fun j => r j * u j) (cols.erase c) := ⟨_, rfl⟩
        have key : ∀ q : Nat → Int, sumL (fun j => q j * (if j = c then -S else r c * u j)) cols = q c * -S + r c * sumL (fun j => q j * u j) (cols.erase c) := by
          intro q
          rw [sumL_erase _ c cols hcm, ← sumL_mul]
          show q c * (if c = c then -S else r c * u c) + _ = _
          rw [if_pos rfl]
          congr 1
          refine sumL_congr _ _ _ fun j hj => ?_
          show q j * (if j = c then -S else r c * u j) = r c * (q j * u j)
          rw [if_neg (hne j hj)]; grind
        refine ⟨fun j => if j = c then -S else r c * u j, ⟨j0, List.mem_of_mem_erase hj0, ?_⟩, fun r' hr' => ?_⟩
        · show (if j0 = c then -S else r c * u j0) ≠ 0
          rw [if_neg (hne j0 hj0)]
          exact Int.mul_ne_zero hc0 hu0
        · rw [key r']
          rcases List.mem_cons.1 hr' with rfl | hr'
          · rw [← hS, Int.mul_neg]; omega
          · have h1 := hr _ (List.mem_map_of_mem hr')
            have h2 : sumL (fun j => (r c * r' j - r' c * r j) * u j) (cols.erase c) = r c * sumL (fun j => r' j * u j) (cols.erase c) + (-(r' c)) * sumL (fun j => r j * u j) (cols.erase c) := by
              rw [← sumL_mul, ← sumL_mul, ← sumL_add]
              exact sumL_congr _ _ _ fun j _ => by grind
            rw [h2, ← hS] at h1
            rw [Int.mul_neg, ← Int.neg_mul]
            omega

/-- Lines that are independent. -/
def IndL (n : Nat) (ls : List (List Int)) : Prop := ∀ v : Nat → Int, (∀ i, i < n → sumN (fun l => v l * at2 ls l i) n = 0) → ∀ l, l < n → v l = 0

def unitL (n q : Nat) : List Int := (List.range n).map fun i => if i = q then 1 else 0

theorem unitL_at (n q i : Nat) (hi : i < n) : (unitL n q)[i]?.getD 0 = if i = q then 1 else 0 := by unfold unitL; rw [range_getD, if_pos hi]

theorem at2_put (ls : List (List Int)) (k : Nat) (a : List Int) (l i : Nat) (hk : k < ls.length) : at2 (ls.set k a) l i = if l = k then a[i]?.getD 0 else at2 ls l i := by
  unfold at2
  rw [List.getElem?_set]
  by_cases h : k = l
  · subst h; rw [if_pos rfl, if_pos hk, if_pos rfl]; rfl
  · rw [if_neg h, if_neg (fun e => h e.symm)]

/-- One of the lines can be had as a unit line, still independent, and still without volume. -/
theorem ind_step (n : Nat) (ls : List (List Int)) (h : Sq n ls) (h1 : 1 ≤ n) (h4 : n ≤ 4) (hi : IndL n ls) (hv : vol ls none4 = 0) (k : Nat) (hk : k < n) : ∃ q, q < n ∧ Sq n (ls.set k (unitL n q)) ∧ IndL n (ls.set k (unitL n q)) ∧ vol (ls.set k (unitL n q)) none4 = 0 := by
  have hl : ls.length = n := h.1
  obtain ⟨u, ⟨q, hq, hu⟩, hr⟩ := ker (((List.range n).filter (· ≠ k)).map fun l i => at2 ls l i) (List.range n) List.nodup_range (by
    rw [List.length_map, List.length_range]
    have h1 : List.Sublist ((List.range n).filter (· ≠ k)) (List.range n) := List.filter_sublist
    have h2 := h1.length_le
    rw [List.length_range] at h2
    rcases Nat.lt_or_ge ((List.range n).filter (· ≠ k)).length n with h3 | h3
    · exact h3
    · have h5 := h1.eq_of_length (by rw [List.length_range]; omega)
      have h6 : k ∈ (List.range n).filter (· ≠ k) := by rw [h5]; exact List.mem_range.2 hk
      simp at h6)
  rw [List.mem_range] at hq
  have horth : ∀ l, l < n → l ≠ k → sumN (fun i => at2 ls l i * u i) n = 0 := by
    intro l hln hlk
    have := hr (fun i => at2 ls l i) (List.mem_map.2 ⟨l, by simp [List.mem_range, hln, hlk], rfl⟩)
    rw [sumL_range] at this
    exact this
  refine ⟨q, hq, ⟨by rw [List.length_set]; exact hl, fun r hr => ?_⟩, fun v hv2 l hln => ?_, ?_⟩
  · rcases List.mem_or_eq_of_mem_set hr with h2 | rfl
    · exact h.2 r h2
    · unfold unitL; simp
  · have hat : ∀ l i, i < n → at2 (ls.set k (unitL n q)) l i = if l = k then (if i = q then 1 else 0) else at2 ls l i := by
      intro l i hi
      rw [at2_put ls k _ l i (by omega), unitL_at n q i hi]
    -- times u: only the unit line is left
    have e1 : sumN (fun i => u i * sumN (fun l => v l * at2 (ls.set k (unitL n q)) l i) n) n = 0 := by
      have : sumN (fun i => u i * sumN (fun l => v l * at2 (ls.set k (unitL n q)) l i) n) n = sumN (fun _ => 0) n := sumN_congr _ _ _ fun i hi => by rw [hv2 i hi]; omega
      rw [this, sumN_zero]
    have e2 : sumN (fun i => u i * sumN (fun l => v l * at2 (ls.set k (unitL n q)) l i) n) n = sumN (fun l => v l * sumN (fun i => at2 (ls.set k (unitL n q)) l i * u i) n) n := by
      have a1 : sumN (fun i => u i * sumN (fun l => v l * at2 (ls.set k (unitL n q)) l i) n) n = sumN (fun i => sumN (fun l => v l * (at2 (ls.set k (unitL n q)) l i * u i)) n) n := by
        refine sumN_congr _ _ _ fun i _ => ?_
        rw [← sumN_mul]
        exact sumN_congr _ _ _ fun l _ => by grind
      rw [a1, sumN_swap]
      exact sumN_congr _ _ _ fun l _ => by rw [sumN_mul]
    have e3 : sumN (fun l => v l * sumN (fun i => at2 (ls.set k (unitL n q)) l i * u i) n) n = v k * u q := by
      rw [sumN_only _ k n hk fun l hln hlk => by
        have : sumN (fun i => at2 (ls.set k (unitL n q)) l i * u i) n = 0 := by
          rw [← horth l hln hlk]
          exact sumN_congr _ _ _ fun i hi => by rw [hat l i hi, if_neg hlk]
        show v l * _ = 0
        rw [this]; omega]
      show v k * sumN (fun i => at2 (ls.set k (unitL n q)) k i * u i) n = v k * u q
      have : sumN (fun i => at2 (ls.set k (unitL n q)) k i * u i) n = u q := by
        rw [sumN_only _ q n hq fun i hi hiq => by show at2 _ k i * u i = 0; rw [hat k i hi, if_pos rfl, if_neg hiq]; omega]
        show at2 _ k q * u q = u q
        rw [hat k q hq, if_pos rfl, if_pos rfl]; omega
      rw [this]
    have hvk : v k = 0 := by
      rw [e2, e3] at e1
      rcases Int.mul_eq_zero.1 e1 with h | h
      · exact h
      · exact absurd h hu
    refine hi v (fun i hin => ?_) l hln
    rw [← hv2 i hin]
    refine sumN_congr _ _ _ fun l' _ => ?_
    rw [hat l' i hin]
    by_cases hlk : l' = k
    · subst hlk; rw [if_pos rfl, hvk]; omega
    · rw [if_neg hlk]
  · have hs : ∀ l, l < n → (sharesL ls (unitL n q) n)[l]?.getD 0 = 0 := by
      refine hi (fun l => (sharesL ls (unitL n q) n)[l]?.getD 0) (fun i hin => ?_)
      have hc := cramer n ls (unitL n q) h (by unfold unitL; simp) h1 h4 i hin
      unfold crm at hc
      rw [dotN_sum, hv, Int.zero_mul] at hc
      rw [← hc]
      refine sumN_congr _ _ _ fun l hln => ?_
      rw [range_getD, if_pos hln]; grind
    have := hs k hk
    unfold sharesL at this
    rw [range_getD, if_pos hk] at this
    exact this

theorem perm1 : ∀ a : Fin 1, vol [unitL 1 a] none4 ≠ 0 := by decide +kernel
theorem perm2 : ∀ a b : Fin 2, a ≠ b → vol [unitL 2 a, unitL 2 b] none4 ≠ 0 := by decide +kernel
theorem perm3 : ∀ a b c : Fin 3, a ≠ b → a ≠ c → b ≠ c → vol [unitL 3 a, unitL 3 b, unitL 3 c] none4 ≠ 0 := by decide +kernel
theorem perm4 : ∀ a b c d : Fin 4, a ≠ b → a ≠ c → a ≠ d → b ≠ c → b ≠ d → c ≠ d → vol [unitL 4 a, unitL 4 b, unitL 4 c, unitL 4 d] none4 ≠ 0 := by decide +kernel

/-- Unit lines that are independent have a volume. -/
theorem units_vol (n : Nat) (h1 : 1 ≤ n) (h4 : n ≤ 4) (q : Nat → Nat) (hq : ∀ l, l < n → q l < n) (hinj : ∀ l l', l < n → l' < n → l ≠ l' → q l ≠ q l') : vol ((List.range n).map fun l => unitL n (q l)) none4 ≠ 0 := by
  match n, h1, h4 with
  | 1, _, _ => exact perm1 ⟨q 0, hq 0 (by omega)⟩
  | 2, _, _ => exact perm2 ⟨q 0, hq 0 (by omega)⟩ ⟨q 1, hq 1 (by omega)⟩ (fun e => hinj 0 1 (by omega) (by omega) (by omega) (by injection e))
  | 3, _, _ => exact perm3 ⟨q 0, hq 0 (by omega)⟩ ⟨q 1, hq 1 (by omega)⟩ ⟨q 2, hq 2 (by omega)⟩ (fun e => hinj 0 1 (by omega) (by omega) (by omega) (by injection e)) (fun e => hinj 0 2 (by omega) (by omega) (by omega) (by injection e)) (fun e => hinj 1 2 (by omega) (by omega) (by omega) (by injection e))
  | 4, _, _ => exact perm4 ⟨q 0, hq 0 (by omega)⟩ ⟨q 1, hq 1 (by omega)⟩ ⟨q 2, hq 2 (by omega)⟩ ⟨q 3, hq 3 (by omega)⟩ (fun e => hinj 0 1 (by omega) (by omega) (by omega) (by injection e)) (fun e => hinj 0 2 (by omega) (by omega) (by omega) (by injection e)) (fun e => hinj 0 3 (by omega) (by omega) (by omega) (by injection e)) (fun e => hinj 1 2 (by omega) (by omega) (by omega) (by injection e)) (fun e => hinj 1 3 (by omega) (by omega) (by omega) (by injection e)) (fun e => hinj 2 3 (by omega) (by omega) (by omega) (by injection e))

theorem ind_units (n : Nat) (ls : List (List Int)) (h : Sq n ls) (h1 : 1 ≤ n) (h4 : n ≤ 4) (hi : IndL n ls) (hv : vol ls none4 = 0) : ∀ k, k ≤ n → ∃ (ls' : List (List Int)) (q : Nat → Nat), Sq n ls' ∧ IndL n ls' ∧ vol ls' none4 = 0 ∧ ∀ l, l < k → ls'[l]? = some (unitL n (q l)) ∧ q l < n := by
  intro k
  induction k with
  | zero => intro _; exact ⟨ls, fun _ => 0, h, hi, hv, fun l hl => by omega⟩
  | succ k ih =>
    intro hk
    obtain ⟨ls', q, g1, g2, g3, g4⟩ := ih (by omega)
    obtain ⟨c, hc, f1, f2, f3⟩ := ind_step n ls' g1 h1 h4 g2 g3 k (by omega)
    refine ⟨ls'.set k (unitL n c), fun l => if l = k then c else q l, f1, f2, f3, fun l hl => ?_⟩
    by_cases hlk : l = k
    · subst hlk
      rw [List.getElem?_set_self (by have := g1.1; omega)]
      simp [hc]
    · rw [List.getElem?_set_ne (fun e => hlk e.symm)]
      simp only [hlk, if_false]
      exact g4 l (by omega)

/-- Lines that are independent have a volume. -/
theorem ind_vol (n : Nat) (ls : List (List Int)) (h : Sq n ls) (h1 : 1 ≤ n) (h4 : n ≤ 4) (hi : IndL n ls) : vol ls none4 ≠ 0 := by
  intro hv
  obtain ⟨ls', q, g1, g2, g3, g4⟩ := ind_units n ls h h1 h4 hi hv n (Nat.le_refl _)
  have he : ls' = (List.range n).map fun l => unitL n (q l) := by
    apply List.ext_getElem?
    intro l
    by_cases hl : l < n
    · rw [(g4 l hl).1, List.getElem?_map, List.getElem?_range hl]; rfl
    · rw [List.getElem?_eq_none (by have := g1.1; omega), List.getElem?_eq_none (by simp; omega)]
  have hat : ∀ l i, l < n → i < n → at2 ls' l i = if i = q l then 1 else 0 := by
    intro l i hl hin
    unfold at2
    rw [(g4 l hl).1, Option.getD_some, unitL_at n (q l) i hin]
  refine units_vol n h1 h4 q (fun l hl => (g4 l hl).2) (fun l l' hl hl' hne e => ?_) (by rw [← he]; exact g3)
  have h0 := g2 (fun x => (if x = l then 1 else 0) + (-1) * (if x = l' then 1 else 0)) (fun i hin => by
    have e1 : sumN (fun x => ((if x = l then 1 else 0) + (-1) * (if x = l' then 1 else 0)) * at2 ls' x i) n = sumN (fun x => (if x = l then 1 else 0) * at2 ls' x i + (-1) * ((if x = l' then 1 else 0) * at2 ls' x i)) n := sumN_congr _ _ _ fun x _ => by grind
    rw [e1, sumN_add, sumN_mul, sum_one (fun x => at2 ls' x i) l n hl, sum_one (fun x => at2 ls' x i) l' n hl', hat l i hl hin, hat l' i hl' hin, e]
    omega) l hl
  simp [hne] at h0

end Num
end Go.Proofs.YtloncgmgcnaalaaGreat

/- Where something goes, a corner goes: in plain numbers. -/
namespace Go.Proofs.YtloncgmgcnaalaaGreat
namespace Num

theorem sumL_perm (f : Nat → Int) {a b : List Nat} (h : a.Perm b) : sumL f a = sumL f b := by
  induction h with
  | nil => rfl
  | cons x _ ih => show f x + _ = f x + _; rw [ih]
  | swap x y t => show f y + (f x + sumL f t) = f x + (f y + sumL f t); omega
  | trans _ _ h1 h2 => rw [h1, h2]

theorem sumL_filter (f : Nat → Int) (P : Nat → Bool) : ∀ l : List Nat, (∀ j ∈ l, P j = false → f j = 0) → sumL f (l.filter P) = sumL f l
  | [], _ => rfl
  | j :: t, h => by
    have ih := sumL_filter f P t fun i hi => h i (List.mem_cons_of_mem _ hi)
    cases hp : P j with
    | true => rw [List.filter_cons_of_pos hp]; show f j + _ = f j + _; rw [ih]
    | false => rw [List.filter_cons_of_neg (by simp [hp]), ih]; show _ = f j + _; rw [h j (by simp) hp]; omega

/-- A sum over all places is one over those where it is not nought. -/
theorem sumL_set (f : Nat → Int) (N : Nat) (S : List Nat) (hn : S.Nodup) (hN : ∀ j ∈ S, j < N) (hz : ∀ j, j < N → j ∉ S → f j = 0) : sumN f N = sumL f S := by
  rw [← sumL_range, ← sumL_filter f (fun j => decide (j ∈ S)) (List.range N) fun j hj hp => hz j (List.mem_range.1 hj) (by simpa using hp)]
  refine sumL_perm f ((List.perm_ext_iff_of_nodup (List.Pairwise.filter _ List.nodup_range) hn).2 fun j => ?_)
  simp only [List.mem_filter, List.mem_range, decide_eq_true_eq]
  exact ⟨fun h => h.2, fun h => ⟨hN j h, h⟩⟩

/-- Columns that are independent. -/
def IndC (p : Lp) (m : Nat) (S : List Nat) : Prop := ∀ v : Nat → Int, (∀ i, i < m → sumL (fun j => hasF p j i * v j) S = 0) → ∀ j ∈ S, v j = 0

theorem sumL_sumN (f : Nat → Nat → Int) (m : Nat) : ∀ S : List Nat, sumN (fun i => sumL (fun j => f j i) S) m = sumL (fun j => sumN (fun i => f j i) m) S
  | [] => by show sumN (fun _ => 0) m = 0; exact sumN_zero m
  | j :: t => by
    show sumN (fun i => f j i + sumL (fun j => f j i) t) m = sumN (fun i => f j i) m + sumL (fun j => sumN (fun i => f j i) m) t
    rw [sumN_add, sumL_sumN f m t]

theorem has_slack (p : Lp) (n q i : Nat) (hn : n = p.costs.length) : hasF p (n + q) i = if i = q then 1 else 0 := by
  unfold hasF
  rw [if_neg (by omega)]
  by_cases h : i = q
  · rw [if_pos (by omega), if_pos h]
  · rw [if_neg (by omega), if_neg h]

/-- One more column. -/
theorem ind_more (p : Lp) (m n : Nat) (hn : n = p.costs.length) (S : List Nat) (hS : IndC p m S) (hlt : S.length < m) : ∃ q, q < m ∧ n + q ∉ S ∧ IndC p m ((n + q) :: S) := by
  obtain ⟨u, ⟨q, hq, hu⟩, hr⟩ := ker (S.map fun j i => hasF p j i) (List.range m) List.nodup_range (by rw [List.length_map, List.length_range]; exact hlt)
  rw [List.mem_range] at hq
  have horth : ∀ j ∈ S, sumN (fun i => hasF p j i * u i) m = 0 := by
    intro j hj
    have := hr (fun i => hasF p j i) (List.mem_map.2 ⟨j, hj, rfl⟩)
    rw [sumL_range] at this
    exact this
  have hc : sumN (fun i => hasF p (n + q) i * u i) m = u q := by
    rw [sumN_only _ q m hq fun i hi hiq => by show hasF p (n + q) i * u i = 0; rw [has_slack p n q i hn, if_neg hiq]; omega]
    show hasF p (n + q) q * u q = u q
    rw [has_slack p n q q hn, if_pos rfl]; omega
  refine ⟨q, hq, fun hm => hu (by rw [← hc]; exact horth _ hm), fun v hv j hj => ?_⟩
  have hv' : ∀ i, i < m → hasF p (n + q) i * v (n + q) + sumL (fun j => hasF p j i * v j) S = 0 := hv
  have e1 : sumN (fun i => u i * (hasF p (n + q) i * v (n + q) + sumL (fun j => hasF p j i * v j) S)) m = 0 := by
    have : sumN (fun i => u i * (hasF p (n + q) i * v (n + q) + sumL (fun j => hasF p j i * v j) S)) m = sumN (fun _ => 0) m := sumN_congr _ _ _ fun i hi => by rw [hv' i hi]; omega
    rw [this, sumN_zero]
  have e2 : sumN (fun i => u i * (hasF p (n + q) i * v (n + q) + sumL (fun j => hasF p j i * v j) S)) m = v (n + q) * u q := by
    have a1 : sumN (fun i => u i * (hasF p (n + q) i * v (n + q) + sumL (fun j => hasF p j i * v j) S)) m = sumN (fun i => v (n + q) * (hasF p (n + q) i * u i) + sumL (fun j => v j * (hasF p j i * u i)) S) m := by
      refine sumN_congr _ _ _ fun i _ => ?_
      rw [Int.mul_add, ← sumL_mul]
      have : sumL (fun j => u i * (hasF p j i * v j)) S = sumL (fun j => v j * (hasF p j i * u i)) S := sumL_congr _ _ _ fun j _ => by grind
      rw [this]; grind
    rw [a1, sumN_add, sumN_mul, hc, sumL_sumN (fun j i => v j * (hasF p j i * u i)) m S]
    have : sumL (fun j => sumN (fun i => v j * (hasF p j i * u i)) m) S = sumL (fun _ => 0) S := sumL_congr _ _ _ fun j hj => by rw [sumN_mul, horth j hj]; omega
    rw [this, sumL_zero]; omega
  have h0 : v (n + q) = 0 := by
    rw [e2] at e1
    rcases Int.mul_eq_zero.1 e1 with h | h
    · exact h
    · exact absurd h hu
  rcases List.mem_cons.1 hj with rfl | hj
  · exact h0
  · refine hS v (fun i hi => ?_) j hj
    have := hv' i hi
    rw [h0] at this
    omega

/-- As many as there are rows. -/
theorem ind_fill (p : Lp) (m n : Nat) (hn : n = p.costs.length) : ∀ (d : Nat) (S : List Nat), IndC p m S → S.Nodup → (∀ j ∈ S, j < n + m) → S.length + d = m → ∃ T : List Nat, IndC p m T ∧ T.Nodup ∧ (∀ j ∈ T, j < n + m) ∧ T.length = m ∧ ∀ j ∈ S, j ∈ T := by
  intro d
  induction d with
  | zero => intro S h1 h2 h3 h4; exact ⟨S, h1, h2, h3, by omega, fun j hj => hj⟩
  | succ d ih =>
    intro S h1 h2 h3 h4
    obtain ⟨q, hq, hqS, hqi⟩ := ind_more p m n hn S h1 (by omega)
    obtain ⟨T, t1, t2, t3, t4, t5⟩ := ih ((n + q) :: S) hqi (List.nodup_cons.2 ⟨hqS, h2⟩) (fun j hj => by
      rcases List.mem_cons.1 hj with rfl | hj
      · omega
      · exact h3 j hj) (by simp; omega)
    exact ⟨T, t1, t2, t3, t4, fun j hj => t5 j (List.mem_cons_of_mem _ hj)⟩

/-- The columns, rising. -/
def riseL (N : Nat) (S : List Nat) : List Int := ((List.range N).filter fun j => decide (j ∈ S)).map fun (j : Nat) => (j : Int)

theorem rise_ok (m N : Nat) (S : List Nat) (hn : S.Nodup) (hN : ∀ j ∈ S, j < N) (hl : S.length = m) : rightB (riseL N S) m N = true ∧ ∀ j, inB (riseL N S) m j = decide (j ∈ S) := by
  have hperm : ((List.range N).filter fun j => decide (j ∈ S)).Perm S := (List.perm_ext_iff_of_nodup (List.Pairwise.filter _ List.nodup_range) hn).2 fun j => by
    simp only [List.mem_filter, List.mem_range, decide_eq_true_eq]
    exact ⟨fun h => h.2, fun h => ⟨hN j h, h⟩⟩
  have hrise : ((List.range N).filter fun j => decide (j ∈ S)).Pairwise (· < ·) := List.Pairwise.filter _ List.pairwise_lt_range
  have hmem : ∀ j ∈ ((List.range N).filter fun j => decide (j ∈ S)), j < N := fun j hj => by simp only [List.mem_filter, List.mem_range] at hj; exact hj.1
  have hlen := hperm.length_eq
  have hin : ∀ j, j ∈ ((List.range N).filter fun j => decide (j ∈ S)) ↔ j ∈ S := fun j => hperm.mem_iff
  unfold riseL
  generalize (List.range N).filter (fun j => decide (j ∈ S)) = R at *
  have hval : ∀ k, k < m → (R.map fun (j : Nat) => (j : Int))[k]?.getD 0 = (R[k]?.getD 0 : Nat) := by
    intro k hk
    rw [List.getElem?_map, List.getElem?_eq_getElem (by omega)]; rfl
  have hr : rightB (R.map fun (j : Nat) => (j : Int)) m N = true := by
    refine right_of _ m N (by rw [List.length_map]; omega) fun k hk => ?_
    rw [hval k hk]
    have hkN : R[k]?.getD 0 < N := by
      rw [List.getElem?_eq_getElem (by omega)]
      exact hmem _ (List.getElem_mem _)
    refine ⟨?_, by omega⟩
    cases k with
    | zero => show (0 : Int) ≤ _; omega
    | succ k =>
      show (R.map fun (j : Nat) => (j : Int))[k]?.getD 0 + 1 ≤ _
      rw [hval k (by omega)]
      have := (List.pairwise_iff_getElem.1 hrise) k (k + 1) (by omega) (by omega) (by omega)
      rw [List.getElem?_eq_getElem (by omega), List.getElem?_eq_getElem (by omega)]
      simp only [Option.getD_some]
      omega
  refine ⟨hr, fun j => ?_⟩
  have hatF : ∀ k, k < m → atF (R.map fun (j : Nat) => (j : Int)) k = R[k]?.getD 0 := by
    intro k hk
    unfold atF
    rw [hval k hk]; simp
  by_cases hj : j ∈ S
  · rw [decide_eq_true hj]
    obtain ⟨k, hk, he⟩ := List.getElem_of_mem ((hin j).2 hj)
    refine (inB_true _ _ _).2 ⟨k, by omega, ?_⟩
    rw [hatF k (by omega), List.getElem?_eq_getElem hk]
    exact he
  · rw [decide_eq_false hj]
    refine (inB_false _ _ _).2 fun k hk e => hj ?_
    rw [hatF k hk, List.getElem?_eq_getElem (by omega)] at e
    rw [← e]
    exact (hin _).1 (List.getElem_mem _)

/-- Independent columns, as many as rows, make a corner. -/
theorem ind_den (p : Lp) (m n : Nat) (h1 : 1 ≤ m) (h4 : m ≤ 4) (S : List Nat) (hS : IndC p m S) (hn : S.Nodup) (hN : ∀ j ∈ S, j < n + m) (hl : S.length = m) : denL p (riseL (n + m) S) m ≠ 0 := by
  obtain ⟨hr, hin⟩ := rise_ok m (n + m) S hn hN hl
  generalize riseL (n + m) S = at' at *
  refine ind_vol m (chosenL p at' m) (chosen_sq p at' m) h1 h4 fun v hv l hlm => ?_
  have hsp := spread_in (n + m) at' ((List.range m).map v) m hr m (Nat.le_refl _) l hlm
  rw [range_getD, if_pos hlm] at hsp
  rw [← hsp]
  have hout : ∀ j, j ∉ S → (spreadN (n + m) at' ((List.range m).map v) m)[j]?.getD 0 = 0 := by
    intro j hj
    refine spread_not _ _ _ _ _ ((inB_false at' m j).1 ?_)
    rw [hin j]; exact decide_eq_false hj
  refine hS (fun j => (spreadN (n + m) at' ((List.range m).map v) m)[j]?.getD 0) (fun i hi => ?_) _ ?_
  · rw [← sumL_set (fun j => hasF p j i * (spreadN (n + m) at' ((List.range m).map v) m)[j]?.getD 0) (n + m) S hn hN fun j _ hj => by show hasF p j i * _ = 0; rw [hout j hj]; omega]
    rw [spread_sum (fun j => hasF p j i) (n + m) at' _ m hr m (Nat.le_refl _)]
    refine Eq.trans ?_ (hv i hi)
    refine sumN_congr _ _ _ fun k hk => ?_
    rw [range_getD, if_pos hk, chosen_at p at' m k i hk hi]; grind
  · have := (inB_true at' m (atF at' l)).2 ⟨l, hlm, rfl⟩
    rw [hin] at this
    simpa using this

end Num
end Go.Proofs.YtloncgmgcnaalaaGreat

/- Where something goes, a corner goes: in plain numbers. -/
namespace Go.Proofs.YtloncgmgcnaalaaGreat
namespace Num

theorem cross_le (xa va xb vb xc vc : Int) (ha : 0 < va) (hb : 0 < vb) (hc : 0 < vc) (h1 : xa * vb ≤ xb * va) (h2 : xb * vc ≤ xc * vb) : xa * vc ≤ xc * va := by
  have e1 : xa * vb * vc ≤ xb * va * vc := Int.mul_le_mul_of_nonneg_right h1 (Int.le_of_lt hc)
  have e2 : xb * vc * va ≤ xc * vb * va := Int.mul_le_mul_of_nonneg_right h2 (Int.le_of_lt ha)
  have e3 : vb * (xa * vc) ≤ vb * (xc * va) := by
    have a1 : vb * (xa * vc) = xa * vb * vc := by grind
    have a2 : xb * va * vc = xb * vc * va := by grind
    have a3 : vb * (xc * va) = xc * vb * va := by grind
    omega
  exact Int.le_of_mul_le_mul_left e3 hb

/-- The nearest of several. -/
theorem nearest (z v : Nat → Int) : ∀ l : List Nat, l ≠ [] → (∀ j ∈ l, 0 < v j) → ∃ j0 ∈ l, ∀ j ∈ l, z j0 * v j ≤ z j * v j0
  | [], h, _ => absurd rfl h
  | j :: t, _, hv => by
    by_cases ht : t = []
    · subst ht
      refine ⟨j, by simp, fun i hi => ?_⟩
      have : i = j := by simpa using hi
      subst this; exact Int.le_refl _
    · obtain ⟨k, hk, hmin⟩ := nearest z v t ht fun i hi => hv i (List.mem_cons_of_mem _ hi)
      have hvj := hv j (by simp)
      have hvk := hv k (List.mem_cons_of_mem _ hk)
      by_cases hc : z j * v k ≤ z k * v j
      · refine ⟨j, by simp, fun i hi => ?_⟩
        rcases List.mem_cons.1 hi with rfl | hi
        · exact Int.le_refl _
        · exact cross_le _ _ _ _ _ _ hvj hvk (hv i (List.mem_cons_of_mem _ hi)) hc (hmin i hi)
      · refine ⟨k, List.mem_cons_of_mem _ hk, fun i hi => ?_⟩
        rcases List.mem_cons.1 hi with rfl | hi
        · omega
        · exact hmin i hi

theorem nodup_len : ∀ (a b : List Nat), a.Nodup → (∀ x ∈ a, x ∈ b) → a.length ≤ b.length
  | [], _, _, _ => by simp
  | x :: t, b, hn, h => by
    rw [List.nodup_cons] at hn
    have hx := h x (by simp)
    have := nodup_len t (b.erase x) hn.2 fun y hy => (List.mem_erase_of_ne (fun e => hn.1 (by rw [← e]; exact hy))).2 (h y (List.mem_cons_of_mem _ hy))
    rw [List.length_erase_of_mem hx] at this
    have := List.length_pos_of_mem hx
    simp only [List.length_cons]
    omega

/-- The places that are not nought. -/
def suppL (z : Nat → Int) (N : Nat) : List Nat := (List.range N).filter fun j => decide (z j ≠ 0)

theorem supp_mem (z : Nat → Int) (N j : Nat) : j ∈ suppL z N ↔ j < N ∧ z j ≠ 0 := by
  unfold suppL
  simp only [List.mem_filter, List.mem_range, decide_eq_true_eq]

theorem supp_nodup (z : Nat → Int) (N : Nat) : (suppL z N).Nodup := List.Pairwise.filter _ List.nodup_range

theorem goes_corner (p : Lp) (m n : Nat) (hmay : p.may = true) (hm : m = p.rows.length) (hn : n = p.costs.length) : ∀ (c : Nat) (z : Nat → Int) (D : Int), 0 < D → (∀ j, j < n + m → 0 ≤ z j) → (∀ i, i < m → sumN (fun j => hasF p j i * z j) (n + m) = D * mostF p i) → (suppL z (n + m)).length ≤ c → ∃ at', Good p at' m n := by
  have h1 : 1 ≤ m := by have := (p.may_of hmay).2.2.1.1; omega
  have h4 : m ≤ 4 := by have := (p.may_of hmay).2.2.1.2; omega
  intro c
  induction c with
  | zero =>
    intro z D hD hz hs hc
    have hS : suppL z (n + m) = [] := List.length_eq_zero_iff.1 (by omega)
    have hz0 : ∀ j, j < n + m → z j = 0 := fun j hj => Classical.byContradiction fun hne => by
      have := (supp_mem z (n + m) j).2 ⟨hj, hne⟩
      rw [hS] at this; simp at this
    obtain ⟨T, t1, t2, t3, t4, _⟩ := ind_fill p m n hn m [] (fun v _ j hj => by simp at hj) List.nodup_nil (fun j hj => by simp at hj) (by simp)
    obtain ⟨hr, hin⟩ := rise_ok m (n + m) T t2 t3 t4
    have hd := ind_den p m n h1 h4 T t1 t2 t3 t4
    refine ⟨_, hr, hd, fun j => ?_⟩
    generalize riseL (n + m) T = at' at *
    by_cases hj : j < n + m
    · have h0 := within_none p at' m (n + m) hr h1 h4 hd (fun j => (xL p at' m (n + m))[j]?.getD 0) (fun j _ hb => x_not p at' m (n + m) j hb) (fun i hi => by
        rw [x_level p at' m (n + m) hr h1 h4 i hi]
        have := hs i hi
        have hz' : sumN (fun j => hasF p j i * z j) (n + m) = sumN (fun _ => 0) (n + m) := sumN_congr _ _ _ fun j hj => by rw [hz0 j hj]; omega
        rw [hz', sumN_zero] at this
        have hm0 : mostF p i = 0 := by
          rcases Int.mul_eq_zero.1 this.symm with h | h
          · omega
          · exact h
        rw [hm0]; omega) j hj
      have h0' : (xL p at' m (n + m))[j]?.getD 0 = 0 := h0
      rw [h0']; omega
    · rw [List.getElem?_eq_none (by unfold xL; rw [spread_len]; omega)]
      show 0 ≤ sgD p at' m * 0
      omega
  | succ c ih =>
    intro z D hD hz hs hc
    by_cases hind : IndC p m (suppL z (n + m))
    · have hle : (suppL z (n + m)).length ≤ m := by
        rcases Nat.lt_or_ge m (suppL z (n + m)).length with h | h
        · obtain ⟨u, ⟨j, hj, hu⟩, hr⟩ := ker ((List.range m).map fun i j => hasF p j i) (suppL z (n + m)) (supp_nodup z (n + m)) (by rw [List.length_map, List.length_range]; exact h)
          exact absurd (hind u (fun i hi => hr (fun j => hasF p j i) (List.mem_map.2 ⟨i, List.mem_range.2 hi, rfl⟩)) j hj) hu
        · exact h
      obtain ⟨T, t1, t2, t3, t4, t5⟩ := ind_fill p m n hn (m - (suppL z (n + m)).length) (suppL z (n + m)) hind (supp_nodup z (n + m)) (fun j hj => ((supp_mem z (n + m) j).1 hj).1) (by omega)
      obtain ⟨hr, hin⟩ := rise_ok m (n + m) T t2 t3 t4
      have hd := ind_den p m n h1 h4 T t1 t2 t3 t4
      refine ⟨_, hr, hd, fun j => ?_⟩
      have hzout : ∀ j, j < n + m → inB (riseL (n + m) T) m j = false → z j = 0 := by
        intro j hj hb
        apply Classical.byContradiction
        intro hne
        rw [hin j] at hb
        have := t5 j ((supp_mem z (n + m) j).2 ⟨hj, hne⟩)
        simp [this] at hb
      generalize riseL (n + m) T = at' at *
      by_cases hj : j < n + m
      · have h0 := within_none p at' m (n + m) hr h1 h4 hd (fun j => (xL p at' m (n + m))[j]?.getD 0 * D - denL p at' m * z j) (fun j hj hb => by
            show (xL p at' m (n + m))[j]?.getD 0 * D - denL p at' m * z j = 0
            rw [x_not p at' m (n + m) j hb, hzout j hj hb]; omega) (fun i hi => by
            have e : sumN (fun j => hasF p j i * ((xL p at' m (n + m))[j]?.getD 0 * D - denL p at' m * z j)) (n + m) = sumN (fun j => D * (hasF p j i * (xL p at' m (n + m))[j]?.getD 0) + (-(denL p at' m)) * (hasF p j i * z j)) (n + m) := sumN_congr _ _ _ fun j _ => by grind
            rw [e, sumN_add, sumN_mul, sumN_mul, x_level p at' m (n + m) hr h1 h4 i hi, hs i hi]; grind) j hj
        have h0' : (xL p at' m (n + m))[j]?.getD 0 * D - denL p at' m * z j = 0 := h0
        have hs1 := sgD_pos p at' m hd
        have hzj := hz j hj
        generalize (xL p at' m (n + m))[j]?.getD 0 = x at *
        generalize denL p at' m = dd at *
        generalize sgD p at' m = g at *
        have e : D * (g * x) = (g * dd) * z j := by
          have a1 : x * D = dd * z j := by omega
          have a2 : D * (g * x) = g * (x * D) := by grind
          have a3 : (g * dd) * z j = g * (dd * z j) := by grind
          rw [a2, a3, a1]
        have hp := Int.mul_nonneg (Int.le_of_lt hs1) hzj
        rw [← e] at hp
        exact (nonneg_mul_iff D (g * x) hD).1 hp
      · rw [List.getElem?_eq_none (by unfold xL; rw [spread_len]; omega)]
        show 0 ≤ sgD p at' m * 0
        omega
    · -- one column fewer
      obtain ⟨v, hv, j1, hj1, hv1⟩ : ∃ v : Nat → Int, (∀ i, i < m → sumL (fun j => hasF p j i * v j) (suppL z (n + m)) = 0) ∧ ∃ j ∈ suppL z (n + m), 0 < v j := by
        have : ∃ v : Nat → Int, (∀ i, i < m → sumL (fun j => hasF p j i * v j) (suppL z (n + m)) = 0) ∧ ∃ j ∈ suppL z (n + m), v j ≠ 0 := by
          apply Classical.byContradiction
          intro hno
          exact hind fun v hv j hj => Classical.byContradiction fun hne => hno ⟨v, hv, j, hj, hne⟩
        obtain ⟨v, hv, j, hj, hne⟩ := this
        by_cases hp : 0 < v j
        · exact ⟨v, hv, j, hj, hp⟩
        · refine ⟨fun j => -(v j), fun i hi => ?_, j, hj, by show 0 < -(v j); omega⟩
          have : sumL (fun j => hasF p j i * -(v j)) (suppL z (n + m)) = (-1) * sumL (fun j => hasF p j i * v j) (suppL z (n + m)) := by
            rw [← sumL_mul]; exact sumL_congr _ _ _ fun j _ => by grind
          rw [this, hv i hi]; omega
      obtain ⟨j0, hj0, hmin⟩ := nearest z v ((suppL z (n + m)).filter fun j => decide (0 < v j)) (List.ne_nil_of_mem (List.mem_filter.2 ⟨hj1, decide_eq_true hv1⟩)) (fun j hj => by simpa using (List.mem_filter.1 hj).2)
      have hv0 : 0 < v j0 := by simpa using (List.mem_filter.1 hj0).2
      have hj0S := (List.mem_filter.1 hj0).1
      have hj0N := ((supp_mem z (n + m) j0).1 hj0S).1
      have hz0 := hz j0 hj0N
      obtain ⟨z2, hz2⟩ : ∃ z2 : Nat → Int, z2 = fun j => v j0 * z j - z j0 * (if j ∈ suppL z (n + m) then v j else 0) := ⟨_, rfl⟩
      have hz2v : ∀ j, z2 j = v j0 * z j - z j0 * (if j ∈ suppL z (n + m) then v j else 0) := fun j => by rw [hz2]
      refine ih z2 (v j0 * D) (Int.mul_pos hv0 hD) (fun j hj => ?_) (fun i hi => ?_) ?_
      · rw [hz2v j]
        have hzj := hz j hj
        by_cases hjS : j ∈ suppL z (n + m)
        · rw [if_pos hjS]
          by_cases hvj : 0 < v j
          · have := hmin j (List.mem_filter.2 ⟨hjS, decide_eq_true hvj⟩)
            have e : v j0 * z j = z j * v j0 := Int.mul_comm _ _
            omega
          · have a1 := Int.mul_nonneg (Int.le_of_lt hv0) hzj
            have a2 := Int.mul_nonpos_of_nonneg_of_nonpos hz0 (Int.not_lt.1 hvj)
            omega
        · rw [if_neg hjS]
          have a1 := Int.mul_nonneg (Int.le_of_lt hv0) hzj
          omega
      · have e1 : sumN (fun j => hasF p j i * z2 j) (n + m) = sumN (fun j => v j0 * (hasF p j i * z j) + (-(z j0)) * (hasF p j i * (if j ∈ suppL z (n + m) then v j else 0))) (n + m) := sumN_congr _ _ _ fun j _ => by rw [hz2v j]; grind
        have e2 : sumN (fun j => hasF p j i * (if j ∈ suppL z (n + m) then v j else 0)) (n + m) = 0 := by
          rw [sumL_set (fun j => hasF p j i * (if j ∈ suppL z (n + m) then v j else 0)) (n + m) (suppL z (n + m)) (supp_nodup z (n + m)) (fun j hj => ((supp_mem z (n + m) j).1 hj).1) fun j _ hj => by show hasF p j i * (if j ∈ suppL z (n + m) then v j else 0) = 0; rw [if_neg hj]; omega]
          rw [← hv i hi]
          exact sumL_congr _ _ _ fun j hj => by rw [if_pos hj]
        rw [e1, sumN_add, sumN_mul, sumN_mul, e2, hs i hi]; grind
      · have hsub : ∀ j, j ∈ suppL z2 (n + m) → j ∈ (suppL z (n + m)).erase j0 := by
          intro j hj
          obtain ⟨hjN, hne⟩ := (supp_mem z2 (n + m) j).1 hj
          rw [hz2v j] at hne
          rw [(supp_nodup z (n + m)).mem_erase_iff]
          refine ⟨fun e => hne ?_, ?_⟩
          · subst e; rw [if_pos hj0S]; grind
          · apply Classical.byContradiction
            intro hjS
            rw [if_neg hjS] at hne
            have hzj : z j = 0 := Classical.byContradiction fun h => hjS ((supp_mem z (n + m) j).2 ⟨hjN, h⟩)
            rw [hzj] at hne
            omega
        have hlen := nodup_len _ _ (supp_nodup z2 (n + m)) hsub
        rw [List.length_erase_of_mem hj0S] at hlen
        omega

end Num
end Go.Proofs.YtloncgmgcnaalaaGreat

/- In a walk no columns come twice, and the worth never falls, told by what Look answers: in plain numbers. -/
namespace Go.Proofs.YtloncgmgcnaalaaGreat
namespace Num

theorem dot_sum (c x : List Int) (n m : Nat) (hn : n = c.length) : sumN (fun j => c[j]?.getD 0 * x[j]?.getD 0) (n + m) = dotN c x n := by
  rw [sumN_split, dotN_sum]
  have : sumN (fun i => c[n + i]?.getD 0 * x[n + i]?.getD 0) m = sumN (fun _ => 0) m := sumN_congr _ _ _ fun i _ => by rw [List.getElem?_eq_none (by omega)]; simp
  rw [this, sumN_zero, Int.add_zero]

/-- All corners of a walk go; and its kind. -/
theorem isWalk_good {p : Lp} {at' : List Int} {l : List (List Int)} {k : Int} (hmay : p.may = true) (h : IsWalk p at' l k) : (∀ i, i < l.length → Good p (l[i]?.getD []) p.rows.length p.costs.length) ∧ (k = 1 ∨ k = 2) ∧ 1 ≤ l.length := by
  obtain ⟨K, a1, a2, a3, a4, a5⟩ := h
  have hlast : Good p (l[K]?.getD []) p.rows.length p.costs.length ∧ (k = 1 ∨ k = 2) := by
    rcases next_cases p (l[K]?.getD []) p.rows.length p.costs.length hmay rfl rfl with ⟨e, he, h1, _⟩ | ⟨hg, ⟨k', hk, hk2, h1⟩ | ⟨nx, s, k', h1, _⟩⟩
    · rw [a4] at h1
      simp only [Prod.mk.injEq] at h1
      exact absurd h1.2.2.symm he
    · rw [a4] at h1
      simp only [Prod.mk.injEq, true_and, and_true] at h1
      exact ⟨hg, by rw [h1]; exact hk2⟩
    · rw [a4] at h1
      simp only [Prod.mk.injEq] at h1
      exact absurd h1.2.1 a5
  refine ⟨fun i hi => ?_, hlast.2, by omega⟩
  by_cases hiK : i < K
  · obtain ⟨_, _, _, h2⟩ := path_steps p p.rows.length p.costs.length hmay rfl rfl (fun q => l[q]?.getD []) K a3
    exact (h2 i hiK).1
  · have : i = K := by omega
    subst this
    exact hlast.1

/-- No columns come twice. -/
theorem isWalk_new {p : Lp} {at' : List Int} {l : List (List Int)} {k : Int} (hmay : p.may = true) (h : IsWalk p at' l k) (a b : Nat) (hab : a < b) (hb : b < l.length) : l[a]?.getD [] ≠ l[b]?.getD [] := by
  have hg := (isWalk_good hmay h).1
  obtain ⟨K, a1, a2, a3, a4, a5⟩ := h
  obtain ⟨ss, ks, h1, _⟩ := path_steps p p.rows.length p.costs.length hmay rfl rfl (fun q => l[q]?.getD []) K a3
  exact walk_new p p.rows.length p.costs.length hmay rfl (fun q => l[q]?.getD []) ss ks K (fun q j hq => (hg q (by omega)).x j) (fun q hq => (hg q (by omega)).den) h1 a b hab (by omega)

/-- The worth never falls. -/
theorem isWalk_worth {p : Lp} {at' : List Int} {l : List (List Int)} {k : Int} (hmay : p.may = true) (h : IsWalk p at' l k) (q : Nat) (hq : q + 1 < l.length) :
    dotN p.costs (look p (l[q]?.getD [])).x p.costs.length * (look p (l[q + 1]?.getD [])).xd ≤ dotN p.costs (look p (l[q + 1]?.getD [])).x p.costs.length * (look p (l[q]?.getD [])).xd := by
  have hg := (isWalk_good hmay h).1
  obtain ⟨K, a1, a2, a3, a4, a5⟩ := h
  obtain ⟨ss, ks, h1, _⟩ := path_steps p p.rows.length p.costs.length hmay rfl rfl (fun q => l[q]?.getD []) K a3
  have hw := walk_worth p p.rows.length p.costs.length hmay rfl (fun q => l[q]?.getD []) ss ks K (fun q j hq => (hg q (by omega)).x j) (fun q hq => (hg q (by omega)).den) h1 q (by omega)
  obtain ⟨_, _, _, _, _, g1, _, g10, _, hx1, hd1, _⟩ := look_parts p (l[q]?.getD []) p.rows.length p.costs.length hmay rfl rfl (hg q (by omega)).right (hg q (by omega)).den
  obtain ⟨_, _, _, _, _, g2, _, g20, _, hx2, hd2, _⟩ := look_parts p (l[q + 1]?.getD []) p.rows.length p.costs.length hmay rfl rfl (hg (q + 1) hq).right (hg (q + 1) hq).den
  have e1 : sumN (fun j => p.costs[j]?.getD 0 * (sgD p (l[q]?.getD []) p.rows.length * (xL p (l[q]?.getD []) p.rows.length (p.costs.length + p.rows.length))[j]?.getD 0)) (p.costs.length + p.rows.length) = g1 * dotN p.costs (look p (l[q]?.getD [])).x p.costs.length := by
    rw [← dot_sum p.costs _ p.costs.length p.rows.length rfl, ← sumN_mul]
    exact sumN_congr _ _ _ fun j _ => by rw [hx1 j]; grind
  have e2 : sumN (fun j => p.costs[j]?.getD 0 * (sgD p (l[q + 1]?.getD []) p.rows.length * (xL p (l[q + 1]?.getD []) p.rows.length (p.costs.length + p.rows.length))[j]?.getD 0)) (p.costs.length + p.rows.length) = g2 * dotN p.costs (look p (l[q + 1]?.getD [])).x p.costs.length := by
    rw [← dot_sum p.costs _ p.costs.length p.rows.length rfl, ← sumN_mul]
    exact sumN_congr _ _ _ fun j _ => by rw [hx2 j]; grind
  rw [e1, e2, hd1, hd2] at hw
  generalize dotN p.costs (look p (l[q]?.getD [])).x p.costs.length = S1 at *
  generalize dotN p.costs (look p (l[q + 1]?.getD [])).x p.costs.length = S2 at *
  generalize (look p (l[q]?.getD [])).xd = d1 at *
  generalize (look p (l[q + 1]?.getD [])).xd = d2 at *
  have hp := Int.mul_pos g10 g20
  have f1 : g1 * S1 * (g2 * d2) = g1 * g2 * (S1 * d2) := by grind
  have f2 : g2 * S2 * (g1 * d1) = g1 * g2 * (S2 * d1) := by grind
  rw [f1, f2] at hw
  exact Int.le_of_mul_le_mul_left hw hp

/-- Fractions in lowest terms are as their own numbers are. -/
theorem frac_le (s1 d1 s2 d2 n1 m1 n2 m2 : Int) (h : s1 * d2 ≤ s2 * d1) (hd1 : 1 ≤ d1) (hd2 : 1 ≤ d2) (hm1 : 1 ≤ m1) (hm2 : 1 ≤ m2) (e1 : s1 * m1 = n1 * d1) (e2 : s2 * m2 = n2 * d2) : ¬ n2 * m1 - n1 * m2 < 0 := by
  intro hn
  have a1 : (m1 * m2) * (s1 * d2) ≤ (m1 * m2) * (s2 * d1) := Int.mul_le_mul_of_nonneg_left h (Int.mul_nonneg (by omega) (by omega))
  have a2 : (m1 * m2) * (s1 * d2) = (d1 * d2) * (n1 * m2) := by
    have : (m1 * m2) * (s1 * d2) = (s1 * m1) * (m2 * d2) := by grind
    rw [this, e1]; grind
  have a3 : (m1 * m2) * (s2 * d1) = (d1 * d2) * (n2 * m1) := by
    have : (m1 * m2) * (s2 * d1) = (s2 * m2) * (m1 * d1) := by grind
    rw [this, e2]; grind
  rw [a2, a3] at a1
  have := Int.le_of_mul_le_mul_left a1 (Int.mul_pos (by omega) (by omega))
  omega

/-- A walk that is known. -/
theorem known_walk : IsWalk ⟨[5], [([2], 3)]⟩ [1] [[1], [0]] 1 := by
  have h1 : nextN ⟨[5], [([2], 3)]⟩ [1] = ([0], 0, 0) := by decide +kernel
  have h2 : nextN ⟨[5], [([2], 3)]⟩ [0] = ([], 1, 0) := by decide +kernel
  refine ⟨1, rfl, rfl, fun q hq => ?_, h2, by decide⟩
  have : q = 0 := by omega
  subst this
  exact h1

end Num
end Go.Proofs.YtloncgmgcnaalaaGreat
