/- What proves an answer, in plain numbers. -/
import Derived.Test.YtipcbhodlgoflabGreatCornW
namespace Go.Proofs.YtipcbhodlgoflabGreat
namespace Num

/-- An answer: its kind, three points, a fraction. -/
structure Ans where
  kind : Int
  x : List Int
  xd : Int
  y : List Int
  yd : Int
  r : List Int
  rd : Int
  wn : Int
  wd : Int

/-- Does anything stand in a point? -/
def thereB (l : List Int) (d : Int) : Bool := decide (0 < l.length) || (d != 0)

def zeroW (wn wd : Int) : Bool := (wn == 0) && (wd == 0)

/-- A point of so many numbers, none below 0. -/
def pointB (m : Nat) (y : List Int) (yd : Int) : Bool := (y.length == m) && mayPB yd y && !anyNeg y

/-- What the column j has in m rows. -/
def colL (p : Lp) (m j : Nat) : List Int := (List.range m).map (hasF p j)

def costB (p : Lp) (m : Nat) (y : List Int) (yd : Int) (c : List Int) (j : Nat) : Bool := decide (c[j]?.getD 0 * yd ≤ dotN (colL p m j) y m)

/-- At the prices y each variable costs at least what c says. -/
def coversB (p : Lp) (m : Nat) (y : List Int) (yd : Int) (c : List Int) : Bool := pointB m y yd && (List.range c.length).all (costB p m y yd c)

def pricedN (p : Lp) (m : Nat) (y : List Int) : Int := dotN (mostsL p m) y m

def bestB (p : Lp) (a : Ans) : Bool := p.goes a.x a.xd && coversB p p.rows.length a.y a.yd p.costs && decide (mk (dotN p.costs a.x p.costs.length) a.xd = (a.wn, a.wd, 0)) && decide (mk (pricedN p p.rows.length a.y) a.yd = (a.wn, a.wd, 0))

def rowLevel (r : List Int) (n : Nat) (q : List Int × Int) : Bool := decide (dotN q.1 r n ≤ 0)

def endlessB (p : Lp) (a : Ans) : Bool := p.goes a.x a.xd && (a.rd == 1) && pointB p.costs.length a.r a.rd && p.rows.all (rowLevel a.r p.costs.length) && decide (0 < dotN p.costs a.r p.costs.length)

def nothingB (p : Lp) (a : Ans) : Bool := (a.yd == 1) && coversB p p.rows.length a.y a.yd (List.replicate p.costs.length 0) && decide (pricedN p p.rows.length a.y < 0)

def holds (p : Lp) (a : Ans) : Bool :=
  p.may && (if a.kind = 1 then !thereB a.r a.rd && bestB p a else if a.kind = 2 then !thereB a.y a.yd && zeroW a.wn a.wd && endlessB p a else if a.kind = 3 then !thereB a.x a.xd && !thereB a.r a.rd && zeroW a.wn a.wd && nothingB p a else false)

theorem holds_no (p : Lp) (a : Ans) (h : p.may = false) : holds p a = false := by unfold holds; rw [h]; rfl
theorem holds_best (p : Lp) (a : Ans) (h : p.may = true) (hk : a.kind = 1) : holds p a = (!thereB a.r a.rd && bestB p a) := by unfold holds; rw [h, if_pos hk]; rfl
theorem holds_endless (p : Lp) (a : Ans) (h : p.may = true) (hk : a.kind = 2) : holds p a = (!thereB a.y a.yd && zeroW a.wn a.wd && endlessB p a) := by unfold holds; rw [h, if_neg (by omega), if_pos hk]; rfl
theorem holds_nothing (p : Lp) (a : Ans) (h : p.may = true) (hk : a.kind = 3) : holds p a = (!thereB a.x a.xd && !thereB a.r a.rd && zeroW a.wn a.wd && nothingB p a) := by unfold holds; rw [h, if_neg (by omega), if_neg (by omega), if_pos hk]; rfl
theorem holds_none (p : Lp) (a : Ans) (h1 : a.kind ≠ 1) (h2 : a.kind ≠ 2) (h3 : a.kind ≠ 3) : holds p a = false := by unfold holds; rw [if_neg h1, if_neg h2, if_neg h3]; simp

theorem there_of (l : List Int) (d : Int) (h : 0 < l.length) : thereB l d = true := by unfold thereB; simp [h]

theorem goes_len (p : Lp) (x : List Int) (d : Int) (h : p.goes x d = true) : p.may = true ∧ x.length = p.costs.length ∧ (1 ≤ d ∧ d ≤ 1073741824) ∧ withinB 1073741824 x = true ∧ anyNeg x = false ∧ p.rows.all (rowGoes x d) = true := by
  unfold Lp.goes at h
  simp only [Bool.and_eq_true, Bool.not_eq_true'] at h
  obtain ⟨⟨h1, h2⟩, h3⟩ := h
  obtain ⟨a, b, c, e⟩ := p.fits_of x d h1
  exact ⟨a, b, c, e, h2, h3⟩

theorem point_of (m : Nat) (y : List Int) (yd : Int) (h : pointB m y yd = true) : y.length = m ∧ (1 ≤ yd ∧ yd ≤ 1073741824) ∧ withinB 1073741824 y = true ∧ anyNeg y = false ∧ mayPB yd y = true := by
  unfold pointB at h
  simp only [Bool.and_eq_true, beq_iff_eq, Bool.not_eq_true'] at h
  obtain ⟨⟨h1, h2⟩, h3⟩ := h
  have h2' := h2
  unfold mayPB at h2
  simp only [Bool.and_eq_true] at h2
  obtain ⟨a, b, c, _⟩ := mayB_bd _ _ h2.1
  exact ⟨h1, ⟨a, b⟩, c, h3, h2'⟩

theorem covers_of (p : Lp) (m : Nat) (y : List Int) (yd : Int) (c : List Int) (h : coversB p m y yd c = true) : pointB m y yd = true ∧ ∀ j, j < c.length → c[j]?.getD 0 * yd ≤ dotN (colL p m j) y m := by
  unfold coversB at h
  simp only [Bool.and_eq_true, List.all_eq_true] at h
  refine ⟨h.1, fun j hj => ?_⟩
  have := h.2 j (by simpa using hj)
  unfold costB at this
  simpa using this

/-- A fraction that is made is that of its numbers. -/
theorem mk_some (n d u v : Int) (h : mk n d = (u, v, 0)) : u * d = n * v ∧ 1 ≤ v ∧ v ≤ 1073741824 ∧ -1073741824 ≤ u ∧ u ≤ 1073741824 ∧ mayB v [u] = true ∧ d ≠ 0 := by
  by_cases h0 : (low d [n]).2 = 0
  · obtain ⟨_, hd, hb, hw, _, hf⟩ := low_ok d [n] h0
    rw [withinB_one] at hw
    simp only [Bool.and_eq_true, decide_eq_true_eq] at hw
    obtain ⟨x, y, hxy, h1, h2, h3, h4, h5, h6⟩ := mk_ok d n hd hb hw hf
    rw [hxy] at h
    simp only [Prod.mk.injEq, and_true] at h
    obtain ⟨rfl, rfl⟩ := h
    exact ⟨h1, h2, h3, h4, h5, h6, hd⟩
  · unfold mk at h
    rw [if_neg h0] at h
    simp only [Prod.mk.injEq] at h
    exact absurd h.2.2 h0

theorem mk_den (n d u v : Int) (h : mk n d = (u, v, 0)) : v ≠ 0 := by
  have := (mk_some n d u v h).2.1
  omega

/-- The parts that an answer that is best has. -/
theorem best_parts (p : Lp) (a : Ans) (h : bestB p a = true) : thereB a.x a.xd = true ∧ thereB a.y a.yd = true ∧ zeroW a.wn a.wd = false := by
  unfold bestB at h
  simp only [Bool.and_eq_true, decide_eq_true_eq] at h
  obtain ⟨⟨⟨h1, h2⟩, h3⟩, _⟩ := h
  obtain ⟨g1, g2, _⟩ := goes_len p _ _ h1
  obtain ⟨k1, _⟩ := covers_of _ _ _ _ _ h2
  obtain ⟨l1, _⟩ := point_of _ _ _ k1
  have m1 := (p.may_of g1).1
  have m2 := (p.may_of g1).2.2.1
  refine ⟨there_of _ _ (by omega), there_of _ _ (by omega), ?_⟩
  have := mk_den _ _ _ _ h3
  unfold zeroW
  simp [this]

theorem endless_parts (p : Lp) (a : Ans) (h : endlessB p a = true) : thereB a.x a.xd = true ∧ thereB a.r a.rd = true := by
  unfold endlessB at h
  simp only [Bool.and_eq_true] at h
  obtain ⟨⟨⟨⟨h1, _⟩, h2⟩, _⟩, _⟩ := h
  obtain ⟨g1, g2, _⟩ := goes_len p _ _ h1
  obtain ⟨l1, _⟩ := point_of _ _ _ h2
  have m1 := (p.may_of g1).1
  exact ⟨there_of _ _ (by omega), there_of _ _ (by omega)⟩

theorem nothing_parts (p : Lp) (hm : p.may = true) (a : Ans) (h : nothingB p a = true) : thereB a.y a.yd = true := by
  unfold nothingB at h
  simp only [Bool.and_eq_true] at h
  obtain ⟨⟨_, h2⟩, _⟩ := h
  obtain ⟨k1, _⟩ := covers_of _ _ _ _ _ h2
  obtain ⟨l1, _⟩ := point_of _ _ _ k1
  have m2 := (p.may_of hm).2.2.1
  exact there_of _ _ (by omega)

/-- A program whose rows are at most 0. -/
def level (p : Lp) : Lp := ⟨p.costs, p.rows.map fun q => (q.1, 0)⟩

theorem level_may (p : Lp) (h : p.may = true) : (level p).may = true := by
  obtain ⟨h1, h2, h3, h4⟩ := p.may_of h
  unfold Lp.may level
  simp only [List.length_map, Bool.and_eq_true, decide_eq_true_eq, h2]
  refine ⟨⟨⟨⟨⟨h1.1, h1.2⟩, trivial⟩, h3.1⟩, h3.2⟩, ?_⟩
  rw [List.all_eq_true] at h4 ⊢
  intro q hq
  obtain ⟨r, hr, rfl⟩ := List.mem_map.1 hq
  have := h4 r hr
  unfold rowB at this ⊢
  simp only [Bool.and_eq_true] at this ⊢
  exact ⟨this.1, by decide⟩

theorem level_goes (p : Lp) (h : p.may = true) (r : List Int) (d : Int) : (level p).goes r d = (pointB p.costs.length r d && p.rows.all (rowLevel r p.costs.length)) := by
  unfold Lp.goes Lp.fits
  rw [level_may p h]
  have e1 : (level p).costs = p.costs := rfl
  rw [e1]
  by_cases hl : r.length = p.costs.length
  · have e2 : (level p).rows.all (rowGoes r d) = p.rows.all (rowLevel r p.costs.length) := by
      unfold level
      rw [List.all_map]
      congr 1
      funext q
      simp only [Function.comp, rowGoes, rowLevel, hl, Int.zero_mul]
    rw [e2]
    unfold pointB
    simp
  · unfold pointB
    have : (r.length == p.costs.length) = false := by simpa using hl
    rw [this]
    simp

end Num
end Go.Proofs.YtipcbhodlgoflabGreat

/- What is proved is so, in plain numbers. -/
namespace Go.Proofs.YtipcbhodlgoflabGreat
namespace Num

/-- The first n of f, together. -/
def sumN (f : Nat → Int) : Nat → Int
  | 0 => 0
  | k + 1 => sumN f k + f k

theorem sumN_congr (f g : Nat → Int) (n : Nat) (h : ∀ i, i < n → f i = g i) : sumN f n = sumN g n := by
  induction n with
  | zero => rfl
  | succ n ih => unfold sumN; rw [ih fun i hi => h i (by omega), h n (by omega)]

theorem sumN_le (f g : Nat → Int) (n : Nat) (h : ∀ i, i < n → f i ≤ g i) : sumN f n ≤ sumN g n := by
  induction n with
  | zero => exact Int.le_refl _
  | succ n ih =>
    unfold sumN
    have := ih fun i hi => h i (by omega)
    have := h n (by omega)
    omega

theorem sumN_mul (c : Int) (f : Nat → Int) (n : Nat) : sumN (fun i => c * f i) n = c * sumN f n := by
  induction n with
  | zero => simp [sumN]
  | succ n ih => unfold sumN; rw [ih, Int.mul_add]

theorem sumN_add (f g : Nat → Int) (n : Nat) : sumN (fun i => f i + g i) n = sumN f n + sumN g n := by
  induction n with
  | zero => rfl
  | succ n ih => unfold sumN; rw [ih]; omega

theorem sumN_zero (n : Nat) : sumN (fun _ => 0) n = 0 := by
  induction n with
  | zero => rfl
  | succ n ih => unfold sumN; rw [ih]; rfl

theorem sumN_swap (f : Nat → Nat → Int) (m n : Nat) : sumN (fun i => sumN (fun j => f i j) n) m = sumN (fun j => sumN (fun i => f i j) m) n := by
  induction m with
  | zero => exact (sumN_zero n).symm
  | succ m ih =>
    show sumN (fun i => sumN (fun j => f i j) n) m + sumN (fun j => f m j) n = sumN (fun j => sumN (fun i => f i j) m + f m j) n
    rw [ih, sumN_add]

theorem dotN_sum (l y : List Int) (k : Nat) : dotN l y k = sumN (fun i => l[i]?.getD 0 * y[i]?.getD 0) k := by
  induction k with
  | zero => rfl
  | succ k ih => unfold dotN sumN; rw [ih]

theorem not_neg (l : List Int) (h : anyNeg l = false) (j : Nat) : 0 ≤ l[j]?.getD 0 := by
  unfold anyNeg at h
  rw [List.any_eq_false] at h
  by_cases hj : j < l.length
  · rw [List.getElem?_eq_getElem hj, Option.getD_some]
    have := h _ (List.getElem_mem hj)
    simpa using this
  · rw [List.getElem?_eq_none (by omega)]; exact Int.le_refl _

theorem goes_rows (p : Lp) (z : List Int) (zd : Int) (h : p.goes z zd = true) (i : Nat) (hi : i < p.rows.length) : dotN (p.rows[i]?.getD ([], 0)).1 z p.costs.length ≤ (p.rows[i]?.getD ([], 0)).2 * zd := by
  obtain ⟨_, hl, _, _, _, hr⟩ := goes_len p z zd h
  rw [List.all_eq_true] at hr
  have := hr _ (List.getElem_mem hi)
  rw [List.getElem?_eq_getElem hi, Option.getD_some]
  unfold rowGoes at this
  rw [hl] at this
  simpa using this

end Num
end Go.Proofs.YtipcbhodlgoflabGreat

/- If Endless is proved, there is no most, in plain numbers. -/
namespace Go.Proofs.YtipcbhodlgoflabGreat
namespace Num

/-- What stands in an answer that is Endless. -/
theorem endless_parts2 (p : Lp) (a : Ans) (h : endlessB p a = true) : a.x.length = p.costs.length ∧ a.r.length = p.costs.length ∧ (1 ≤ a.xd ∧ a.xd ≤ 1073741824) ∧ (∀ j : Nat, 0 ≤ a.x[j]?.getD 0) ∧ (∀ j : Nat, 0 ≤ a.r[j]?.getD 0) ∧
    (∀ j : Nat, a.x[j]?.getD 0 ≤ 1073741824) ∧ (∀ j : Nat, a.r[j]?.getD 0 ≤ 1073741824) ∧ (∀ i, i < p.rows.length → dotN (p.rows[i]?.getD ([], 0)).1 a.x p.costs.length ≤ (p.rows[i]?.getD ([], 0)).2 * a.xd) ∧
    (∀ i, i < p.rows.length → dotN (p.rows[i]?.getD ([], 0)).1 a.r p.costs.length ≤ 0) ∧ 0 < dotN p.costs a.r p.costs.length := by
  unfold endlessB at h
  simp only [Bool.and_eq_true, decide_eq_true_eq, beq_iff_eq] at h
  obtain ⟨⟨⟨⟨h1, _⟩, h3⟩, h4⟩, h5⟩ := h
  obtain ⟨_, g2, g3, g4, g5, _⟩ := goes_len p _ _ h1
  obtain ⟨l1, _, l3, l4, _⟩ := point_of _ _ _ h3
  refine ⟨g2, l1, g3, not_neg _ g5, not_neg _ l4, fun j => (withinB_iff _ _ g4 (by omega) j).2, fun j => (withinB_iff _ _ l3 (by omega) j).2, goes_rows p _ _ h1, fun i hi => ?_, h5⟩
  rw [List.all_eq_true] at h4
  have := h4 _ (List.getElem_mem hi)
  rw [List.getElem?_eq_getElem hi, Option.getD_some]
  unfold rowLevel at this
  simpa using this

end Num
end Go.Proofs.YtipcbhodlgoflabGreat
