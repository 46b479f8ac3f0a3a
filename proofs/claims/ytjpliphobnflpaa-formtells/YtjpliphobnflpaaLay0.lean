/- Numbers of linear programs: sums of products, which programs may be, which points go. -/
import Derived.Test.YtjpliphobnflpaaNum2
namespace Go.Proofs.Ytjpliphobnflpaa
namespace Num

/-- The first k products, together. -/
def dotN (l m : List Int) : Nat → Int
  | 0 => 0
  | k + 1 => dotN l m k + l[k]?.getD 0 * m[k]?.getD 0

theorem mul_bd2 (x y A B : Int) (hx : -A ≤ x ∧ x ≤ A) (hy : -B ≤ y ∧ y ≤ B) : -(A * B) ≤ x * y ∧ x * y ≤ A * B := by
  obtain ⟨hx1, hx2⟩ := hx
  obtain ⟨hy1, hy2⟩ := hy
  have h1 : 0 ≤ (A - x) * (B - y) := Int.mul_nonneg (by omega) (by omega)
  have h2 : 0 ≤ (A + x) * (B + y) := Int.mul_nonneg (by omega) (by omega)
  have h3 : 0 ≤ (A - x) * (B + y) := Int.mul_nonneg (by omega) (by omega)
  have h4 : 0 ≤ (A + x) * (B - y) := Int.mul_nonneg (by omega) (by omega)
  simp only [Int.sub_mul, Int.mul_sub, Int.add_mul, Int.mul_add] at h1 h2 h3 h4
  omega

theorem dotN_bd (l m : List Int) (A B : Int) (hl : ∀ j : Nat, -A ≤ l[j]?.getD 0 ∧ l[j]?.getD 0 ≤ A) (hm : ∀ j : Nat, -B ≤ m[j]?.getD 0 ∧ m[j]?.getD 0 ≤ B) (k : Nat) :
    -(A * B * k) ≤ dotN l m k ∧ dotN l m k ≤ A * B * k := by
  induction k with
  | zero => simp [dotN]
  | succ k ih =>
    have := mul_bd2 _ _ _ _ (hl k) (hm k)
    simp only [dotN, Int.natCast_add, Int.mul_add, Int.natCast_one, Int.mul_one]
    omega

/-- A program: the costs, and the rows, each with what it is at most. -/
structure Lp where
  costs : List Int
  rows : List (List Int × Int)

def rowB (n : Nat) (r : List Int × Int) : Bool := (r.1.length == n) && withinB 12 r.1 && withinB 12 [r.2]

def Lp.may (p : Lp) : Bool := decide (1 ≤ p.costs.length) && decide (p.costs.length ≤ 4) && withinB 400 p.costs && decide (1 ≤ p.rows.length) && decide (p.rows.length ≤ 4) && p.rows.all (rowB p.costs.length)

theorem all_take_succ {α : Type} (f : α → Bool) (l : List α) (k : Nat) (h : k < l.length) (d : α) : (l.take (k + 1)).all f = ((l.take k).all f && f (l[k]?.getD d)) := by
  rw [List.take_add_one, List.all_append, List.getElem?_eq_getElem h]
  simp

theorem all_false_of {α : Type} (f : α → Bool) (l : List α) (k : Nat) (h : k < l.length) (d : α) (hf : f (l[k]?.getD d) = false) : l.all f = false := by
  rw [List.getElem?_eq_getElem h] at hf
  simp only [Option.getD_some] at hf
  rw [List.all_eq_false]
  exact ⟨_, List.getElem_mem h, by simpa using hf⟩

theorem all_full {α : Type} (f : α → Bool) (l : List α) (k : Nat) (h : k = l.length) (hf : (l.take k).all f = true) : l.all f = true := by
  rw [h, List.take_length] at hf; exact hf

/-- Does one of the numbers lie below 0? -/
def anyNeg (l : List Int) : Bool := l.any (fun n => decide (n < 0))

theorem anyNeg_take_succ (l : List Int) (k : Nat) (h : k < l.length) : anyNeg (l.take (k + 1)) = (anyNeg (l.take k) || decide (l[k]?.getD 0 < 0)) := by
  unfold anyNeg
  rw [List.take_add_one, List.any_append, List.getElem?_eq_getElem h]
  simp

theorem anyNeg_of (l : List Int) (k : Nat) (h : k < l.length) (hn : l[k]?.getD 0 < 0) : anyNeg l = true := by
  rw [List.getElem?_eq_getElem h] at hn
  simp only [Option.getD_some] at hn
  unfold anyNeg
  rw [List.any_eq_true]
  exact ⟨_, List.getElem_mem h, by simpa using hn⟩

/-- A row, held against a point. -/
def rowGoes (x : List Int) (d : Int) (r : List Int × Int) : Bool := decide (dotN r.1 x x.length ≤ r.2 * d)

def Lp.fits (p : Lp) (x : List Int) (d : Int) : Bool := p.may && (x.length == p.costs.length) && mayPB d x
def Lp.goes (p : Lp) (x : List Int) (d : Int) : Bool := p.fits x d && !anyNeg x && p.rows.all (rowGoes x d)

theorem Lp.may_of (p : Lp) (h : p.may = true) : (1 ≤ p.costs.length ∧ p.costs.length ≤ 4) ∧ withinB 400 p.costs = true ∧ (1 ≤ p.rows.length ∧ p.rows.length ≤ 4) ∧ p.rows.all (rowB p.costs.length) = true := by
  unfold Lp.may at h
  simp only [Bool.and_eq_true, decide_eq_true_eq] at h
  obtain ⟨⟨⟨⟨⟨h1, h2⟩, h3⟩, h4⟩, h5⟩, h6⟩ := h
  exact ⟨⟨h1, h2⟩, h3, ⟨h4, h5⟩, h6⟩

theorem Lp.may_c1 (p : Lp) (n : Nat) (e : n = p.costs.length) (h : (n : Int) < 1) : p.may = false := by
  unfold Lp.may; have : ¬ 1 ≤ p.costs.length := by omega
  simp [this]
theorem Lp.may_c4 (p : Lp) (n : Nat) (e : n = p.costs.length) (h : 4 < (n : Int)) : p.may = false := by
  unfold Lp.may; have : ¬ p.costs.length ≤ 4 := by omega
  simp [this]
theorem Lp.may_r1 (p : Lp) (n : Nat) (e : n = p.rows.length) (h : (n : Int) < 1) : p.may = false := by
  unfold Lp.may; have : ¬ 1 ≤ p.rows.length := by omega
  simp [this]
theorem Lp.may_r4 (p : Lp) (n : Nat) (e : n = p.rows.length) (h : 4 < (n : Int)) : p.may = false := by
  unfold Lp.may; have : ¬ p.rows.length ≤ 4 := by omega
  simp [this]
theorem Lp.may_w (p : Lp) (h : withinB 400 p.costs = false) : p.may = false := by
  unfold Lp.may; rw [h]; simp
theorem Lp.may_rows (p : Lp) (n m : Nat) (e : n = p.costs.length) (e' : m = p.rows.length) (h1 : 1 ≤ (n : Int)) (h2 : (n : Int) ≤ 4) (h3 : withinB 400 p.costs = true) (h4 : 1 ≤ (m : Int)) (h5 : (m : Int) ≤ 4) : p.may = p.rows.all (rowB n) := by
  unfold Lp.may
  have a1 : 1 ≤ p.costs.length := by omega
  have a2 : p.costs.length ≤ 4 := by omega
  have a3 : 1 ≤ p.rows.length := by omega
  have a4 : p.rows.length ≤ 4 := by omega
  rw [h3, e]
  simp [a1, a2, a3, a4]

theorem rowB_len (n : Nat) (r : List Int) (m : Int) (k : Nat) (e : k = r.length) (h : k ≠ n) : rowB n (r, m) = false := by
  unfold rowB; have : r.length ≠ n := by omega
  simp [this]
theorem rowB_w (n : Nat) (r : List Int) (m : Int) (h : withinB 12 r = false) : rowB n (r, m) = false := by
  unfold rowB; simp [h]
theorem rowB_m (n : Nat) (r : List Int) (m : Int) (h : withinB 12 [m] = false) : rowB n (r, m) = false := by
  unfold rowB; simp [h]
theorem rowB_ok (n : Nat) (r : List Int) (m : Int) (k : Nat) (e : k = r.length) (h : k = n) (h1 : withinB 12 r = true) (h2 : withinB 12 [m] = true) : rowB n (r, m) = true := by
  unfold rowB; have : r.length = n := by omega
  simp [this, h1, h2]

theorem Lp.row_of (p : Lp) (h : p.may = true) (k : Nat) (hk : k < p.rows.length) : (p.rows[k]?.getD ([], 0)).1.length = p.costs.length ∧ withinB 12 (p.rows[k]?.getD ([], 0)).1 = true ∧ (-12 ≤ (p.rows[k]?.getD ([], 0)).2 ∧ (p.rows[k]?.getD ([], 0)).2 ≤ 12) := by
  have := (Lp.may_of p h).2.2.2
  rw [List.all_eq_true] at this
  have := this _ (List.getElem_mem hk)
  rw [List.getElem?_eq_getElem hk]
  simp only [Option.getD_some]
  unfold rowB at this
  rw [withinB_one] at this
  simp only [Bool.and_eq_true, decide_eq_true_eq, beq_iff_eq] at this
  obtain ⟨⟨h1, h2⟩, h3⟩ := this
  exact ⟨h1, h2, h3⟩

theorem Lp.fits_of (p : Lp) (x : List Int) (d : Int) (h : p.fits x d = true) : p.may = true ∧ x.length = p.costs.length ∧ (1 ≤ d ∧ d ≤ 1073741824) ∧ withinB 1073741824 x = true := by
  unfold Lp.fits at h
  simp only [Bool.and_eq_true, beq_iff_eq] at h
  obtain ⟨⟨h1, h2⟩, h3⟩ := h
  unfold mayPB at h3
  simp only [Bool.and_eq_true] at h3
  obtain ⟨a, b, c, _⟩ := mayB_bd _ _ h3.1
  exact ⟨h1, h2, ⟨a, b⟩, c⟩

theorem Lp.goes_no (p : Lp) (x : List Int) (d : Int) (h : p.fits x d = false) : p.goes x d = false := by unfold Lp.goes; simp [h]
theorem Lp.goes_neg (p : Lp) (x : List Int) (d : Int) (h : anyNeg x = true) : p.goes x d = false := by unfold Lp.goes; simp [h]
theorem Lp.goes_rows (p : Lp) (x : List Int) (d : Int) (h : p.fits x d = true) (h1 : anyNeg x = false) : p.goes x d = p.rows.all (rowGoes x d) := by unfold Lp.goes; simp [h, h1]
theorem rowGoes_eq (x : List Int) (d : Int) (r : List Int) (m : Int) (n : Nat) (h : n = x.length) : rowGoes x d (r, m) = decide (dotN r x n ≤ m * d) := by unfold rowGoes; rw [h]

end Num
end Go.Proofs.Ytjpliphobnflpaa
