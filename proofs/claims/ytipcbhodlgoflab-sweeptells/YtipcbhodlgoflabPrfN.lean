/- What proves an answer, in plain numbers. -/
import Derived.Test.YtipcbhodlgoflabCornW
namespace Go.Proofs.Ytipcbhodlgoflab
namespace Num

/-- An answer: its kind, three points, a fraction. -/
structure Ans where
  kind : Int
  x : List Int
  xd : Int
  y : List Int
  yd : Int
  r : List Int
  rd : Int
  wn : Int
  wd : Int

/-- Does anything stand in a point? -/
def thereB (l : List Int) (d : Int) : Bool := decide (0 < l.length) || (d != 0)

def zeroW (wn wd : Int) : Bool := (wn == 0) && (wd == 0)

/-- A point of so many numbers, none below 0. -/
def pointB (m : Nat) (y : List Int) (yd : Int) : Bool := (y.length == m) && mayPB yd y && !anyNeg y

/-- What the column j has in m rows. -/
def colL (p : Lp) (m j : Nat) : List Int := (List.range m).map (hasF p j)

def costB (p : Lp) (m : Nat) (y : List Int) (yd : Int) (c : List Int) (j : Nat) : Bool := decide (c[j]?.getD 0 * yd ≤ dotN (colL p m j) y m)

/-- At the prices y each variable costs at least what c says. -/
def coversB (p : Lp) (m : Nat) (y : List Int) (yd : Int) (c : List Int) : Bool := pointB m y yd && (List.range c.length).all (costB p m y yd c)

def pricedN (p : Lp) (m : Nat) (y : List Int) : Int := dotN (mostsL p m) y m

def bestB (p : Lp) (a : Ans) : Bool := p.goes a.x a.xd && coversB p p.rows.length a.y a.yd p.costs && decide (mk (dotN p.costs a.x p.costs.length) a.xd = (a.wn, a.wd, 0)) && decide (mk (pricedN p p.rows.length a.y) a.yd = (a.wn, a.wd, 0))

def rowLevel (r : List Int) (n : Nat) (q : List Int × Int) : Bool := decide (dotN q.1 r n ≤ 0)

def endlessB (p : Lp) (a : Ans) : Bool := p.goes a.x a.xd && (a.rd == 1) && pointB p.costs.length a.r a.rd && p.rows.all (rowLevel a.r p.costs.length) && decide (0 < dotN p.costs a.r p.costs.length)

def nothingB (p : Lp) (a : Ans) : Bool := (a.yd == 1) && coversB p p.rows.length a.y a.yd (List.replicate p.costs.length 0) && decide (pricedN p p.rows.length a.y < 0)

def holds (p : Lp) (a : Ans) : Bool :=
  p.may && (if a.kind = 1 then !thereB a.r a.rd && bestB p a else if a.kind = 2 then !thereB a.y a.yd && zeroW a.wn a.wd && endlessB p a else if a.kind = 3 then !thereB a.x a.xd && !thereB a.r a.rd && zeroW a.wn a.wd && nothingB p a else false)

/-- A program whose rows are at most 0. -/
def level (p : Lp) : Lp := ⟨p.costs, p.rows.map fun q => (q.1, 0)⟩

end Num
end Go.Proofs.Ytipcbhodlgoflab

/- What is proved is so, in plain numbers. -/
namespace Go.Proofs.Ytipcbhodlgoflab
namespace Num

/-- The first n of f, together. -/
def sumN (f : Nat → Int) : Nat → Int
  | 0 => 0
  | k + 1 => sumN f k + f k

theorem sumN_congr (f g : Nat → Int) (n : Nat) (h : ∀ i, i < n → f i = g i) : sumN f n = sumN g n := by
  induction n with
  | zero => rfl
  | succ n ih => unfold sumN; rw [ih fun i hi => h i (by omega), h n (by omega)]

theorem sumN_le (f g : Nat → Int) (n : Nat) (h : ∀ i, i < n → f i ≤ g i) : sumN f n ≤ sumN g n := by
  induction n with
  | zero => exact Int.le_refl _
  | succ n ih =>
    unfold sumN
    have := ih fun i hi => h i (by omega)
    have := h n (by omega)
    omega

theorem sumN_mul (c : Int) (f : Nat → Int) (n : Nat) : sumN (fun i => c * f i) n = c * sumN f n := by
  induction n with
  | zero => simp [sumN]
  | succ n ih => unfold sumN; rw [ih, Int.mul_add]

theorem sumN_add (f g : Nat → Int) (n : Nat) : sumN (fun i => f i + g i) n = sumN f n + sumN g n := by
  induction n with
  | zero => rfl
  | succ n ih => unfold sumN; rw [ih]; omega

theorem sumN_zero (n : Nat) : sumN (fun _ => 0) n = 0 := by
  induction n with
  | zero => rfl
  | succ n ih => unfold sumN; rw [ih]; rfl

theorem sumN_swap (f : Nat → Nat → Int) (m n : Nat) : sumN (fun i => sumN (fun j => f i j) n) m = sumN (fun j => sumN (fun i => f i j) m) n := by
  induction m with
  | zero => exact (sumN_zero n).symm
  | succ m ih =>
    show sumN (fun i => sumN (fun j => f i j) n) m + sumN (fun j => f m j) n = sumN (fun j => sumN (fun i => f i j) m + f m j) n
    rw [ih, sumN_add]

theorem dotN_sum (l y : List Int) (k : Nat) : dotN l y k = sumN (fun i => l[i]?.getD 0 * y[i]?.getD 0) k := by
  induction k with
  | zero => rfl
  | succ k ih => unfold dotN sumN; rw [ih]

end Num
end Go.Proofs.Ytipcbhodlgoflab

/- If Endless is proved, there is no most, in plain numbers. -/
namespace Go.Proofs.Ytipcbhodlgoflab
namespace Num

end Num
end Go.Proofs.Ytipcbhodlgoflab
