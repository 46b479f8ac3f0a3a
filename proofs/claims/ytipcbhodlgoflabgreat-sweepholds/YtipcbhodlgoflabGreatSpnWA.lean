/- What the document's whole, above, end and Small do (chapter 7). -/
import Derived.Test.YtipcbhodlgoflabGreatPlnB
import Derived.Test.YtipcbhodlgoflabGreatBxs
namespace Go.Proofs.YtipcbhodlgoflabGreat
open Go.RowKit

theorem Num.may_bd {y x : Int} (h : Num.mayB y [x] = true) : (-1073741824 ≤ x ∧ x ≤ 1073741824) ∧ (1 ≤ y ∧ y ≤ 1073741824) := by
  have A := Num.mayB_bd _ _ h
  rw [Num.withinB_one] at A
  simp only [Bool.and_eq_true, decide_eq_true_eq] at A
  omega

end Go.Proofs.YtipcbhodlgoflabGreat

/- What the document's end and Small do (chapter 7), cornerwalkref8.In, and the law's own ends. -/
namespace Go.Proofs.YtipcbhodlgoflabGreat
open Go.RowKit

theorem frac_eq (d : Nat) (a b a' b' : Int) (w : World) : (Op.equalIn (d + 2) 36 (.agg #[.int .i64 a, .int .i64 b]) (.agg #[.int .i64 a', .int .i64 b'])).run Tryz.prog w = .ok ((a == a') && (b == b')) w := by
  have hS : Tryz.prog.underlying 36 = some (.struct (Tryz.prog.fieldsOf 36)) := by kernel_rfl
  have hp : Tryz.prog.stoodInHeld 36 = false := by kernel_rfl
  have u2 := Tryz.underlying2
  rw [run_equalIn_agg w (d + 1) 36 _ _ hS hp]
  simp only [Program.fieldsOf, Tryz.underlying36]
  go_simp
  by_cases h1 : a = a' <;> by_cases h2 : b = b' <;> simp [h1, h2]

theorem end_eq (o : Bool) (a b : Int) (o' : Bool) (a' b' : Int) (w : World) : (Op.equalIn 10000 45 (.agg #[.bool o, .int .i64 a, .int .i64 b]) (.agg #[.bool o', .int .i64 a', .int .i64 b'])).run Tryz.prog w = .ok ((o == o') && ((a == a') && (b == b'))) w := by
  have hS : Tryz.prog.underlying 45 = some (.struct (Tryz.prog.fieldsOf 45)) := by kernel_rfl
  have hp : Tryz.prog.stoodInHeld 45 = false := by kernel_rfl
  have u2 := Tryz.underlying4
  have hF := frac_eq 9997 a b a' b'
  rw [show (10000 : Nat) = 9999 + 1 from rfl, run_equalIn_agg w 9999 45 _ _ hS hp]
  simp only [Program.fieldsOf, Tryz.underlying45]
  go_simp
  cases o <;> cases o' <;> by_cases h1 : a = a' <;> by_cases h2 : b = b' <;> simp [h1, h2]

/-- Is a number within a span that is not empty? -/
def Num.inSpn (s : Num.Spn) (k e : Int) : Bool := (s.o || decide (0 ≤ k * s.d - s.n * e)) && (s.o2 || decide (k * s.d2 - s.n2 * e ≤ 0))

end Go.Proofs.YtipcbhodlgoflabGreat
