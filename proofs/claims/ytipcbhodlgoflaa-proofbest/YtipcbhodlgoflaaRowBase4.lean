/- How an argument is read: an answer. -/
import Derived.Test.YtipcbhodlgoflaaRowBase23
import Derived.Test.YtipcbhodlgoflaaPrfN
namespace Go.Proofs.Ytipcbhodlgoflaa
open Go.ChangeShapes Go.WideShapes Go.ChangeAt Go.RowKit Go.Joins

theorem cellsAns : Try.prog.cellsOf 57 = 9 := by kernel_rfl
theorem cellsInt : Try.prog.cellsOf 3 = 1 := by kernel_rfl

theorem array9 {α : Type} {cs : Array α} (h : cs.size = 9) : ∃ c0 c1 c2 c3 c4 c5 c6 c7 c8, cs = #[c0, c1, c2, c3, c4, c5, c6, c7, c8] := by
  obtain ⟨l⟩ := cs
  match l, h with
  | [c0, c1, c2, c3, c4, c5, c6, c7, c8], _ => exact ⟨c0, c1, c2, c3, c4, c5, c6, c7, c8, rfl⟩

theorem trod_point {H : Type} {enc : TypeId × Value → H} {W : World} {base fuel : Nat} {u v : Value} {x : DataW H × List MemPlace}
    (h : DataW.trod enc Try.prog W base (fun _ => true) true fuel 29 [u, v] = some x) :
    ∃ a len cap l d, u = .slice a len cap ∧ v = .int .i64 d ∧ Ints W a len l ∧ len ≤ 9223372036854775807 := by
  obtain ⟨c0, c1, y0, y1, n, hcs, h0, h1⟩ := trod_two Try.underlying29 (by kernel_rfl) cellsPoint h
  simp only [List.cons.injEq, and_true] at hcs
  obtain ⟨rfl, rfl⟩ := hcs
  obtain ⟨a, len, cap, l, rfl, hints, _, _, hmax⟩ := trod_ints64 h0
  obtain ⟨z, e1, _, _⟩ := DataW.trod_int Try.underlying2 h1
  simp only [List.cons.injEq, and_true] at e1
  exact ⟨a, len, cap, l, z, rfl, e1, hints, by unfold maxLen at hmax; omega⟩

theorem trod_frac {H : Type} {enc : TypeId × Value → H} {W : World} {base fuel : Nat} {u v : Value} {x : DataW H × List MemPlace}
    (h : DataW.trod enc Try.prog W base (fun _ => true) true fuel 24 [u, v] = some x) :
    ∃ n d, u = .int .i64 n ∧ v = .int .i64 d := by
  obtain ⟨c0, c1, y0, y1, n, hcs, h0, h1⟩ := trod_two Try.underlying24 (by kernel_rfl) cellsFrac h
  simp only [List.cons.injEq, and_true] at hcs
  obtain ⟨rfl, rfl⟩ := hcs
  obtain ⟨z, e1, _, _⟩ := DataW.trod_int Try.underlying2 h0
  obtain ⟨z', e2, _, _⟩ := DataW.trod_int Try.underlying2 h1
  simp only [List.cons.injEq, and_true] at e1 e2
  exact ⟨z, z', e1, e2⟩

set_option maxRecDepth 100000 in
theorem open_answer {H : Type} {enc : TypeId × Value → H} {W : World} {base b0 : Nat} {r : Reach} {v : Value} {d : DataW H} {p : List MemPlace}
    (hv : Value.okWide Try.prog W r b0 57 v) (h : DataW.Trod enc Try.prog W base (fun _ => true) true 57 v d p) :
    ∃ (a : Num.Ans) (xa : Option Addr) (xl xc : Nat) (ya : Option Addr) (yl yc : Nat) (za : Option Addr) (zl zc : Nat), v = .agg #[.int .i64 a.kind, .slice xa xl xc, .int .i64 a.xd, .slice ya yl yc, .int .i64 a.yd, .slice za zl zc, .int .i64 a.rd, .int .i64 a.wn, .int .i64 a.wd] ∧
      Ints W xa xl a.x ∧ xl ≤ 9223372036854775807 ∧ Ints W ya yl a.y ∧ yl ≤ 9223372036854775807 ∧ Ints W za zl a.r ∧ zl ≤ 9223372036854775807 := by
  obtain ⟨cs, rfl, hsz⟩ := okWide_struct Try.underlying57 hv
  obtain ⟨c0, c1, c2, c3, c4, c5, c6, c7, c8, rfl⟩ := array9 (hsz.trans cellsAns)
  obtain ⟨fuel, hf⟩ := h
  obtain ⟨xs, n, _, _, _, hlen, hg⟩ := DataW.trod_struct Try.underlying57 hf
  match xs, hlen with
  | [y0, y1, y2, y3, y4], _ =>
    have g0 := hg 0 _ rfl
    have g1 := hg 1 _ rfl
    have g2 := hg 2 _ rfl
    have g3 := hg 3 _ rfl
    have g4 := hg 4 _ rfl
    obtain ⟨kd, e0, _, _⟩ := DataW.trod_int Try.underlying3 g0
    obtain ⟨xa, xl, xc, x, xd, e1, e2, hx, hxl⟩ := trod_point g1
    obtain ⟨ya, yl, yc, y, yd, e3, e4, hy, hyl⟩ := trod_point g2
    obtain ⟨za, zl, zc, z, zd, e5, e6, hz, hzl⟩ := trod_point g3
    obtain ⟨wn, wd, e7, e8⟩ := trod_frac g4
    simp [cellsInt, Value.cells] at e0
    subst e0 e1 e2 e3 e4 e5 e6 e7 e8
    exact ⟨⟨kd, x, xd, y, yd, z, zd, wn, wd⟩, xa, xl, xc, ya, yl, yc, za, zl, zc, rfl, hx, hxl, hy, hyl, hz, hzl⟩

end Go.Proofs.Ytipcbhodlgoflaa
