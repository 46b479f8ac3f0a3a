/- How an argument is read: a point, a program. -/
import Derived.Test.YtipcbhodlgoflabGreatRowBase
import Derived.Test.YtipcbhodlgoflabGreatBaseA
import Derived.Deep.Slices
import Derived.Deep.Fields
namespace Go.Proofs.YtipcbhodlgoflabGreat
open Go.ChangeShapes Go.WideShapes Go.ChangeAt Go.RowKit Go.Joins

theorem cellsRow : Tryz.prog.cellsOf 32 = 2 := by kernel_rfl
theorem cellsProg : Tryz.prog.cellsOf 25 = 2 := by kernel_rfl

/-- Two cells, read as a struct of two fields of one cell each. -/
theorem trod_two {H : Type} {enc : TypeId × Value → H} {P : Program} {w : World} {base : Nat} {spare : Nat → Bool} {held : Bool} {t : TypeId} {f0 f1 : Field} {fuel : Nat} {cs : List Value} {x : DataW H × List MemPlace}
    (ht : P.underlying t = some (.struct #[f0, f1])) (hone : Deep.oneCellFields P #[f0, f1] = true) (hC : P.cellsOf t = 2) (h : DataW.trod enc P w base spare held fuel t cs = some x) :
    ∃ c0 c1 y0 y1 n, cs = [c0, c1] ∧ DataW.trod enc P w base spare held n f0.type [c0] = some y0 ∧ DataW.trod enc P w base spare held n f1.type [c1] = some y1 := by
  obtain ⟨y0, y1, n, _, hl, h0, h1⟩ := trod_struct2 ht h
  obtain ⟨o0, k0⟩ := Deep.hone_of hone 0 f0 rfl
  obtain ⟨o1, k1⟩ := Deep.hone_of hone 1 f1 rfl
  rw [hC] at hl
  match cs, hl with
  | [c0, c1], _ => exact ⟨c0, c1, y0, y1, n, rfl, by simpa [o0, k0] using h0, by simpa [o1, k1] using h1⟩

theorem trod_rows {H : Type} {enc : TypeId × Value → H} {W : World} {base fuel : Nat} {v : Value} {x : DataW H × List MemPlace}
    (h : DataW.trod enc Tryz.prog W base (fun _ => true) true fuel 23 [v] = some x) :
    ∃ a len cap l, v = .slice a len cap ∧ RowsAt W a len l ∧ len ≤ maxLen := by
  rcases Deep.open_slice Tryz.underlying23 h with ⟨hcs, hx⟩ | ⟨a, len, cap, m, n, D, Pl, hcs, hb, hl, hm, hmm, hx, hel⟩
  · simp only [List.cons.injEq, and_true] at hcs
    exact ⟨none, 0, 0, [], hcs, ⟨rfl, Or.inl rfl⟩, by unfold maxLen; omega⟩
  · simp only [List.cons.injEq, and_true] at hcs
    simp only [if_true] at hmm
    have one : ∀ i, i < len → ∃ r : List Int × Int, ∃ ra rl rc, W.cell? (a.add (i * 2)) = some (.slice ra rl rc) ∧ W.cell? (a.add (i * 2 + 1)) = some (.int .i64 r.2) ∧ Ints W ra rl r.1 ∧ rl ≤ 9223372036854775807 := by
      intro i hi
      obtain ⟨cs', hc, ht⟩ := hel i (by omega)
      rw [cellsRow] at hc
      obtain ⟨c0, c1, y0, y1, n', rfl, h0, h1⟩ := trod_two Tryz.underlying32 (by kernel_rfl) cellsRow ht
      obtain ⟨_, _, hcell⟩ := World.cells?_some hc
      obtain ⟨ra, rl, rc, l, rfl, hints, _, _, hmax⟩ := trod_ints64 h0
      obtain ⟨z, e1, _, _⟩ := DataW.trod_int Tryz.underlying2 h1
      simp only [List.cons.injEq, and_true] at e1
      subst e1
      have k0 := hcell 0 (by omega)
      have k1 := hcell 1 (by omega)
      rw [Deep.add_add] at k0 k1
      exact ⟨(l, z), ra, rl, rc, by simpa using k0, by simpa using k1, hints, by unfold maxLen at hmax; omega⟩
    obtain ⟨R, hR⟩ := Deep.choose_lt (α := List Int × Int) one
    refine ⟨some a, len, cap, (List.range len).map R, hcs, ⟨by simp, ?_⟩, by omega⟩
    by_cases h0 : len = 0
    · exact Or.inl h0
    · right
      obtain ⟨ra0, rl0, rc0, k0, _⟩ := hR 0 (by omega)
      obtain ⟨b, off, spot⟩ := a
      have hspot : spot = none := by simpa [Addr.add] using World.cell?_spot k0
      subst hspot
      refine ⟨b, off, rfl, World.block_lt_of_cell? W ⟨b, off, none⟩ (by simpa [Addr.add] using k0), fun j hj => ?_⟩
      obtain ⟨ra, rl, rc, c0, c1, hi, hr⟩ := hR j hj
      have e : ((List.range len).map R)[j]?.getD ([], 0) = R j := by
        rw [List.getElem?_map, List.getElem?_range hj]; rfl
      rw [e]
      rw [add_plain] at c0 c1
      exact ⟨ra, rl, rc, c0, by rw [Nat.add_assoc]; exact c1, hi, hr⟩

set_option maxRecDepth 100000 in
theorem open_prog {H : Type} {enc : TypeId × Value → H} {W : World} {base b0 : Nat} {r : Reach} {v : Value} {d : DataW H} {p : List MemPlace}
    (hv : Value.okWide Tryz.prog W r b0 25 v) (h : DataW.Trod enc Tryz.prog W base (fun _ => true) true 25 v d p) :
    ∃ ca cl cc ra rl rc q, v = .agg #[.slice ca cl cc, .slice ra rl rc] ∧ Ints W ca cl (Num.Lp.costs q) ∧ cl ≤ 9223372036854775807 ∧ RowsAt W ra rl (Num.Lp.rows q) ∧ rl ≤ 9223372036854775807 := by
  obtain ⟨c0, c1, y0, y1, m, rfl, rfl, rfl, hy0, hy1⟩ := open_agg2 Tryz.underlying25 (by kernel_rfl) cellsProg hv h
  obtain ⟨ca, cl, cc, l, rfl, hl, _, _, hm⟩ := trod_ints64 hy0
  obtain ⟨ra, rl, rc, rs, rfl, hr, hm'⟩ := trod_rows hy1
  unfold maxLen at hm hm'
  exact ⟨ca, cl, cc, ra, rl, rc, ⟨l, rs⟩, rfl, hl, by omega, hr, by omega⟩

end Go.Proofs.YtipcbhodlgoflabGreat

/- How an argument is read: a slice of ints. -/
namespace Go.Proofs.YtipcbhodlgoflabGreat
open Go.ChangeShapes Go.WideShapes Go.ChangeAt Go.RowKit Go.Joins

end Go.Proofs.YtipcbhodlgoflabGreat
