/- Spans of costs and of mosts. -/
import Derived.Test.YtloncgmgcnaalabSpn1
import Derived.Test.YtloncgmgcnaalabSpnF
namespace Go.Proofs.Ytloncgmgcnaalab
namespace Num

/-- The span of costs, as the document tells it, is the corner's own. -/
theorem costs_span (p : Lp) (c1 c2 : List Int) (at' : List Int) (m n : Nat) (hm : m = p.rows.length) (hn : n = p.costs.length) (l1 : c1.length = p.costs.length) (l2 : c2.length = p.costs.length)
    (m1 : (withC p c1).may = true) (m2 : (withC p c2).may = true) (hr : rightB at' m (n + m) = true) (hd : denL p at' m ≠ 0) :
    (∀ j : Nat, SmallP (0 - (look (withC p c1) at').g[j]?.getD 0 * (look (withC p c2) at').gd) (0 - (look (withC p c2) at').g[j]?.getD 0 * (look (withC p c1) at').gd)) ∧
    SpanIs (fun j => 0 - (look (withC p c1) at').g[j]?.getD 0 * (look (withC p c2) at').gd) (fun j => 0 - (look (withC p c2) at').g[j]?.getD 0 * (look (withC p c1) at').gd) (n + m)
      (spanS (fun j => 0 - (look (withC p c1) at').g[j]?.getD 0 * (look (withC p c2) at').gd) (fun j => 0 - (look (withC p c2) at').g[j]?.getD 0 * (look (withC p c1) at').gd) (n + m)) := by
  have hsm : ∀ j : Nat, SmallP (0 - (look (withC p c1) at').g[j]?.getD 0 * (look (withC p c2) at').gd) (0 - (look (withC p c2) at').g[j]?.getD 0 * (look (withC p c1) at').gd) := by
    intro j
    have al := costs_alike p c1 c2 at' m n hm hn l1 l2 m1 m2 hr hd j
    obtain ⟨_, _, d1, b1, _⟩ := look_gain (withC p c1) at' m n m1 hm (by rw [hn]; exact l1.symm) hr (by rw [withC_den p _ l1]; exact hd)
    obtain ⟨_, _, d2, b2, _⟩ := look_gain (withC p c2) at' m n m2 hm (by rw [hn]; exact l2.symm) hr (by rw [withC_den p _ l2]; exact hd)
    have b1 := b1 j
    have b2 := b2 j
    have g1 := gain_bd (withC p c1) at' m (n + m) m1 hm j
    have g2 := gain_bd (withC p c2) at' m (n + m) m2 hm j
    have sb : ∀ x : Int, -1073741824 ≤ x ∧ x ≤ 1073741824 → -1073741824 ≤ -(sgD p at' m * x) ∧ -(sgD p at' m * x) ≤ 1073741824 := fun x hx => by unfold sgD; split <;> omega
    have pb : ∀ x y : Int, -1073741824 ≤ x ∧ x ≤ 1073741824 → 1 ≤ y ∧ y ≤ 497664 → -4611686018427387904 ≤ 0 - x * y ∧ 0 - x * y ≤ 4611686018427387904 := by
      intro x y hx hy
      have p1 := Int.mul_le_mul_of_nonneg_right hx.2 (show 0 ≤ y by omega)
      have p2 := Int.mul_le_mul_of_nonneg_right hx.1 (show 0 ≤ y by omega)
      omega
    exact small_of _ _ _ _ al (sb _ g1) (sb _ g2) (pb _ _ b1 d2) (pb _ _ b2 d1)
  exact ⟨hsm, span_is _ _ _ fun j _ => hsm j⟩

theorem withM_row (p : Lp) (b : List Int) (i : Nat) (hi : i < p.rows.length) : (withM p b).rows[i]?.getD ([], 0) = ((p.rows[i]?.getD ([], 0)).1, b[i]?.getD 0) := by
  unfold withM
  rw [List.getElem?_map, List.getElem?_range hi]
  rfl

theorem withM_len (p : Lp) (b : List Int) : (withM p b).rows.length = p.rows.length := by simp [withM]

theorem withM_self (p : Lp) : withM p (p.rows.map (·.2)) = p := by
  obtain ⟨c, rows⟩ := p
  unfold withM
  have : ((List.range rows.length).map fun i => ((rows[i]?.getD ([], 0)).1, ((rows.map (·.2))[i]?.getD 0))) = rows := by
    refine List.ext_getElem (by simp) fun i h1 h2 => ?_
    rw [List.getElem_map, List.getElem_range, List.getElem?_map, List.getElem?_eq_getElem h2]
    rfl
  show Lp.mk c _ = Lp.mk c rows
  rw [this]

theorem withM_has (p : Lp) (b : List Int) (j i : Nat) (hi : i < p.rows.length) : hasF (withM p b) j i = hasF p j i := by
  unfold hasF
  rw [show (withM p b).costs.length = p.costs.length from rfl, withM_row p b i hi]

theorem withM_chosen (p : Lp) (b : List Int) (at' : List Int) (m : Nat) (hm : m = p.rows.length) : chosenL (withM p b) at' m = chosenL p at' m := by
  unfold chosenL
  refine List.map_congr_left fun k _ => ?_
  exact List.map_congr_left fun i hi => withM_has p b _ i (by rw [← hm]; exact List.mem_range.1 hi)

theorem withM_den (p : Lp) (b : List Int) (at' : List Int) (m : Nat) (hm : m = p.rows.length) : denL (withM p b) at' m = denL p at' m := by
  unfold denL
  rw [withM_chosen p b at' m hm]

theorem withM_sg (p : Lp) (b : List Int) (at' : List Int) (m : Nat) (hm : m = p.rows.length) : sgD (withM p b) at' m = sgD p at' m := by
  unfold sgD
  rw [withM_den p b at' m hm]

theorem withM_may (p : Lp) (b : List Int) (hmay : p.may = true) (hw : withinB 12 b = true) : (withM p b).may = true := by
  have hmay' := hmay
  unfold Lp.may at hmay ⊢
  rw [withM_len, show (withM p b).costs = p.costs from rfl]
  simp only [Bool.and_eq_true, decide_eq_true_eq] at hmay ⊢
  refine ⟨hmay.1, ?_⟩
  rw [List.all_eq_true]
  intro x hx
  unfold withM at hx
  obtain ⟨i, hi, rfl⟩ := List.mem_map.1 hx
  have hr := p.row_of hmay' i (List.mem_range.1 hi)
  have hbi := withinB_iff 12 b hw (by omega) i
  unfold rowB
  simp only [Bool.and_eq_true, beq_iff_eq]
  refine ⟨⟨hr.1, hr.2.1⟩, ?_⟩
  rw [withinB_one]
  simp only [Bool.and_eq_true, decide_eq_true_eq]
  omega

/-- The numbers by which the document tells a span of mosts are those of the corner, but for a factor. -/
theorem mosts_alike (p : Lp) (b1 b2 : List Int) (at' : List Int) (m n : Nat) (hm : m = p.rows.length) (hn : n = p.costs.length)
    (m1 : (withM p b1).may = true) (m2 : (withM p b2).may = true) (hr : rightB at' m (n + m) = true) (hd : denL p at' m ≠ 0) (j : Nat) :
    Alike (sgD p at' m * (xL (withM p b1) at' m (n + m))[j]?.getD 0) (sgD p at' m * (xL (withM p b2) at' m (n + m))[j]?.getD 0)
      ((look (withM p b1) at').x[j]?.getD 0 * (look (withM p b2) at').xd) ((look (withM p b2) at').x[j]?.getD 0 * (look (withM p b1) at').xd) := by
  obtain ⟨_, _, _, _, _, g, _, g0, _, a1, a2, _⟩ := look_parts (withM p b1) at' m n m1 (by rw [withM_len]; exact hm) hn hr (by rw [withM_den p _ at' m hm]; exact hd)
  obtain ⟨_, _, _, _, _, h, _, h0, _, c1, c2, _⟩ := look_parts (withM p b2) at' m n m2 (by rw [withM_len]; exact hm) hn hr (by rw [withM_den p _ at' m hm]; exact hd)
  have a1 := a1 j
  have c1 := c1 j
  rw [withM_sg p _ at' m hm] at a1 a2 c1 c2
  rw [withM_den p _ at' m hm] at a2 c2
  refine ⟨sgD p at' m * denL p at' m, g * h, sgD_pos p at' m hd, Int.mul_pos g0 h0, ?_, ?_⟩
  · rw [a1, c2]; grind
  · rw [c1, a2]; grind

theorem mosts_span (p : Lp) (b1 b2 : List Int) (at' : List Int) (m n : Nat) (hm : m = p.rows.length) (hn : n = p.costs.length)
    (m1 : (withM p b1).may = true) (m2 : (withM p b2).may = true) (hr : rightB at' m (n + m) = true) (hd : denL p at' m ≠ 0) :
    (∀ j : Nat, SmallP ((look (withM p b1) at').x[j]?.getD 0 * (look (withM p b2) at').xd) ((look (withM p b2) at').x[j]?.getD 0 * (look (withM p b1) at').xd)) ∧
    SpanIs (fun j => (look (withM p b1) at').x[j]?.getD 0 * (look (withM p b2) at').xd) (fun j => (look (withM p b2) at').x[j]?.getD 0 * (look (withM p b1) at').xd) (n + m)
      (spanS (fun j => (look (withM p b1) at').x[j]?.getD 0 * (look (withM p b2) at').xd) (fun j => (look (withM p b2) at').x[j]?.getD 0 * (look (withM p b1) at').xd) (n + m)) := by
  have hsm : ∀ j : Nat, SmallP ((look (withM p b1) at').x[j]?.getD 0 * (look (withM p b2) at').xd) ((look (withM p b2) at').x[j]?.getD 0 * (look (withM p b1) at').xd) := by
    intro j
    have al := mosts_alike p b1 b2 at' m n hm hn m1 m2 hr hd j
    obtain ⟨_, _, _, d1, e1, _⟩ := look_parts (withM p b1) at' m n m1 (by rw [withM_len]; exact hm) hn hr (by rw [withM_den p _ at' m hm]; exact hd)
    obtain ⟨_, _, _, d2, e2, _⟩ := look_parts (withM p b2) at' m n m2 (by rw [withM_len]; exact hm) hn hr (by rw [withM_den p _ at' m hm]; exact hd)
    have e1 := e1 j
    have e2 := e2 j
    have g1 := x_bd (withM p b1) at' m (n + m) m1 (by rw [withM_len]; exact hm) j
    have g2 := x_bd (withM p b2) at' m (n + m) m2 (by rw [withM_len]; exact hm) j
    have s1 := sgD_bd p at' m _ g1
    have s2 := sgD_bd p at' m _ g2
    have pb : ∀ x y : Int, -497664 ≤ x ∧ x ≤ 497664 → 1 ≤ y ∧ y ≤ 497664 → -4611686018427387904 ≤ x * y ∧ x * y ≤ 4611686018427387904 := by
      intro x y hx hy
      have p1 := Int.mul_le_mul_of_nonneg_right hx.2 (show 0 ≤ y by omega)
      have p2 := Int.mul_le_mul_of_nonneg_right hx.1 (show 0 ≤ y by omega)
      omega
    exact small_of _ _ _ _ al (by omega) (by omega) (pb _ _ e1 d2) (pb _ _ e2 d1)
  exact ⟨hsm, span_is _ _ _ fun j _ => hsm j⟩

end Num
end Go.Proofs.Ytloncgmgcnaalab
