/- Spans of costs and of mosts: what is known of the numbers, and what the walk keeps. -/
import Derived.Test.YtloncgmgcnaalabSpnW3
import Derived.Test.YtloncgmgcnaalabSpn2
namespace Go.Proofs.Ytloncgmgcnaalab
open Go.RowKit

theorem Num.spanS_congr (a b a' b' : Nat → Int) (N : Nat) (h : ∀ j, j < N → a j = a' j ∧ b j = b' j) : Num.spanS a b N = Num.spanS a' b' N := by
  induction N with
  | zero => rfl
  | succ N ih =>
    show Num.aboveS (Num.spanS a b N) (a N) (b N) = Num.aboveS (Num.spanS a' b' N) (a' N) (b' N)
    rw [ih (fun j hj => h j (by omega)), (h N (by omega)).1, (h N (by omega)).2]

theorem endsV_form (s : Num.Spn) : ∃ (o : Bool) (n d : Int) (o2 : Bool) (n2 d2 er : Int), endsV s = .tuple #[.agg #[.bool o, .int .i64 n, .int .i64 d], .agg #[.bool o2, .int .i64 n2, .int .i64 d2], .int .i64 er] := by
  unfold endsV
  split
  · exact ⟨_, _, _, _, _, _, _, rfl⟩
  · exact ⟨_, _, _, _, _, _, _, rfl⟩

/-- What is told where something is wrong. -/
def wrongV (er : Int) : Value := .tuple #[.agg #[.bool false, .int .i64 0, .int .i64 0], .agg #[.bool false, .int .i64 0, .int .i64 0], .int .i64 er]

/-- The span of costs. -/
def Num.costsN (p : Num.Lp) (at' y : List Int) : Num.Spn := Num.spanS (fun j => 0 - (Num.look p at').g[j]?.getD 0 * (Num.look (Num.withC p y) at').gd) (fun j => 0 - (Num.look (Num.withC p y) at').g[j]?.getD 0 * (Num.look p at').gd) (p.costs.length + p.rows.length)

def costsV (p : Num.Lp) (at' y : List Int) : Value := if (Num.look p at').err ≠ 0 then wrongV (Num.look p at').err else if y.length = p.costs.length ∧ Num.withinB 400 y = true then endsV (Num.costsN p at' y) else wrongV 1

/-- The span of mosts. -/
def Num.mostsN (p : Num.Lp) (at' y : List Int) : Num.Spn := Num.spanS (fun j => (Num.look p at').x[j]?.getD 0 * (Num.look (Num.withM p y) at').xd) (fun j => (Num.look (Num.withM p y) at').x[j]?.getD 0 * (Num.look p at').xd) (p.costs.length + p.rows.length)

def mostsV (p : Num.Lp) (at' y : List Int) : Value := if (Num.look p at').err ≠ 0 then wrongV (Num.look p at').err else if y.length = p.rows.length ∧ Num.withinB 12 y = true then endsV (Num.mostsN p at' y) else wrongV 1

/-- Where a look tells a corner, all is right. -/
theorem Num.look_ok_of (p : Num.Lp) (at' : List Int) (h : (Num.look p at').err = 0) : p.may = true ∧ Num.rightB at' p.rows.length (p.costs.length + p.rows.length) = true ∧ Num.denL p at' p.rows.length ≠ 0 := by
  cases hm : p.may with
  | false => rw [Num.look_form p at' hm] at h; exact absurd h (by decide)
  | true =>
    cases hr : Num.rightB at' p.rows.length (p.costs.length + p.rows.length) with
    | false => rw [Num.look_range p at' hm hr] at h; exact absurd h (by decide)
    | true =>
      by_cases hd : Num.denL p at' p.rows.length = 0
      · rw [Num.look_none p at' hm hr hd] at h; exact absurd h (by decide)
      · exact ⟨rfl, rfl, hd⟩

theorem Bx.other6 {b g : Nat} {vs : List Value} {w : World} (h : Bx b vs w) (hne : b ≠ g) (u0 u1 u2 u3 u4 u5 : Value) : Bx b vs ((((((w.setCell ⟨g, 0, none⟩ u0).setCell ⟨g, 1, none⟩ u1).setCell ⟨g, 2, none⟩ u2).setCell ⟨g, 3, none⟩ u3).setCell ⟨g, 4, none⟩ u4).setCell ⟨g, 5, none⟩ u5) :=
  (((((h.other hne 0 u0).other hne 1 u1).other hne 2 u2).other hne 3 u3).other hne 4 u4).other hne 5 u5

theorem Ints.setFar {w : World} {a : Option Addr} {n b j B : Nat} {l : List Int} (h : Ints w a n l) (hf : n = 0 ∨ ∃ g, a = some ⟨g, 0, none⟩ ∧ B ≤ g) (hb : b < B) (u : Value) : Ints (w.setCell ⟨b, j, none⟩ u) a n l := by
  refine ⟨h.1, ?_⟩
  rcases h.2 with h0 | ⟨b', off, e, hlt, hc⟩
  · exact Or.inl h0
  · rcases hf with h0 | ⟨g, e2, hg⟩
    · exact Or.inl h0
    · rw [e] at e2
      simp only [Option.some.injEq, Addr.mk.injEq] at e2
      refine Or.inr ⟨b', off, e, by simpa using hlt, fun k hk => ?_⟩
      rw [World.cell?_setCell_other _ _ _ _ (fun e => by injection e with e1; omega)]
      exact hc k hk

/-- What the last steps of span.Costs keep. -/
structure CS (w : World) (b9 b11 : Nat) (ga ga2 : Option Addr) (N gc gc2 : Nat) (dg dg2 : Int) (lg lg2 : List Int) (v : World) : Prop where
  bel : Below w.heap.size w v
  a4 : v.cell? ⟨b9, 4, none⟩ = some (.slice ga N gc)
  a5 : v.cell? ⟨b9, 5, none⟩ = some (.int .i64 dg)
  d4 : v.cell? ⟨b11, 4, none⟩ = some (.slice ga2 N gc2)
  d5 : v.cell? ⟨b11, 5, none⟩ = some (.int .i64 dg2)
  i9 : Ints v ga N lg
  i11 : Ints v ga2 N lg2
  r : ∃ x0 x1 x2, Bx (w.heap.size + 1) [x0, x1, x2] v
  t : ∃ x0 x1 x2, Bx (w.heap.size + 1 + 1) [x0, x1, x2] v
  h9 : w.heap.size + 1 + 1 + 1 ≤ b9
  h11 : w.heap.size + 1 + 1 + 1 ≤ b11
  hg : N = 0 ∨ ∃ g, ga = some ⟨g, 0, none⟩ ∧ w.heap.size + 1 + 1 + 1 ≤ g
  hg2 : N = 0 ∨ ∃ g, ga2 = some ⟨g, 0, none⟩ ∧ w.heap.size + 1 + 1 + 1 ≤ g

theorem CS.step {w : World} {b9 b11 : Nat} {ga ga2 : Option Addr} {N gc gc2 : Nat} {dg dg2 : Int} {lg lg2 : List Int} {v v' : World} (h : CS w b9 b11 ga ga2 N gc gc2 dg dg2 lg lg2 v) (hb : Below v.heap.size v v') : CS w b9 b11 ga ga2 N gc gc2 dg dg2 lg lg2 v' := by
  obtain ⟨x0, x1, x2, hr⟩ := h.r
  obtain ⟨y0, y1, y2, ht⟩ := h.t
  exact ⟨bstep h.bel hb, carry hb h.a4, carry hb h.a5, carry hb h.d4, carry hb h.d5, h.i9.below hb (Nat.le_refl _), h.i11.below hb (Nat.le_refl _), ⟨x0, x1, x2, hr.step hb⟩, ⟨y0, y1, y2, ht.step hb⟩, h.h9, h.h11, h.hg, h.hg2⟩

theorem cell_far {v : World} {b g i j : Nat} {u : Value} (h : b ≠ g) : (v.setCell ⟨g, j, none⟩ u).cell? ⟨b, i, none⟩ = v.cell? ⟨b, i, none⟩ := World.cell?_setCell_other _ _ _ _ (fun e => h (by injection e with e1; first | exact e1 | exact e1.symm))

theorem CS.set {w : World} {b9 b11 : Nat} {ga ga2 : Option Addr} {N gc gc2 : Nat} {dg dg2 : Int} {lg lg2 : List Int} {v : World} (h : CS w b9 b11 ga ga2 N gc gc2 dg dg2 lg lg2 v) (q i : Nat) (hq : q = w.heap.size + 1 ∨ q = w.heap.size + 1 + 1) (hi : i < 3) (u : Value) : CS w b9 b11 ga ga2 N gc gc2 dg dg2 lg lg2 (v.setCell ⟨q, i, none⟩ u) := by
  obtain ⟨x0, x1, x2, hr⟩ := h.r
  obtain ⟨y0, y1, y2, ht⟩ := h.t
  have h9 := h.h9
  have h11 := h.h11
  refine ⟨bset h.bel (by omega) _, by rw [cell_far (by omega)]; exact h.a4, by rw [cell_far (by omega)]; exact h.a5, by rw [cell_far (by omega)]; exact h.d4, by rw [cell_far (by omega)]; exact h.d5, h.i9.setFar h.hg (by omega) _, h.i11.setFar h.hg2 (by omega) _, ?_, ?_, h9, h11, h.hg, h.hg2⟩
  · rcases hq with rfl | rfl
    · match i, hi with
      | 0, _ => exact ⟨u, x1, x2, hr.set 0 u⟩
      | 1, _ => exact ⟨x0, u, x2, hr.set 1 u⟩
      | 2, _ => exact ⟨x0, x1, u, hr.set 2 u⟩
    · exact ⟨x0, x1, x2, hr.other (by omega) _ _⟩
  · rcases hq with rfl | rfl
    · exact ⟨y0, y1, y2, ht.other (by omega) _ _⟩
    · match i, hi with
      | 0, _ => exact ⟨u, y1, y2, ht.set 0 u⟩
      | 1, _ => exact ⟨y0, u, y2, ht.set 1 u⟩
      | 2, _ => exact ⟨y0, y1, u, ht.set 2 u⟩

theorem CS.set3r {w : World} {b9 b11 : Nat} {ga ga2 : Option Addr} {N gc gc2 : Nat} {dg dg2 : Int} {lg lg2 : List Int} {v : World} (h : CS w b9 b11 ga ga2 N gc gc2 dg dg2 lg lg2 v) (u0 u1 u2 : Value) : CS w b9 b11 ga ga2 N gc gc2 dg dg2 lg lg2 (((v.setCell ⟨w.heap.size + 1, 0, none⟩ u0).setCell ⟨w.heap.size + 1, 1, none⟩ u1).setCell ⟨w.heap.size + 1, 2, none⟩ u2) :=
  ((h.set _ 0 (Or.inl rfl) (by decide) u0).set _ 1 (Or.inl rfl) (by decide) u1).set _ 2 (Or.inl rfl) (by decide) u2

theorem CS.set3t {w : World} {b9 b11 : Nat} {ga ga2 : Option Addr} {N gc gc2 : Nat} {dg dg2 : Int} {lg lg2 : List Int} {v : World} (h : CS w b9 b11 ga ga2 N gc gc2 dg dg2 lg lg2 v) (u0 u1 u2 : Value) : CS w b9 b11 ga ga2 N gc gc2 dg dg2 lg lg2 (((v.setCell ⟨w.heap.size + 1 + 1, 0, none⟩ u0).setCell ⟨w.heap.size + 1 + 1, 1, none⟩ u1).setCell ⟨w.heap.size + 1 + 1, 2, none⟩ u2) :=
  ((h.set _ 0 (Or.inr rfl) (by decide) u0).set _ 1 (Or.inr rfl) (by decide) u1).set _ 2 (Or.inr rfl) (by decide) u2

theorem CS.cells {w : World} {b9 b11 : Nat} {ga ga2 : Option Addr} {N gc gc2 : Nat} {dg dg2 : Int} {lg lg2 : List Int} : ∃ F0 F1 F2 G0 G1 G2 : World → Value,
    ((∀ v, CS w b9 b11 ga ga2 N gc gc2 dg dg2 lg lg2 v → v.cell? ⟨w.heap.size + 1, 0, none⟩ = some (F0 v)) ∧ (∀ v, CS w b9 b11 ga ga2 N gc gc2 dg dg2 lg lg2 v → v.cell? ⟨w.heap.size + 1, 1, none⟩ = some (F1 v)) ∧ (∀ v, CS w b9 b11 ga ga2 N gc gc2 dg dg2 lg lg2 v → v.cell? ⟨w.heap.size + 1, 2, none⟩ = some (F2 v))) ∧
    ((∀ v, CS w b9 b11 ga ga2 N gc gc2 dg dg2 lg lg2 v → v.cell? ⟨w.heap.size + 1 + 1, 0, none⟩ = some (G0 v)) ∧ (∀ v, CS w b9 b11 ga ga2 N gc gc2 dg dg2 lg lg2 v → v.cell? ⟨w.heap.size + 1 + 1, 1, none⟩ = some (G1 v)) ∧ (∀ v, CS w b9 b11 ga ga2 N gc gc2 dg dg2 lg lg2 v → v.cell? ⟨w.heap.size + 1 + 1, 2, none⟩ = some (G2 v))) := by
  refine ⟨fun v => (v.cell? ⟨w.heap.size + 1, 0, none⟩).getD undef, fun v => (v.cell? ⟨w.heap.size + 1, 1, none⟩).getD undef, fun v => (v.cell? ⟨w.heap.size + 1, 2, none⟩).getD undef, fun v => (v.cell? ⟨w.heap.size + 1 + 1, 0, none⟩).getD undef, fun v => (v.cell? ⟨w.heap.size + 1 + 1, 1, none⟩).getD undef, fun v => (v.cell? ⟨w.heap.size + 1 + 1, 2, none⟩).getD undef, ⟨?_, ?_, ?_⟩, ?_, ?_, ?_⟩
  · intro v h; obtain ⟨x0, x1, x2, hr⟩ := h.r; simp only [hr.c 0 _ rfl, Option.getD_some]
  · intro v h; obtain ⟨x0, x1, x2, hr⟩ := h.r; simp only [hr.c 1 _ rfl, Option.getD_some]
  · intro v h; obtain ⟨x0, x1, x2, hr⟩ := h.r; simp only [hr.c 2 _ rfl, Option.getD_some]
  · intro v h; obtain ⟨x0, x1, x2, hr⟩ := h.t; simp only [hr.c 0 _ rfl, Option.getD_some]
  · intro v h; obtain ⟨x0, x1, x2, hr⟩ := h.t; simp only [hr.c 1 _ rfl, Option.getD_some]
  · intro v h; obtain ⟨x0, x1, x2, hr⟩ := h.t; simp only [hr.c 2 _ rfl, Option.getD_some]

theorem Num.costs_parts (p : Num.Lp) (at' y : List Int) (h : p.may = true ∧ Num.rightB at' p.rows.length (p.costs.length + p.rows.length) = true ∧ Num.denL p at' p.rows.length ≠ 0) (hly : y.length = p.costs.length) (hw : Num.withinB 400 y = true) (N : Nat) (hN : N = p.costs.length + p.rows.length) :
    (Num.look p at').g.length = N ∧ (Num.look (Num.withC p y) at').g.length = N ∧ (∀ j : Nat, -1073741824 ≤ (Num.look p at').g[j]?.getD 0 ∧ (Num.look p at').g[j]?.getD 0 ≤ 1073741824) ∧ (∀ j : Nat, -1073741824 ≤ (Num.look (Num.withC p y) at').g[j]?.getD 0 ∧ (Num.look (Num.withC p y) at').g[j]?.getD 0 ≤ 1073741824) ∧
    NBn N ((List.range N).map fun k => -((Num.look p at').g[k]?.getD 0)) ((List.range N).map fun k => -((Num.look (Num.withC p y) at').g[k]?.getD 0)) (Num.look p at').gd (Num.look (Num.withC p y) at').gd ∧
    Num.spanS (fun j => ((List.range N).map fun k => -((Num.look p at').g[k]?.getD 0))[j]?.getD 0 * (Num.look (Num.withC p y) at').gd) (fun j => ((List.range N).map fun k => -((Num.look (Num.withC p y) at').g[k]?.getD 0))[j]?.getD 0 * (Num.look p at').gd) N = Num.costsN p at' y := by
  obtain ⟨hm, hr, hd⟩ := h
  have hm2 := Num.withC_may p y hly hm hw
  have hd2 : Num.denL (Num.withC p y) at' p.rows.length ≠ 0 := by rw [Num.withC_den p y hly]; exact hd
  obtain ⟨_, l1, d1, b1, _⟩ := Num.look_gain p at' p.rows.length p.costs.length hm rfl rfl hr hd
  obtain ⟨_, l2, d2, b2, _⟩ := Num.look_gain (Num.withC p y) at' p.rows.length p.costs.length hm2 rfl hly.symm hr hd2
  have sp := (Num.costs_span p p.costs y at' p.rows.length p.costs.length rfl rfl rfl hly hm hm2 hr hd).1
  rw [Num.withC_self] at sp
  have key : ∀ (l : List Int) (e : Int) (j : Nat), j < N → ((List.range N).map fun k => -(l[k]?.getD 0))[j]?.getD 0 * e = 0 - l[j]?.getD 0 * e := by
    intro l e j hj
    rw [Num.range_getD, if_pos hj, Int.neg_mul, Int.zero_sub]
  have neg : ∀ (l : List Int), (∀ j : Nat, -1073741824 ≤ l[j]?.getD 0 ∧ l[j]?.getD 0 ≤ 1073741824) → ∀ j : Nat, -1073741824 ≤ ((List.range N).map fun k => -(l[k]?.getD 0))[j]?.getD 0 ∧ ((List.range N).map fun k => -(l[k]?.getD 0))[j]?.getD 0 ≤ 1073741824 := by
    intro l hl j
    rw [Num.range_getD]
    have := hl j
    split <;> omega
  have h1 := (p.may_of hm).1.2
  have h2 := (p.may_of hm).2.2.1.2
  refine ⟨by rw [l1, hN], by rw [l2, hN], b1, b2, ⟨by omega, neg _ b1, neg _ b2, by omega, by omega, fun j hj => ?_⟩, ?_⟩
  · rw [key _ _ j hj, key _ _ j hj]
    exact sp j
  · unfold Num.costsN
    rw [← hN]
    exact Num.spanS_congr _ _ _ _ N fun j hj => ⟨key _ _ j hj, key _ _ j hj⟩

theorem Num.mosts_parts (p : Num.Lp) (at' y : List Int) (h : p.may = true ∧ Num.rightB at' p.rows.length (p.costs.length + p.rows.length) = true ∧ Num.denL p at' p.rows.length ≠ 0) (hw : Num.withinB 12 y = true) (N : Nat) (hN : N = p.costs.length + p.rows.length) :
    (Num.look p at').x.length = N ∧ (Num.look (Num.withM p y) at').x.length = N ∧
    NBn N (Num.look p at').x (Num.look (Num.withM p y) at').x (Num.look p at').xd (Num.look (Num.withM p y) at').xd ∧
    Num.spanS (fun j => (Num.look p at').x[j]?.getD 0 * (Num.look (Num.withM p y) at').xd) (fun j => (Num.look (Num.withM p y) at').x[j]?.getD 0 * (Num.look p at').xd) N = Num.mostsN p at' y := by
  obtain ⟨hm, hr, hd⟩ := h
  have hm2 := Num.withM_may p y hm hw
  have hd2 : Num.denL (Num.withM p y) at' p.rows.length ≠ 0 := by rw [Num.withM_den p y at' _ rfl]; exact hd
  obtain ⟨_, l1, _, d1, b1, _⟩ := Num.look_parts p at' p.rows.length p.costs.length hm rfl rfl hr hd
  obtain ⟨_, l2, _, d2, b2, _⟩ := Num.look_parts (Num.withM p y) at' p.rows.length p.costs.length hm2 (Num.withM_len p y).symm rfl hr hd2
  have sp := (Num.mosts_span p (p.rows.map (·.2)) y at' p.rows.length p.costs.length rfl rfl (by rw [Num.withM_self]; exact hm) hm2 hr hd).1
  rw [Num.withM_self] at sp
  have h1 := (p.may_of hm).1.2
  have h2 := (p.may_of hm).2.2.1.2
  refine ⟨by rw [l1, hN], by rw [l2, hN], ⟨by omega, fun j => by have := b1 j; omega, fun j => by have := b2 j; omega, by omega, by omega, fun j _ => sp j⟩, ?_⟩
  unfold Num.mostsN
  rw [← hN]

end Go.Proofs.Ytloncgmgcnaalab
