/- Package text's reading: what a line puts into the program (take). -/
import Derived.Test.YtipcbhodlgoflabDoorTxB
import Derived.Test.YtipcbhodlgoflabDoorRowA
import Derived.Deep.RegionLaw
import Derived.Deep.AppendLies
namespace Go.Proofs.YtipcbhodlgoflabDoor
open Go.RowKit

/-- Numbers of the call's own. -/
def Far (B n : Nat) (a : Option Addr) : Prop := n = 0 ∨ ∃ g, a = some ⟨g, 0, none⟩ ∧ B ≤ g

theorem Far.mono {B B' n : Nat} {a : Option Addr} (h : Far B n a) (hB : B' ≤ B) : Far B' n a := by
  rcases h with h | ⟨g, h, h'⟩
  · exact Or.inl h
  · exact Or.inr ⟨g, h, Nat.le_trans hB h'⟩

/-- A program that is being read: its box q, its costs, its rows. -/
structure PAt (B q : Nat) (w : World) (p : Num.Lp) (ca : Option Addr) (cl cc : Nat) (v : Value) (F : Nat → Value) : Prop where
  lo : q < B
  hi : B ≤ w.heap.size
  c0 : w.cell? ⟨q, 0, none⟩ = some (.slice ca cl cc)
  c1 : w.cell? ⟨q, 1, none⟩ = some v
  f0 : w.frozen? ⟨q, 0, none⟩ = false
  f1 : w.frozen? ⟨q, 1, none⟩ = false
  costs : Ints w ca cl p.costs
  few : cl ≤ 2000001
  far : Far B cl ca
  rows : RowsA w B v p.rows.length F (fun j => (p.rows[j]?.getD ([], 0)).2)
  each : ∀ j, j < p.rows.length → ∃ xa xl xc, F j = .slice xa xl xc ∧ Ints w xa xl (p.rows[j]?.getD ([], 0)).1 ∧ xl ≤ 2000001 ∧ Far B xl xa
  bare : p.rows.length = 0 → v = .slice none 0 0

def PA (B q : Nat) (w : World) (p : Num.Lp) : Prop := ∃ ca cl cc v F, PAt B q w p ca cl cc v F

theorem PAt.kept {B q : Nat} {w w' : World} {p : Num.Lp} {ca : Option Addr} {cl cc : Nat} {v : Value} {F : Nat → Value} (h : PAt B q w p ca cl cc v F) (hb : Below w.heap.size w w') : PAt B q w' p ca cl cc v F where
  lo := h.lo
  hi := Nat.le_trans h.hi hb.size
  c0 := carry hb h.c0
  c1 := carry hb h.c1
  f0 := carryF hb h.c0 h.f0
  f1 := carryF hb h.c1 h.f1
  costs := h.costs.below hb (Nat.le_refl _)
  few := h.few
  far := h.far
  rows := h.rows.kept hb
  each := fun j hj => by
    obtain ⟨xa, xl, xc, e, hi, hx, hf⟩ := h.each j hj
    exact ⟨xa, xl, xc, e, hi.below hb (Nat.le_refl _), hx, hf⟩
  bare := h.bare

theorem PA.kept {B q : Nat} {w w' : World} {p : Num.Lp} (h : PA B q w p) (hb : Below w.heap.size w w') : PA B q w' p := by
  obtain ⟨ca, cl, cc, v, F, h⟩ := h
  exact ⟨ca, cl, cc, v, F, h.kept hb⟩

/-- New costs. -/
theorem PAt.setCosts {B q : Nat} {w : World} {p : Num.Lp} {ca : Option Addr} {cl cc : Nat} {v : Value} {F : Nat → Value} (h : PAt B q w p ca cl cc v F) {a : Option Addr} {n c : Nat} {l : List Int} (hi : Ints w a n l) (hn : n ≤ 2000001) (hf : Far B n a) :
    PAt B q (w.setCell ⟨q, 0, none⟩ (.slice a n c)) ⟨l, p.rows⟩ a n c v F where
  lo := h.lo
  hi := by simpa using h.hi
  c0 := cell_set_eq h.c0
  c1 := by rw [cell_set_ne (by decide)]; exact h.c1
  f0 := by simpa using h.f0
  f1 := by simpa using h.f1
  costs := Ints.set hi hf h.lo _
  few := hn
  far := hf
  rows := h.rows.setLow h.lo _
  each := fun j hj => by
    obtain ⟨xa, xl, xc, e, hi, hx, hf⟩ := h.each j hj
    exact ⟨xa, xl, xc, e, Ints.set hi hf h.lo _, hx, hf⟩
  bare := h.bare

theorem Ints.grownC {W w2 : World} {row : Option Nat} {a : Option Addr} {n : Nat} {l : List Int} (hi : Ints W a n l) (hg : W.grownBy w2 row) (hne : n = 0 ∨ ∃ g, a = some ⟨g, 0, none⟩ ∧ some g ≠ row) : Ints w2 a n l := by
  refine ⟨hi.1, ?_⟩
  rcases hne with h0 | ⟨g, ha, hne⟩
  · exact Or.inl h0
  · rcases hi.2 with h0 | ⟨b, off, hab, hb, hc⟩
    · exact Or.inl h0
    · rw [ha] at hab
      have e := Option.some.inj hab
      simp only [Addr.mk.injEq] at e
      obtain ⟨rfl, rfl, _⟩ := e
      refine Or.inr ⟨g, 0, ha, Nat.lt_of_lt_of_le hb hg.size, fun j hj => ?_⟩
      rw [hg.cell_far ⟨g, 0 + j, none⟩ hb hne]
      exact hc j hj

/-- Numbers do not lie where rows do. -/
theorem PAt.apart {B q : Nat} {w : World} {p : Num.Lp} {ca : Option Addr} {cl cc : Nat} {v : Value} {F : Nat → Value} (h : PAt B q w p ca cl cc v F) {a : Option Addr} {n : Nat} {l : List Int} (hi : Ints w a n l) (hf : Far B n a) :
    n = 0 ∨ ∃ g, a = some ⟨g, 0, none⟩ ∧ some g ≠ v.ownBlock := by
  rcases hf with h0 | ⟨g, ha, _⟩
  · exact Or.inl h0
  by_cases hn : n = 0
  · exact Or.inl hn
  refine Or.inr ⟨g, ha, fun e => ?_⟩
  by_cases hr : p.rows.length = 0
  · rw [h.bare hr] at e; cases e
  · obtain ⟨vs, hown, hin⟩ := h.rows
    obtain ⟨g', c', rfl, _, _⟩ := hown.form (by omega)
    have e : g = g' := by simpa [Value.ownBlock] using e
    subst e
    have k0 := hown.cellAt 0 (by omega)
    have k1 := (hin 0 (by omega)).1
    rw [Nat.zero_mul] at k1
    rw [k1] at k0
    obtain ⟨xa, xl, xc, e, _⟩ := h.each 0 (by omega)
    rw [e] at k0
    rcases hi.2 with h0 | ⟨b, off, hab, hb, hc⟩
    · exact hn h0
    · rw [ha] at hab
      have e := Option.some.inj hab
      simp only [Addr.mk.injEq] at e
      obtain ⟨rfl, rfl, _⟩ := e
      have := hc 0 (by omega)
      rw [Nat.zero_add, k0] at this
      cases this

/-- One row more. -/
theorem PAt.push {B q : Nat} {w2 : World} {p : Num.Lp} {ca : Option Addr} {cl cc : Nat} {v v' : Value} {F : Nat → Value} {vs : List Value} {W : World}
    (h : PAt B q W p ca cl cc v F) (hg : W.grownBy w2 v.ownBlock) (hown : W.ownsRow B 51 2 v p.rows.length vs) (hin : ∀ j, j < p.rows.length → vs[j * 2]? = some (F j) ∧ vs[j * 2 + 1]? = some (.int .i64 (p.rows[j]?.getD ([], 0)).2))
    {a : Option Addr} {n c : Nat} {l : List Int} {m : Int} (hi : Ints W a n l) (hn : n ≤ 2000001) (hf : Far B n a) (h' : w2.ownsRow B 51 2 v' (p.rows.length + 1) (vs ++ [.slice a n c, .int .i64 m])) :
    PA B q (w2.setCell ⟨q, 1, none⟩ v') ⟨p.costs, p.rows ++ [(l, m)]⟩ := by
  have hne : some q ≠ v.ownBlock := fun e => by
    have := (hown.lt _ e.symm).1
    have := h.lo
    omega
  have hqs : q < W.heap.size := Nat.lt_of_lt_of_le h.lo h.hi
  have gi : ∀ {a : Option Addr} {n : Nat} {l : List Int}, Ints W a n l → Far B n a → Ints w2 a n l := fun hi hf => hi.grownC hg (h.apart hi hf)
  have d0 : w2.cell? ⟨q, 0, none⟩ = some (.slice ca cl cc) := by rw [hg.cell_far ⟨q, 0, none⟩ hqs hne]; exact h.c0
  have d1 : w2.cell? ⟨q, 1, none⟩ = some v := by rw [hg.cell_far ⟨q, 1, none⟩ hqs hne]; exact h.c1
  have hlen : (p.rows ++ [(l, m)]).length = p.rows.length + 1 := by simp
  have old : ∀ j, j < p.rows.length → (p.rows ++ [(l, m)])[j]?.getD ([], 0) = p.rows[j]?.getD ([], 0) := fun j hj => by rw [List.getElem?_append_left hj]
  have new : (p.rows ++ [(l, m)])[p.rows.length]?.getD ([], 0) = (l, m) := by rw [List.getElem?_append_right (Nat.le_refl _), Nat.sub_self]; rfl
  refine ⟨ca, cl, cc, v', fun j => if j = p.rows.length then .slice a n c else F j, ?_⟩
  exact {
    lo := h.lo
    hi := by have := hg.size; have := h.hi; simp; omega
    c0 := by rw [cell_set_ne (by decide)]; exact d0
    c1 := cell_set_eq d1
    f0 := by
      have : w2.frozen? ⟨q, 0, none⟩ = false := by rw [hg.frozen_far ⟨q, 0, none⟩ hqs hne]; exact h.f0
      simpa using this
    f1 := by
      have : w2.frozen? ⟨q, 1, none⟩ = false := by rw [hg.frozen_far ⟨q, 1, none⟩ hqs hne]; exact h.f1
      simpa using this
    costs := Ints.set (gi h.costs h.far) h.far h.lo _
    few := h.few
    far := h.far
    rows := by
      show RowsA _ _ _ (p.rows ++ [(l, m)]).length _ _
      rw [hlen]
      refine RowsA.setLow (RowsA.push hown (fun j hj => ?_) (by simp) (by show m = _; rw [new]) h') h.lo _
      rw [if_neg (by omega), old j hj]
      exact hin j hj
    each := fun j hj => by
      show ∃ xa xl xc, (if j = p.rows.length then .slice a n c else F j) = .slice xa xl xc ∧ Ints _ xa xl ((p.rows ++ [(l, m)])[j]?.getD ([], 0)).1 ∧ xl ≤ 2000001 ∧ Far B xl xa
      have hj : j < (p.rows ++ [(l, m)]).length := hj
      rw [hlen] at hj
      by_cases e : j = p.rows.length
      · rw [if_pos e, e, new]
        exact ⟨a, n, c, rfl, Ints.set (gi hi hf) hf h.lo _, hn, hf⟩
      · rw [if_neg e, old j (by omega)]
        obtain ⟨xa, xl, xc, e, hi, hx, hf⟩ := h.each j (by omega)
        exact ⟨xa, xl, xc, e, Ints.set (gi hi hf) hf h.lo _, hx, hf⟩
    bare := fun e => by
      have e : (p.rows ++ [(l, m)]).length = 0 := e
      omega }

set_option maxRecDepth 8000 in
set_option maxHeartbeats 800000 in
theorem take_head (B q : Nat) (l : List UInt8) (w : World) (p : Num.Lp) (hP : PA B q w p) (hl : l.length < 4294967281) (hL : Laid w) :
    Calls Tryd.prog 22 #[.pointer (some ⟨q, 0, none⟩), .int .i64 0, .string (B8 l)] w fun e w' => e = .returned (.bool (Num.headP l).isSome) ∧ PA B q w' ⟨((Num.headP l).getD []).take 5, p.rows⟩ ∧ Below q w w' := by
  obtain ⟨ca, cl, cc, v, F, hA⟩ := hP
  have HA : Hid (PAt B q w p ca cl cc v F) := hA
  have HLL : Hid (l.length < 4294967281) := hl
  have hqs : q < w.heap.size := Nat.lt_of_lt_of_le hA.lo hA.hi
  clear hl hA
  go_enter Tryd.func22, Tryd.ntmps22
  go_wp2_with fail
  refine (readCosts_any l HLL.out w hL).mono ?_
  clear hL
  rintro e w1 ⟨a, n, c, rfl, hi, hn, hb, hfar⟩
  have HA1 : Hid (PAt B q w1 p ca cl cc v F) := HA.out.kept hb
  have c0 := HA1.out.c0
  have f0 := HA1.out.f0
  have HI : Hid (Ints w1 a n (((Num.headP l).getD []).take 5)) := hi
  generalize hok : (Num.headP l).isSome = ok
  have HOK : Hid ((Num.headP l).isSome = ok) := hok
  clear hi hok
  go_wp2_with fail
  go_ret
  exact ⟨by rw [HOK.out]; rfl, ⟨a, n, c, v, F, HA1.out.setCosts HI.out (by omega) (Far.mono hfar HA.out.hi)⟩, (hb.mono (Nat.le_of_lt hqs)).setCell (Nat.le_refl _) _⟩

/-- A program with one row more, if it has not too many. -/
def pushL (p : Num.Lp) (o : List Int) (m : Int) : Num.Lp := if p.rows.length ≤ 4 then ⟨p.costs, p.rows ++ [(o, m)]⟩ else p

/-- What a line that is a row says. -/
def RowTold (l : List UInt8) (o : List Int) (m : Int) : Prop := ∀ x, Num.rowP l = some x → x.1.take 5 = o ∧ x.2 = m

set_option maxRecDepth 8000 in
set_option maxHeartbeats 3200000 in
theorem take_row (B q k : Nat) (hk : 1 ≤ k) (hk2 : k ≤ 4294967296) (l : List UInt8) (w : World) (p : Num.Lp) (hP : PA B q w p) (hl : l.length < 4294967280) (h5 : p.rows.length ≤ 5) (hL : Laid w) :
    Calls Tryd.prog 22 #[.pointer (some ⟨q, 0, none⟩), .int .i64 k, .string (B8 l)] w fun e w' => e = .returned (.bool (Num.rowP l).isSome) ∧ (∃ o m, RowTold l o m ∧ PA B q w' (pushL p o m)) ∧ Below q w w' := by
  obtain ⟨ca, cl, cc, v, F, hA⟩ := hP
  have HA : Hid (PAt B q w p ca cl cc v F) := hA
  have HLL : Hid (l.length < 4294967280) := hl
  have hqs : q < w.heap.size := Nat.lt_of_lt_of_le hA.lo hA.hi
  have hk0 : ((k : Int) == 0) = false := by rw [beq_eq_false_iff_ne]; omega
  obtain ⟨i0, hif, hz0, hz1, hz2⟩ := info_parts Tryd.infoRow5
  clear hl hA
  go_enter Tryd.func22, Tryd.ntmps22
  go_wp2_with fail
  refine (readRow_any l HLL.out w hL).mono ?_
  clear hL
  rintro e w1 ⟨a, n, c, m, o, rfl, hi, hn, hq, hb, hfar⟩
  have HA1 : Hid (PAt B q w1 p ca cl cc v F) := HA.out.kept hb
  generalize hok : (Num.rowP l).isSome = ok
  have HOK : Hid ((Num.rowP l).isSome = ok) := hok
  have HQ : Hid (RowTold l (List.take 5 o) m) := fun x hx => by rw [hq x hx]; exact ⟨rfl, rfl⟩
  have HI : Hid (Ints w1 a n (List.take 5 o)) := hi
  have HF : Hid (Far B n a) := Far.mono hfar HA.out.hi
  have HBW : Hid (Below w.heap.size w w1) := hb
  have c1 := HA1.out.c1
  have f1 := HA1.out.f1
  have hq1 : q < w1.heap.size := Nat.lt_of_lt_of_le hqs hb.size
  have HLO : Hid (q < B) := HA.out.lo
  have HQW : Hid (q ≤ w.heap.size) := Nat.le_of_lt hqs
  have HHI : Hid (B ≤ w1.heap.size) := HA1.out.hi
  obtain ⟨va, vc, hv⟩ := HA1.out.rows.shape
  generalize hrl : p.rows.length = rl at *
  have HRL : Hid (p.rows.length = rl) := hrl
  subst hv
  clear hi hok hq hb hfar HA hqs hrl
  by_cases h4 : (rl : Int) ≤ 4
  · obtain ⟨vs, hov, hvin⟩ := HA1.out.rows
    have hone : ∀ u ∈ [Value.slice a n c, Value.int .i64 m], u.oneCell' = true := by
      intro u hu
      simp only [List.mem_cons, List.not_mem_nil, or_false] at hu
      rcases hu with rfl | rfl <;> rfl
    have HONE : Hid _ := hone
    have HVIN : Hid _ := hvin
    have HOW : Hid (w1.ownsRow B 51 2 (.slice va rl vc) rl vs) := by rw [HRL.out] at hov; exact hov
    have HOV : Hid (((w1.alloc (.cells #[.slice a n c, .int .i64 m] 51)).alloc (.cells #[.slice a n c, .int .i64 m] 51)).ownsRow B 51 2 (.slice va rl vc) rl vs) := (HOW.out.alloc _).alloc _
    have HST : Hid (∀ W w2 g cap, Below w1.heap.size w1 W → W.grownBy w2 (Value.slice va rl vc).ownBlock → w2.ownsRow B 51 2 (.slice (some ⟨g, 0, none⟩) (rl + 1) cap) (rl + 1) (vs ++ [.slice a n c, .int .i64 m]) →
        w2.cell? ⟨q, 1, none⟩ = some (.slice va rl vc) ∧ w2.frozen? ⟨q, 1, none⟩ = false ∧ PA B q (w2.setCell ⟨q, 1, none⟩ (.slice (some ⟨g, 0, none⟩) (rl + 1) cap)) (pushL p (List.take 5 o) m) ∧ Below q w (w2.setCell ⟨q, 1, none⟩ (.slice (some ⟨g, 0, none⟩) (rl + 1) cap))) := by
      intro W w2 g cap hW hg ho
      have hne : some q ≠ (Value.slice va rl vc).ownBlock := fun e => by
        have := (World.ownsRow.lt HOW.out _ e.symm).1
        have := HLO.out
        omega
      have hAW := HA1.out.kept hW
      have hqW : q < W.heap.size := Nat.lt_of_lt_of_le hq1 hW.size
      refine ⟨by rw [hg.cell_far ⟨q, 1, none⟩ hqW hne]; exact hAW.c1, by rw [hg.frozen_far ⟨q, 1, none⟩ hqW hne]; exact hAW.f1, ?_, ?_⟩
      · rw [pushL, if_pos (by have := HRL.out; omega)]
        exact hAW.push hg (by rw [HRL.out]; exact ownsRow_later HOW.out hW) HVIN.out (HI.out.below hW (Nat.le_refl _)) (by omega) HF.out (by rw [HRL.out]; exact ho)
      · refine Below.setCell (p := ⟨q, 1, none⟩) ?_ (Nat.le_refl q) _
        refine Below.grown ((HBW.out.mono HQW.out).trans (hW.mono (Nat.le_of_lt hq1))) hg (Nat.le_of_lt hqW) (fun j hj => ?_)
        have := (World.ownsRow.lt HOW.out j hj).1
        have := HLO.out
        omega
    clear hov hvin hone
    go_wp2_with fail
    go_region_law (refine step_append_lies _ (by rfl) (.tmp 38) (.tmp 40) 23 (by rfl) B 51 i0 (.agg #[.slice none 0 0, .int .i64 0]) 2 32 Tryd.underlying23 hif hz0 hz1 hz2 (by rfl) (by decide) (.slice va rl vc) rl vs (by rfl) HOV.out ⟨w1.heap.size + 1, 0, none⟩ 1 1 [.slice a n c, .int .i64 m] (by rfl) (by rfl) (by intro j x hj; have := news_two (w := w1.alloc (.cells #[.slice a n c, .int .i64 m] 51)) (t := 51) j x hj; simpa using this) HONE.out (by decide) (by unfold maxLen; omega) (by omega) (by have := HHI.out; simp; omega) (w1.heap.size + 1 + 1) (by simp) ?_; intro g cap w2 ho2 hg2 hat2 hlt2; obtain ⟨m1, m2, m3, m4⟩ := HST.out _ w2 g cap ((balloc w1 _).alloc (by simp) _).drew hg2 ho2; clear hat2 ho2 hg2)
    all_goals (clear c1 f1)
    all_goals go_wp2_with fail
    all_goals go_ret
    all_goals exact ⟨by rw [HOK.out]; rfl, ⟨List.take 5 o, m, HQ.out, m3⟩, m4⟩
  · go_wp2_with fail
    go_ret
    refine ⟨by rw [HOK.out]; rfl, ⟨List.take 5 o, m, HQ.out, ?_⟩, ((HBW.out.mono HQW.out).alloc (Nat.le_of_lt hq1) _)⟩
    rw [pushL, if_neg (by have := HRL.out; omega)]
    exact ⟨ca, cl, cc, _, F, HA1.out.kept (balloc _ _)⟩

end Go.Proofs.YtipcbhodlgoflabDoor
