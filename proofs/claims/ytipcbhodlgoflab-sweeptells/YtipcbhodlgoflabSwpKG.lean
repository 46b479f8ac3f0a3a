/- What frac.Less draws; what the order of pieces is; slices.SortFunc. -/
import Derived.Test.YtipcbhodlgoflabBaseA
import Derived.Sort.Grow
import Derived.Test.YtipcbhodlgoflabPlnB
import Derived.Test.YtipcbhodlgoflabBxs
import Derived.Test.YtipcbhodlgoflabSpnWA
namespace Go.Proofs.Ytipcbhodlgoflab
open Go.RowKit

set_option maxHeartbeats 400000 in
theorem mayParts_dr (d : Int) (a : Option Addr) (len cap : Nat) (l : List Int) (w : World) (hi : Ints w a len l) (hlen : len ≤ 9223372036854775807) (hm : Num.mayB d l = true) :
    Calls Try.prog 88 #[.int .i64 d, .slice a len cap] w fun e w' => e = .returned (.bool true) ∧ Below w.heap.size w w' ∧ w.drawn ≤ w'.drawn := by
  obtain ⟨h0, hd2, h2', h3⟩ := Num.mayB_bd d l hm
  have h1' : Num.withinB 1073741824 [d] = true := by rw [Num.withinB_one]; simp; omega
  have hl := Num.withinB_iff _ _ h2' (by omega)
  have HLB : Hid _ := hl
  have HG : Hid (Num.gl d l = 1) := h3
  clear hl h3 hm
  go_enter Try.func88, Try.ntmps88
  go_wp2_with fail
  refine (within_any _ _ _ _ [d] _ (Ints.newAt (by simp) _ _) (by omega) (by omega) (by omega)).mono ?_
  rintro e w' ⟨rfl, rfl⟩
  go_wp2_with fail
  refine (within_any _ _ _ _ l _ (hi.below (B := w.heap.size) ((Below.refl _ _).alloc (Nat.le_refl _) _) (Nat.le_refl _)) (by omega) (by omega) (by omega)).mono ?_
  rintro e w' ⟨rfl, rfl⟩
  go_wp2_with fail
  refine (divisor_any d _ _ _ l _ (hi.below (B := w.heap.size) ((Below.refl _ _).alloc (Nat.le_refl _) _) (Nat.le_refl _)) (by omega) (by omega) (fun j => by have := HLB.out j; omega)).mono ?_
  rintro e w' ⟨rfl, n, rfl⟩
  rw [HG.out]
  go_wp2_with fail
  go_ret
  exact ⟨rfl, bdrewN ((Below.refl _ _).alloc (Nat.le_refl _) _) _, Nat.le_add_right _ _⟩

set_option maxHeartbeats 400000 in
theorem may_dr (n d : Int) (w : World) (hm : Num.mayB d [n] = true) :
    Calls Try.prog 81 #[.agg #[.int .i64 n, .int .i64 d]] w fun e w' => e = .returned (.bool true) ∧ Below w.heap.size w w' ∧ w.drawn ≤ w'.drawn := by
  have HM : Hid _ := hm
  clear hm
  go_enter Try.func81, Try.ntmps81
  go_wp2_with fail
  refine (mayParts_dr d _ _ _ [n] _ (Ints.newAt (by simp) _ _) (by omega) HM.out).mono ?_
  rintro e w' ⟨rfl, hb, hdr⟩
  go_wp2_with fail
  go_ret
  exact ⟨rfl, below2 hb, hdr⟩

set_option maxHeartbeats 400000 in
theorem less_dr (an ad bn bd : Int) (r : Bool) (w : World) (ha : Num.mayB ad [an] = true) (hb : Num.mayB bd [bn] = true) (hr : decide (an * bd < bn * ad) = r) :
    Calls Try.prog 60 #[.agg #[.int .i64 an, .int .i64 ad], .agg #[.int .i64 bn, .int .i64 bd]] w fun e w' => e = .returned (.bool r) ∧ Below w.heap.size w w' ∧ w.drawn ≤ w'.drawn := by
  have A := Num.mayB_bd _ _ ha
  have B := Num.mayB_bd _ _ hb
  rw [Num.withinB_one] at A B
  simp only [Bool.and_eq_true, decide_eq_true_eq] at A B
  have b1 := Num.mul_bd an bd 1073741824 (by omega) (by omega) (by omega)
  have b2 := Num.mul_bd bn ad 1073741824 (by omega) (by omega) (by omega)
  simp only [show (1073741824 : Int) * 1073741824 = 1152921504606846976 from rfl] at b1 b2
  have HA : Hid _ := ha
  have HB : Hid _ := hb
  generalize hp : an * bd = p at *
  generalize hq : bn * ad = q at *
  have HP : Hid _ := hp
  have HQ : Hid _ := hq
  have HR : Hid (decide (p < q) = r) := hr
  clear A B ha hb hr
  go_enter Try.func60, Try.ntmps60
  go_wp2_with fail
  refine (may_dr _ _ _ HA.out).mono ?_
  rintro e w1 ⟨rfl, hb1, hd1⟩
  have hd1' : w.drawn ≤ w1.drawn := hd1
  have c0 : w1.cell? ⟨w.heap.size, 0, none⟩ = some (.int .i64 an) := by rw [hb1.cell (by simp; omega)]; go_simp
  have c1 : w1.cell? ⟨w.heap.size, 1, none⟩ = some (.int .i64 ad) := by rw [hb1.cell (by simp; omega)]; go_simp
  have c2 : w1.cell? ⟨w.heap.size + 1, 0, none⟩ = some (.int .i64 bn) := by rw [hb1.cell (by simp)]; go_simp
  have c3 : w1.cell? ⟨w.heap.size + 1, 1, none⟩ = some (.int .i64 bd) := by rw [hb1.cell (by simp)]; go_simp
  have hz : w.heap.size + 1 < w1.heap.size := by have := hb1.size; simp at this; omega
  go_wp2_with fail
  refine (may_dr _ _ _ HB.out).mono ?_
  rintro e w2 ⟨rfl, hb2, hd2⟩
  have d0 : w2.cell? ⟨w.heap.size, 0, none⟩ = some (.int .i64 an) := by rw [hb2.cell (by show _ < _; simp; omega)]; exact c0
  have d1 : w2.cell? ⟨w.heap.size, 1, none⟩ = some (.int .i64 ad) := by rw [hb2.cell (by show _ < _; simp; omega)]; exact c1
  have d2 : w2.cell? ⟨w.heap.size + 1, 0, none⟩ = some (.int .i64 bn) := by rw [hb2.cell (by show _ < _; simp; omega)]; exact c2
  have d3 : w2.cell? ⟨w.heap.size + 1, 1, none⟩ = some (.int .i64 bd) := by rw [hb2.cell (by show _ < _; simp; omega)]; exact c3
  go_wp2_with fail
  go_ret
  refine ⟨ret_bool HR.out, (below2 hb1).trans (hb2.mono (by omega)), Nat.le_trans hd1' hd2⟩

/-- All that a later world has more: blocks, and draws. -/
theorem grow_of {w w' : World} (hb : Below w.heap.size w w') (hd : w.drawn ≤ w'.drawn) : ∃ q os, w' = Go.Sort.grow (w.drewN q) os := by
  refine ⟨w'.drawn - w.drawn, w'.heap.extract w.heap.size w'.heap.size, ?_⟩
  obtain ⟨h1, t1, r1, o1, p1⟩ := w
  obtain ⟨h2, t2, r2, o2, p2⟩ := w'
  have e1 := hb.os
  have e2 := hb.tape
  have e3 := hb.output
  have e4 := hb.size
  have e5 := hb.block
  simp only at e1 e2 e3 e4 e5 hd
  subst e1 e2 e3
  have hh : h2 = h1 ++ h2.extract h1.size h2.size := by
    apply Array.ext_getElem?
    intro i
    by_cases hi : i < h1.size
    · rw [Array.getElem?_append_left hi]; exact e5 i hi
    · rw [Array.getElem?_append_right (by omega)]
      by_cases hj : i < h2.size
      · rw [Array.getElem?_extract]
        simp only [Nat.min_self]
        rw [if_pos (by omega)]
        congr 1
        omega
      · rw [Array.getElem?_eq_none (by omega), Array.getElem?_eq_none (by simp; omega)]
  unfold Go.Sort.grow World.drewN
  simp only [World.mk.injEq, true_and, and_true]
  exact ⟨hh, by omega⟩

end Go.Proofs.Ytipcbhodlgoflab

/- The order of pieces by slope: sweep.pieces' own function. -/
namespace Go.Proofs.Ytipcbhodlgoflab
open Go.RowKit

/-- A piece's ten cells. -/
def pcL (x : Num.Pc) : List Value := [.bool x.f.o, .int .i64 x.f.n, .int .i64 x.f.d, .bool x.t.o, .int .i64 x.t.n, .int .i64 x.t.d, .int .i64 x.bn, .int .i64 x.bd, .int .i64 x.sn, .int .i64 x.sd]

def Num.cmpN (x y : Num.Pc) : Int := if Num.slLt x y then -1 else if Num.slLt y x then 1 else 0

set_option maxHeartbeats 1600000 in
theorem cmp_walk (x y : Num.Pc) (hx : Num.mayB x.sd [x.sn] = true) (hy : Num.mayB y.sd [y.sn] = true) (W : World) :
    Calls Try.prog 77 #[.agg (pcL x).toArray, .agg (pcL y).toArray] W fun e w' => e = .returned (.int .i64 (Num.cmpN x y)) ∧ Below W.heap.size W w' ∧ W.drawn ≤ w'.drawn := by
  obtain ⟨⟨fo, fn, fd⟩, ⟨to, tn, td⟩, bn, bd, sn, sd⟩ := x
  obtain ⟨⟨fo', fn', fd'⟩, ⟨to', tn', td'⟩, bn', bd', sn', sd'⟩ := y
  dsimp only at hx hy
  obtain ⟨r1, hr1⟩ : ∃ r, decide (sn * sd' < sn' * sd) = r := ⟨_, rfl⟩
  obtain ⟨r2, hr2⟩ : ∃ r, decide (sn' * sd < sn * sd') = r := ⟨_, rfl⟩
  have K1 : Hid (∀ w, Calls Try.prog 60 #[.agg #[.int .i64 sn, .int .i64 sd], .agg #[.int .i64 sn', .int .i64 sd']] w fun e w' => e = .returned (.bool r1) ∧ Below w.heap.size w w' ∧ w.drawn ≤ w'.drawn) := fun w => less_dr sn sd sn' sd' r1 w hx hy hr1
  have K2 : Hid (∀ w, Calls Try.prog 60 #[.agg #[.int .i64 sn', .int .i64 sd'], .agg #[.int .i64 sn, .int .i64 sd]] w fun e w' => e = .returned (.bool r2) ∧ Below w.heap.size w w' ∧ w.drawn ≤ w'.drawn) := fun w => less_dr sn' sd' sn sd r2 w hy hx hr2
  have HC : Hid (Num.cmpN ⟨⟨fo, fn, fd⟩, ⟨to, tn, td⟩, bn, bd, sn, sd⟩ ⟨⟨fo', fn', fd'⟩, ⟨to', tn', td'⟩, bn', bd', sn', sd'⟩ = if r1 = true then -1 else if r2 = true then 1 else 0) := by
    show _ = _
    rw [← hr1, ← hr2]
    simp [Num.cmpN, Num.slLt]
  clear hx hy hr1 hr2
  generalize Num.cmpN ⟨⟨fo, fn, fd⟩, ⟨to, tn, td⟩, bn, bd, sn, sd⟩ ⟨⟨fo', fn', fd'⟩, ⟨to', tn', td'⟩, bn', bd', sn', sd'⟩ = res at *
  simp only [pcL]
  have hA : Bx W.heap.size [.bool fo, .int .i64 fn, .int .i64 fd, .bool to, .int .i64 tn, .int .i64 td, .int .i64 bn, .int .i64 bd, .int .i64 sn, .int .i64 sd] ((W.alloc (.cells #[.bool fo, .int .i64 fn, .int .i64 fd, .bool to, .int .i64 tn, .int .i64 td, .int .i64 bn, .int .i64 bd, .int .i64 sn, .int .i64 sd] 58)).alloc (.cells #[.bool fo', .int .i64 fn', .int .i64 fd', .bool to', .int .i64 tn', .int .i64 td', .int .i64 bn', .int .i64 bd', .int .i64 sn', .int .i64 sd'] 58)) := (Bx.new rfl _ _).step (balloc _ _)
  have hB : Bx (W.heap.size + 1) [.bool fo', .int .i64 fn', .int .i64 fd', .bool to', .int .i64 tn', .int .i64 td', .int .i64 bn', .int .i64 bd', .int .i64 sn', .int .i64 sd'] ((W.alloc (.cells #[.bool fo, .int .i64 fn, .int .i64 fd, .bool to, .int .i64 tn, .int .i64 td, .int .i64 bn, .int .i64 bd, .int .i64 sn, .int .i64 sd] 58)).alloc (.cells #[.bool fo', .int .i64 fn', .int .i64 fd', .bool to', .int .i64 tn', .int .i64 td', .int .i64 bn', .int .i64 bd', .int .i64 sn', .int .i64 sd'] 58)) := Bx.new (by simp) _ _
  have hbel : Below W.heap.size W ((W.alloc (.cells #[.bool fo, .int .i64 fn, .int .i64 fd, .bool to, .int .i64 tn, .int .i64 td, .int .i64 bn, .int .i64 bd, .int .i64 sn, .int .i64 sd] 58)).alloc (.cells #[.bool fo', .int .i64 fn', .int .i64 fd', .bool to', .int .i64 tn', .int .i64 td', .int .i64 bn', .int .i64 bd', .int .i64 sn', .int .i64 sd'] 58)) := bstep (balloc _ _) (balloc _ _)
  have hdr : W.drawn ≤ ((W.alloc (.cells #[.bool fo, .int .i64 fn, .int .i64 fd, .bool to, .int .i64 tn, .int .i64 td, .int .i64 bn, .int .i64 bd, .int .i64 sn, .int .i64 sd] 58)).alloc (.cells #[.bool fo', .int .i64 fn', .int .i64 fd', .bool to', .int .i64 tn', .int .i64 td', .int .i64 bn', .int .i64 bd', .int .i64 sn', .int .i64 sd'] 58)).drawn := Nat.le_refl _
  generalize hV : (W.alloc (.cells #[.bool fo, .int .i64 fn, .int .i64 fd, .bool to, .int .i64 tn, .int .i64 td, .int .i64 bn, .int .i64 bd, .int .i64 sn, .int .i64 sd] 58)).alloc (.cells #[.bool fo', .int .i64 fn', .int .i64 fd', .bool to', .int .i64 tn', .int .i64 td', .int .i64 bn', .int .i64 bd', .int .i64 sn', .int .i64 sd'] 58) = V at *
  have a8 := hA.c 8 _ rfl
  have a9 := hA.c 9 _ rfl
  have b8 := hB.c 8 _ rfl
  have b9 := hB.c 9 _ rfl
  have HA : Hid _ := hA
  have HB : Hid _ := hB
  clear hA hB
  go_enter Try.func77, Try.ntmps77
  go_wp2_with fail
  refine (K1.out _).mono ?_
  rintro e u1 ⟨rfl, hb1, hd1⟩
  have hA1 := HA.out.step hb1
  have hB1 := HB.out.step hb1
  have c8 := hA1.c 8 _ rfl
  have c9 := hA1.c 9 _ rfl
  have d8 := hB1.c 8 _ rfl
  have d9 := hB1.c 9 _ rfl
  have hbel1 := bstep hbel hb1
  have hdr1 := Nat.le_trans hdr hd1
  clear a8 a9 b8 b9 hA1 hB1 HA HB
  cases r1
  · go_wp2_with fail
    refine (K2.out _).mono ?_
    rintro e u2 ⟨rfl, hb2, hd2⟩
    have hbel2 := bstep hbel1 hb2
    have hdr2 := Nat.le_trans hdr1 hd2
    clear c8 c9 d8 d9
    cases r2
    · go_wp2_with fail
      go_ret
      exact ⟨by have := HC.out; simp at this; rw [this]; rfl, hbel2, hdr2⟩
    · go_wp2_with fail
      go_ret
      exact ⟨by have := HC.out; simp at this; rw [this]; rfl, hbel2, hdr2⟩
  · go_wp2_with fail
    go_ret
    exact ⟨by have := HC.out; simp at this; rw [this]; rfl, hbel1, hdr1⟩

/-- A piece whose numbers may be. -/
abbrev SPc := { x : Num.Pc // Num.mayB x.sd [x.sn] = true }

def encP (x : SPc) : List Value := pcL x.1
def cmpP (x y : SPc) : Int := Num.cmpN x.1 y.1

instance : Inhabited SPc := ⟨⟨⟨⟨false, 0, 1⟩, ⟨false, 0, 1⟩, 0, 1, 0, 1⟩, by decide +kernel⟩⟩

theorem encP_one (x : SPc) (v : Value) (hv : v ∈ encP x) : v.oneCell' = true := by
  simp only [encP, pcL, List.mem_cons, List.not_mem_nil, or_false] at hv
  rcases hv with rfl | rfl | rfl | rfl | rfl | rfl | rfl | rfl | rfl | rfl <;> rfl

end Go.Proofs.Ytipcbhodlgoflab

/- What the document's lower, higher, point and before do. -/
namespace Go.Proofs.Ytipcbhodlgoflab
open Go.RowKit

def enV (a : Num.En) : Value := .agg #[.bool a.o, .int .i64 a.n, .int .i64 a.d]

set_option maxHeartbeats 1600000 in
theorem rlower_any (a b : Num.En) (w : World) (h1 : -1073741824 ≤ a.n ∧ a.n ≤ 1073741824) (h2 : -1073741824 ≤ a.d ∧ a.d ≤ 1073741824) (h3 : -1073741824 ≤ b.n ∧ b.n ≤ 1073741824) (h4 : -1073741824 ≤ b.d ∧ b.d ≤ 1073741824) :
    Calls Try.prog 79 #[enV a, enV b] w fun e w' => e = .returned (enV (Num.lowerN a b)) ∧ Below w.heap.size w w' := by
  obtain ⟨ao, an, ad⟩ := a
  obtain ⟨bo, bn, bd⟩ := b
  simp only at h1 h2 h3 h4
  have HR : Hid (Num.lowerN ⟨ao, an, ad⟩ ⟨bo, bn, bd⟩ = if ao = true ∨ bo = true then ⟨true, 0, 0⟩ else if an * bd ≤ bn * ad then ⟨ao, an, ad⟩ else ⟨bo, bn, bd⟩) := rfl
  generalize Num.lowerN ⟨ao, an, ad⟩ ⟨bo, bn, bd⟩ = res at *
  unfold enV
  have KC : Hid (∀ w', Calls Try.prog 48 #[.agg #[.int .i64 an, .int .i64 ad], .agg #[.int .i64 bn, .int .i64 bd]] w' fun e w'' => e = .returned (.int .i64 (an * bd - bn * ad)) ∧ Below w'.heap.size w' w'') := fun w' => cmp_any an ad bn bd w' h1 h2 h3 h4
  clear h1 h2 h3 h4
  have hA : Bx w.heap.size [.bool ao, .int .i64 an, .int .i64 ad] (((w.alloc (.cells #[.bool ao, .int .i64 an, .int .i64 ad] 30)).alloc (.cells #[.bool bo, .int .i64 bn, .int .i64 bd] 30)).alloc (.cells #[.bool false, .int .i64 0, .int .i64 0] 30)) := ((Bx.new rfl _ _).step (balloc _ _)).step (balloc _ _)
  have hB : Bx (w.heap.size + 1) [.bool bo, .int .i64 bn, .int .i64 bd] (((w.alloc (.cells #[.bool ao, .int .i64 an, .int .i64 ad] 30)).alloc (.cells #[.bool bo, .int .i64 bn, .int .i64 bd] 30)).alloc (.cells #[.bool false, .int .i64 0, .int .i64 0] 30)) := (Bx.new (by simp) _ _).step (balloc _ _)
  have hR : Bx (w.heap.size + 1 + 1) [.bool false, .int .i64 0, .int .i64 0] (((w.alloc (.cells #[.bool ao, .int .i64 an, .int .i64 ad] 30)).alloc (.cells #[.bool bo, .int .i64 bn, .int .i64 bd] 30)).alloc (.cells #[.bool false, .int .i64 0, .int .i64 0] 30)) := Bx.new (by simp) _ _
  have hV0 : Below w.heap.size w (((w.alloc (.cells #[.bool ao, .int .i64 an, .int .i64 ad] 30)).alloc (.cells #[.bool bo, .int .i64 bn, .int .i64 bd] 30)).alloc (.cells #[.bool false, .int .i64 0, .int .i64 0] 30)) := bstep (bstep (balloc _ _) (balloc _ _)) (balloc _ _)
  generalize hV : ((w.alloc (.cells #[.bool ao, .int .i64 an, .int .i64 ad] 30)).alloc (.cells #[.bool bo, .int .i64 bn, .int .i64 bd] 30)).alloc (.cells #[.bool false, .int .i64 0, .int .i64 0] 30) = V at *
  have hz : w.heap.size + 1 + 1 < V.heap.size := hR.lt
  have HA : Hid (Bx w.heap.size [.bool ao, .int .i64 an, .int .i64 ad] V) := hA
  have HB : Hid (Bx (w.heap.size + 1) [.bool bo, .int .i64 bn, .int .i64 bd] V) := hB
  have HRB : Hid (Bx (w.heap.size + 1 + 1) [.bool false, .int .i64 0, .int .i64 0] V) := hR
  have HV0 : Hid (Below w.heap.size w V) := hV0
  obtain ⟨a0, a1, a2, -⟩ := hA.all3
  obtain ⟨b0, b1, b2, -⟩ := hB.all3
  obtain ⟨r0, r1, r2, f0, f1, f2⟩ := hR.all3
  clear hA hB hR hV0
  cases ao
  · cases bo
    · go_enter Try.func79, Try.ntmps79
      go_wp2_with fail
      refine (KC.out _).mono ?_
      rintro e v ⟨rfl, hb⟩
      have hA := HA.out.step hb
      have hB := HB.out.step hb
      have hR := HRB.out.step hb
      have hBel := bstep HV0.out hb
      clear a0 a1 a2 b0 b1 b2 r0 r1 r2 f0 f1 f2 hz hV
      obtain ⟨a0, a1, a2, -⟩ := hA.all3
      obtain ⟨b0, b1, b2, -⟩ := hB.all3
      obtain ⟨r0, r1, r2, f0, f1, f2⟩ := hR.all3
      generalize hq : an * bd - bn * ad = q
      have HQ : Hid (an * bd - bn * ad = q) := hq
      clear hq
      by_cases ht : q ≤ 0
      · have hd : decide (q ≤ 0) = true := by simpa using ht
        have hX := hR.set3 (.bool false) (.int .i64 an) (.int .i64 ad)
        have hXB := bset3 hBel (show w.heap.size ≤ w.heap.size + 1 + 1 by omega) (.bool false) (.int .i64 an) (.int .i64 ad)
        obtain ⟨x0, x1, x2, -⟩ := hX.all3
        have HRES : Hid (res = ⟨false, an, ad⟩) := by show _ = _; rw [HR.out, if_neg (by simp), if_pos (by have := HQ.out; omega)]
        clear hA hB hR hX
        go_wp2_with fail
        exact bodyPost_ret (v := .agg #[.bool false, .int .i64 an, .int .i64 ad]) (by simp [results, Try.results79, go_sem, x0, x1, x2]) rfl ⟨by rw [HRES.out], hXB⟩
      · have hd : decide (q ≤ 0) = false := by simpa using ht
        have hX := hR.set3 (.bool false) (.int .i64 bn) (.int .i64 bd)
        have hXB := bset3 hBel (show w.heap.size ≤ w.heap.size + 1 + 1 by omega) (.bool false) (.int .i64 bn) (.int .i64 bd)
        obtain ⟨x0, x1, x2, -⟩ := hX.all3
        have HRES : Hid (res = ⟨false, bn, bd⟩) := by show _ = _; rw [HR.out, if_neg (by simp), if_neg (by have := HQ.out; omega)]
        clear hA hB hR hX
        go_wp2_with fail
        exact bodyPost_ret (v := .agg #[.bool false, .int .i64 bn, .int .i64 bd]) (by simp [results, Try.results79, go_sem, x0, x1, x2]) rfl ⟨by rw [HRES.out], hXB⟩
    · have hX := HRB.out.set3 (.bool true) (.int .i64 0) (.int .i64 0)
      have hXB := bset3 HV0.out (show w.heap.size ≤ w.heap.size + 1 + 1 by omega) (.bool true) (.int .i64 0) (.int .i64 0)
      obtain ⟨x0, x1, x2, -⟩ := hX.all3
      have HRES : Hid (res = ⟨true, 0, 0⟩) := by show _ = _; rw [HR.out, if_pos (by simp)]
      clear hX
      go_enter Try.func79, Try.ntmps79
      go_wp2_with fail
      exact bodyPost_ret (v := .agg #[.bool true, .int .i64 0, .int .i64 0]) (by simp [results, Try.results79, go_sem, x0, x1, x2]) rfl ⟨by rw [HRES.out], hXB⟩
  · have hX := HRB.out.set3 (.bool true) (.int .i64 0) (.int .i64 0)
    have hXB := bset3 HV0.out (show w.heap.size ≤ w.heap.size + 1 + 1 by omega) (.bool true) (.int .i64 0) (.int .i64 0)
    obtain ⟨x0, x1, x2, -⟩ := hX.all3
    have HRES : Hid (res = ⟨true, 0, 0⟩) := by show _ = _; rw [HR.out, if_pos (by simp)]
    clear hX
    go_enter Try.func79, Try.ntmps79
    go_wp2_with fail
    exact bodyPost_ret (v := .agg #[.bool true, .int .i64 0, .int .i64 0]) (by simp [results, Try.results79, go_sem, x0, x1, x2]) rfl ⟨by rw [HRES.out], hXB⟩

set_option maxHeartbeats 1600000 in
theorem rhigher_any (a b : Num.En) (w : World) (h1 : -1073741824 ≤ a.n ∧ a.n ≤ 1073741824) (h2 : -1073741824 ≤ a.d ∧ a.d ≤ 1073741824) (h3 : -1073741824 ≤ b.n ∧ b.n ≤ 1073741824) (h4 : -1073741824 ≤ b.d ∧ b.d ≤ 1073741824) :
    Calls Try.prog 80 #[enV a, enV b] w fun e w' => e = .returned (enV (Num.higherN a b)) ∧ Below w.heap.size w w' := by
  obtain ⟨ao, an, ad⟩ := a
  obtain ⟨bo, bn, bd⟩ := b
  simp only at h1 h2 h3 h4
  have HR : Hid (Num.higherN ⟨ao, an, ad⟩ ⟨bo, bn, bd⟩ = if ao = true ∨ bo = true then ⟨true, 0, 0⟩ else if bn * ad ≤ an * bd then ⟨ao, an, ad⟩ else ⟨bo, bn, bd⟩) := rfl
  generalize Num.higherN ⟨ao, an, ad⟩ ⟨bo, bn, bd⟩ = res at *
  unfold enV
  have KC : Hid (∀ w', Calls Try.prog 48 #[.agg #[.int .i64 an, .int .i64 ad], .agg #[.int .i64 bn, .int .i64 bd]] w' fun e w'' => e = .returned (.int .i64 (an * bd - bn * ad)) ∧ Below w'.heap.size w' w'') := fun w' => cmp_any an ad bn bd w' h1 h2 h3 h4
  clear h1 h2 h3 h4
  have hA : Bx w.heap.size [.bool ao, .int .i64 an, .int .i64 ad] (((w.alloc (.cells #[.bool ao, .int .i64 an, .int .i64 ad] 30)).alloc (.cells #[.bool bo, .int .i64 bn, .int .i64 bd] 30)).alloc (.cells #[.bool false, .int .i64 0, .int .i64 0] 30)) := ((Bx.new rfl _ _).step (balloc _ _)).step (balloc _ _)
  have hB : Bx (w.heap.size + 1) [.bool bo, .int .i64 bn, .int .i64 bd] (((w.alloc (.cells #[.bool ao, .int .i64 an, .int .i64 ad] 30)).alloc (.cells #[.bool bo, .int .i64 bn, .int .i64 bd] 30)).alloc (.cells #[.bool false, .int .i64 0, .int .i64 0] 30)) := (Bx.new (by simp) _ _).step (balloc _ _)
  have hR : Bx (w.heap.size + 1 + 1) [.bool false, .int .i64 0, .int .i64 0] (((w.alloc (.cells #[.bool ao, .int .i64 an, .int .i64 ad] 30)).alloc (.cells #[.bool bo, .int .i64 bn, .int .i64 bd] 30)).alloc (.cells #[.bool false, .int .i64 0, .int .i64 0] 30)) := Bx.new (by simp) _ _
  have hV0 : Below w.heap.size w (((w.alloc (.cells #[.bool ao, .int .i64 an, .int .i64 ad] 30)).alloc (.cells #[.bool bo, .int .i64 bn, .int .i64 bd] 30)).alloc (.cells #[.bool false, .int .i64 0, .int .i64 0] 30)) := bstep (bstep (balloc _ _) (balloc _ _)) (balloc _ _)
  generalize hV : ((w.alloc (.cells #[.bool ao, .int .i64 an, .int .i64 ad] 30)).alloc (.cells #[.bool bo, .int .i64 bn, .int .i64 bd] 30)).alloc (.cells #[.bool false, .int .i64 0, .int .i64 0] 30) = V at *
  have hz : w.heap.size + 1 + 1 < V.heap.size := hR.lt
  have HA : Hid (Bx w.heap.size [.bool ao, .int .i64 an, .int .i64 ad] V) := hA
  have HB : Hid (Bx (w.heap.size + 1) [.bool bo, .int .i64 bn, .int .i64 bd] V) := hB
  have HRB : Hid (Bx (w.heap.size + 1 + 1) [.bool false, .int .i64 0, .int .i64 0] V) := hR
  have HV0 : Hid (Below w.heap.size w V) := hV0
  obtain ⟨a0, a1, a2, -⟩ := hA.all3
  obtain ⟨b0, b1, b2, -⟩ := hB.all3
  obtain ⟨r0, r1, r2, f0, f1, f2⟩ := hR.all3
  clear hA hB hR hV0
  cases ao
  · cases bo
    · go_enter Try.func80, Try.ntmps80
      go_wp2_with fail
      refine (KC.out _).mono ?_
      rintro e v ⟨rfl, hb⟩
      have hA := HA.out.step hb
      have hB := HB.out.step hb
      have hR := HRB.out.step hb
      have hBel := bstep HV0.out hb
      clear a0 a1 a2 b0 b1 b2 r0 r1 r2 f0 f1 f2 hz hV
      obtain ⟨a0, a1, a2, -⟩ := hA.all3
      obtain ⟨b0, b1, b2, -⟩ := hB.all3
      obtain ⟨r0, r1, r2, f0, f1, f2⟩ := hR.all3
      generalize hq : an * bd - bn * ad = q
      have HQ : Hid (an * bd - bn * ad = q) := hq
      clear hq
      by_cases ht : 0 ≤ q
      · have hd : decide (0 ≤ q) = true := by simpa using ht
        have hX := hR.set3 (.bool false) (.int .i64 an) (.int .i64 ad)
        have hXB := bset3 hBel (show w.heap.size ≤ w.heap.size + 1 + 1 by omega) (.bool false) (.int .i64 an) (.int .i64 ad)
        obtain ⟨x0, x1, x2, -⟩ := hX.all3
        have HRES : Hid (res = ⟨false, an, ad⟩) := by show _ = _; rw [HR.out, if_neg (by simp), if_pos (by have := HQ.out; omega)]
        clear hA hB hR hX
        go_wp2_with fail
        exact bodyPost_ret (v := .agg #[.bool false, .int .i64 an, .int .i64 ad]) (by simp [results, Try.results80, go_sem, x0, x1, x2]) rfl ⟨by rw [HRES.out], hXB⟩
      · have hd : decide (0 ≤ q) = false := by simpa using ht
        have hX := hR.set3 (.bool false) (.int .i64 bn) (.int .i64 bd)
        have hXB := bset3 hBel (show w.heap.size ≤ w.heap.size + 1 + 1 by omega) (.bool false) (.int .i64 bn) (.int .i64 bd)
        obtain ⟨x0, x1, x2, -⟩ := hX.all3
        have HRES : Hid (res = ⟨false, bn, bd⟩) := by show _ = _; rw [HR.out, if_neg (by simp), if_neg (by have := HQ.out; omega)]
        clear hA hB hR hX
        go_wp2_with fail
        exact bodyPost_ret (v := .agg #[.bool false, .int .i64 bn, .int .i64 bd]) (by simp [results, Try.results80, go_sem, x0, x1, x2]) rfl ⟨by rw [HRES.out], hXB⟩
    · have hX := HRB.out.set3 (.bool true) (.int .i64 0) (.int .i64 0)
      have hXB := bset3 HV0.out (show w.heap.size ≤ w.heap.size + 1 + 1 by omega) (.bool true) (.int .i64 0) (.int .i64 0)
      obtain ⟨x0, x1, x2, -⟩ := hX.all3
      have HRES : Hid (res = ⟨true, 0, 0⟩) := by show _ = _; rw [HR.out, if_pos (by simp)]
      clear hX
      go_enter Try.func80, Try.ntmps80
      go_wp2_with fail
      exact bodyPost_ret (v := .agg #[.bool true, .int .i64 0, .int .i64 0]) (by simp [results, Try.results80, go_sem, x0, x1, x2]) rfl ⟨by rw [HRES.out], hXB⟩
  · have hX := HRB.out.set3 (.bool true) (.int .i64 0) (.int .i64 0)
    have hXB := bset3 HV0.out (show w.heap.size ≤ w.heap.size + 1 + 1 by omega) (.bool true) (.int .i64 0) (.int .i64 0)
    obtain ⟨x0, x1, x2, -⟩ := hX.all3
    have HRES : Hid (res = ⟨true, 0, 0⟩) := by show _ = _; rw [HR.out, if_pos (by simp)]
    clear hX
    go_enter Try.func80, Try.ntmps80
    go_wp2_with fail
    exact bodyPost_ret (v := .agg #[.bool true, .int .i64 0, .int .i64 0]) (by simp [results, Try.results80, go_sem, x0, x1, x2]) rfl ⟨by rw [HRES.out], hXB⟩

set_option maxHeartbeats 1600000 in
theorem rspot_any (x : Num.Pc) (w : World) :
    Calls Try.prog 57 #[.agg (pcL x).toArray] w fun e w' => e = .returned (.bool (Num.spotB x)) ∧ Below w.heap.size w w' := by
  obtain ⟨⟨fo, fn, fd⟩, ⟨to, tn, td⟩, bn, bd, sn, sd⟩ := x
  simp only [pcL]
  have HR : Hid (Num.spotB ⟨⟨fo, fn, fd⟩, ⟨to, tn, td⟩, bn, bd, sn, sd⟩ = (!fo && !to && ((fn == tn) && (fd == td)))) := by
    show _ = _
    unfold Num.spotB
    by_cases h1 : fn = tn <;> by_cases h2 : fd = td <;> simp [h1, h2]
  generalize Num.spotB ⟨⟨fo, fn, fd⟩, ⟨to, tn, td⟩, bn, bd, sn, sd⟩ = res at *
  have hF := frac_eq 9998 fn fd tn td
  cases fo
  · cases to
    · go_enter Try.func57, Try.ntmps57
      go_wp2_with fail
      go_ret
      exact ⟨ret_bool (by rw [HR.out]; rfl), balloc _ _⟩
    · go_enter Try.func57, Try.ntmps57
      go_wp2_with fail
      go_ret
      exact ⟨ret_bool (by rw [HR.out]; rfl), balloc _ _⟩
  · go_enter Try.func57, Try.ntmps57
    go_wp2_with fail
    go_ret
    exact ⟨ret_bool (by rw [HR.out]; rfl), balloc _ _⟩

set_option maxHeartbeats 1600000 in
theorem rbefore_any (x y : Num.Pc) (w : World) (h1 : -1073741824 ≤ x.f.n ∧ x.f.n ≤ 1073741824) (h2 : -1073741824 ≤ x.f.d ∧ x.f.d ≤ 1073741824) (h3 : -1073741824 ≤ y.f.n ∧ y.f.n ≤ 1073741824) (h4 : -1073741824 ≤ y.f.d ∧ y.f.d ≤ 1073741824) :
    Calls Try.prog 58 #[.agg (pcL x).toArray, .agg (pcL y).toArray] w fun e w' => e = .returned (.bool (Num.beforeB x y)) ∧ Below w.heap.size w w' := by
  obtain ⟨⟨fo, fn, fd⟩, ⟨to, tn, td⟩, bn, bd, sn, sd⟩ := x
  obtain ⟨⟨fo', fn', fd'⟩, ⟨to', tn', td'⟩, bn', bd', sn', sd'⟩ := y
  simp only at h1 h2 h3 h4
  simp only [pcL]
  have HR : Hid (Num.beforeB ⟨⟨fo, fn, fd⟩, ⟨to, tn, td⟩, bn, bd, sn, sd⟩ ⟨⟨fo', fn', fd'⟩, ⟨to', tn', td'⟩, bn', bd', sn', sd'⟩ = if fo = true ∨ fo' = true then fo else decide (fn * fd' < fn' * fd)) := rfl
  generalize Num.beforeB ⟨⟨fo, fn, fd⟩, ⟨to, tn, td⟩, bn, bd, sn, sd⟩ ⟨⟨fo', fn', fd'⟩, ⟨to', tn', td'⟩, bn', bd', sn', sd'⟩ = res at *
  have KC : Hid (∀ w', Calls Try.prog 48 #[.agg #[.int .i64 fn, .int .i64 fd], .agg #[.int .i64 fn', .int .i64 fd']] w' fun e w'' => e = .returned (.int .i64 (fn * fd' - fn' * fd)) ∧ Below w'.heap.size w' w'') := fun w' => cmp_any fn fd fn' fd' w' h1 h2 h3 h4
  have HBel : Hid (Below w.heap.size w ((w.alloc (.cells #[.bool fo, .int .i64 fn, .int .i64 fd, .bool to, .int .i64 tn, .int .i64 td, .int .i64 bn, .int .i64 bd, .int .i64 sn, .int .i64 sd] 58)).alloc (.cells #[.bool fo', .int .i64 fn', .int .i64 fd', .bool to', .int .i64 tn', .int .i64 td', .int .i64 bn', .int .i64 bd', .int .i64 sn', .int .i64 sd'] 58))) := bstep (balloc _ _) (balloc _ _)
  clear h1 h2 h3 h4
  cases fo
  · cases fo'
    · go_enter Try.func58, Try.ntmps58
      go_wp2_with fail
      refine (KC.out _).mono ?_
      rintro e v ⟨rfl, hb⟩
      have hB := bstep HBel.out hb
      clear hb
      go_wp2_with fail
      go_ret
      exact ⟨ret_bool (by rw [HR.out, if_neg (by simp)]; by_cases hc : fn * fd' < fn' * fd <;> simp [hc] <;> omega), hB⟩
    · go_enter Try.func58, Try.ntmps58
      go_wp2_with fail
      go_ret
      exact ⟨ret_bool (by rw [HR.out, if_pos (by simp)]), HBel.out⟩
  · go_enter Try.func58, Try.ntmps58
    go_wp2_with fail
    go_ret
    exact ⟨ret_bool (by rw [HR.out, if_pos (by simp)]), HBel.out⟩

end Go.Proofs.Ytipcbhodlgoflab
