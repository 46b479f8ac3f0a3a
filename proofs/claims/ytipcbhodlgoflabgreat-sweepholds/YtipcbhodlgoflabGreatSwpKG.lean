/- What frac.Less draws; what the order of pieces is; slices.SortFunc. -/
import Derived.Test.YtipcbhodlgoflabGreatBaseA
import Derived.Sort.Grow
import Derived.Test.YtipcbhodlgoflabGreatPlnB
import Derived.Test.YtipcbhodlgoflabGreatBxs
import Derived.Test.YtipcbhodlgoflabGreatSpnWA
namespace Go.Proofs.YtipcbhodlgoflabGreat
open Go.RowKit

set_option maxHeartbeats 400000 in
theorem mayParts_dr (d : Int) (a : Option Addr) (len cap : Nat) (l : List Int) (w : World) (hi : Ints w a len l) (hlen : len ≤ 9223372036854775807) (hm : Num.mayB d l = true) :
    Calls Tryz.prog 80 #[.int .i64 d, .slice a len cap] w fun e w' => e = .returned (.bool true) ∧ Below w.heap.size w w' ∧ w.drawn ≤ w'.drawn := by
  obtain ⟨h0, hd2, h2', h3⟩ := Num.mayB_bd d l hm
  have h1' : Num.withinB 1073741824 [d] = true := by rw [Num.withinB_one]; simp; omega
  have hl := Num.withinB_iff _ _ h2' (by omega)
  have HLB : Hid _ := hl
  have HG : Hid (Num.gl d l = 1) := h3
  clear hl h3 hm
  go_enter Tryz.func80, Tryz.ntmps80
  go_wp2_with fail
  refine (within_any _ _ _ _ [d] _ (Ints.newAt (by simp) _ _) (by omega) (by omega) (by omega)).mono ?_
  rintro e w' ⟨rfl, rfl⟩
  go_wp2_with fail
  refine (within_any _ _ _ _ l _ (hi.below (B := w.heap.size) ((Below.refl _ _).alloc (Nat.le_refl _) _) (Nat.le_refl _)) (by omega) (by omega) (by omega)).mono ?_
  rintro e w' ⟨rfl, rfl⟩
  go_wp2_with fail
  refine (divisor_any d _ _ _ l _ (hi.below (B := w.heap.size) ((Below.refl _ _).alloc (Nat.le_refl _) _) (Nat.le_refl _)) (by omega) (by omega) (fun j => by have := HLB.out j; omega)).mono ?_
  rintro e w' ⟨rfl, n, rfl⟩
  rw [HG.out]
  go_wp2_with fail
  go_ret
  exact ⟨rfl, bdrewN ((Below.refl _ _).alloc (Nat.le_refl _) _) _, Nat.le_add_right _ _⟩

set_option maxHeartbeats 400000 in
theorem may_dr (n d : Int) (w : World) (hm : Num.mayB d [n] = true) :
    Calls Tryz.prog 44 #[.agg #[.int .i64 n, .int .i64 d]] w fun e w' => e = .returned (.bool true) ∧ Below w.heap.size w w' ∧ w.drawn ≤ w'.drawn := by
  have HM : Hid _ := hm
  clear hm
  go_enter Tryz.func44, Tryz.ntmps44
  go_wp2_with fail
  refine (mayParts_dr d _ _ _ [n] _ (Ints.newAt (by simp) _ _) (by omega) HM.out).mono ?_
  rintro e w' ⟨rfl, hb, hdr⟩
  go_wp2_with fail
  go_ret
  exact ⟨rfl, below2 hb, hdr⟩

set_option maxHeartbeats 400000 in
theorem less_dr (an ad bn bd : Int) (r : Bool) (w : World) (ha : Num.mayB ad [an] = true) (hb : Num.mayB bd [bn] = true) (hr : decide (an * bd < bn * ad) = r) :
    Calls Tryz.prog 25 #[.agg #[.int .i64 an, .int .i64 ad], .agg #[.int .i64 bn, .int .i64 bd]] w fun e w' => e = .returned (.bool r) ∧ Below w.heap.size w w' ∧ w.drawn ≤ w'.drawn := by
  have A := Num.mayB_bd _ _ ha
  have B := Num.mayB_bd _ _ hb
  rw [Num.withinB_one] at A B
  simp only [Bool.and_eq_true, decide_eq_true_eq] at A B
  have b1 := Num.mul_bd an bd 1073741824 (by omega) (by omega) (by omega)
  have b2 := Num.mul_bd bn ad 1073741824 (by omega) (by omega) (by omega)
  simp only [show (1073741824 : Int) * 1073741824 = 1152921504606846976 from rfl] at b1 b2
  have HA : Hid _ := ha
  have HB : Hid _ := hb
  generalize hp : an * bd = p at *
  generalize hq : bn * ad = q at *
  have HP : Hid _ := hp
  have HQ : Hid _ := hq
  have HR : Hid (decide (p < q) = r) := hr
  clear A B ha hb hr
  go_enter Tryz.func25, Tryz.ntmps25
  go_wp2_with fail
  refine (may_dr _ _ _ HA.out).mono ?_
  rintro e w1 ⟨rfl, hb1, hd1⟩
  have hd1' : w.drawn ≤ w1.drawn := hd1
  have c0 : w1.cell? ⟨w.heap.size, 0, none⟩ = some (.int .i64 an) := by rw [hb1.cell (by simp; omega)]; go_simp
  have c1 : w1.cell? ⟨w.heap.size, 1, none⟩ = some (.int .i64 ad) := by rw [hb1.cell (by simp; omega)]; go_simp
  have c2 : w1.cell? ⟨w.heap.size + 1, 0, none⟩ = some (.int .i64 bn) := by rw [hb1.cell (by simp)]; go_simp
  have c3 : w1.cell? ⟨w.heap.size + 1, 1, none⟩ = some (.int .i64 bd) := by rw [hb1.cell (by simp)]; go_simp
  have hz : w.heap.size + 1 < w1.heap.size := by have := hb1.size; simp at this; omega
  go_wp2_with fail
  refine (may_dr _ _ _ HB.out).mono ?_
  rintro e w2 ⟨rfl, hb2, hd2⟩
  have d0 : w2.cell? ⟨w.heap.size, 0, none⟩ = some (.int .i64 an) := by rw [hb2.cell (by show _ < _; simp; omega)]; exact c0
  have d1 : w2.cell? ⟨w.heap.size, 1, none⟩ = some (.int .i64 ad) := by rw [hb2.cell (by show _ < _; simp; omega)]; exact c1
  have d2 : w2.cell? ⟨w.heap.size + 1, 0, none⟩ = some (.int .i64 bn) := by rw [hb2.cell (by show _ < _; simp; omega)]; exact c2
  have d3 : w2.cell? ⟨w.heap.size + 1, 1, none⟩ = some (.int .i64 bd) := by rw [hb2.cell (by show _ < _; simp; omega)]; exact c3
  go_wp2_with fail
  go_ret
  refine ⟨ret_bool HR.out, (below2 hb1).trans (hb2.mono (by omega)), Nat.le_trans hd1' hd2⟩

/-- All that a later world has more: blocks, and draws. -/
theorem grow_of {w w' : World} (hb : Below w.heap.size w w') (hd : w.drawn ≤ w'.drawn) : ∃ q os, w' = Go.Sort.grow (w.drewN q) os := by
  refine ⟨w'.drawn - w.drawn, w'.heap.extract w.heap.size w'.heap.size, ?_⟩
  obtain ⟨h1, t1, r1, o1, p1⟩ := w
  obtain ⟨h2, t2, r2, o2, p2⟩ := w'
  have e1 := hb.os
  have e2 := hb.tape
  have e3 := hb.output
  have e4 := hb.size
  have e5 := hb.block
  simp only at e1 e2 e3 e4 e5 hd
  subst e1 e2 e3
  have hh : h2 = h1 ++ h2.extract h1.size h2.size := by
    apply Array.ext_getElem?
    intro i
    by_cases hi : i < h1.size
    · rw [Array.getElem?_append_left hi]; exact e5 i hi
    · rw [Array.getElem?_append_right (by omega)]
      by_cases hj : i < h2.size
      · rw [Array.getElem?_extract]
        simp only [Nat.min_self]
        rw [if_pos (by omega)]
        congr 1
        omega
      · rw [Array.getElem?_eq_none (by omega), Array.getElem?_eq_none (by simp; omega)]
  unfold Go.Sort.grow World.drewN
  simp only [World.mk.injEq, true_and, and_true]
  exact ⟨hh, by omega⟩

end Go.Proofs.YtipcbhodlgoflabGreat

/- The order of pieces by slope: sweep.pieces' own function. -/
namespace Go.Proofs.YtipcbhodlgoflabGreat
open Go.RowKit

/-- A piece's ten cells. -/
def pcL (x : Num.Pc) : List Value := [.bool x.f.o, .int .i64 x.f.n, .int .i64 x.f.d, .bool x.t.o, .int .i64 x.t.n, .int .i64 x.t.d, .int .i64 x.bn, .int .i64 x.bd, .int .i64 x.sn, .int .i64 x.sd]

def Num.cmpN (x y : Num.Pc) : Int := if Num.slLt x y then -1 else if Num.slLt y x then 1 else 0

set_option maxHeartbeats 1600000 in
theorem cmp_walk (x y : Num.Pc) (hx : Num.mayB x.sd [x.sn] = true) (hy : Num.mayB y.sd [y.sn] = true) (W : World) :
    Calls Tryz.prog 24 #[.agg (pcL x).toArray, .agg (pcL y).toArray] W fun e w' => e = .returned (.int .i64 (Num.cmpN x y)) ∧ Below W.heap.size W w' ∧ W.drawn ≤ w'.drawn := by
  obtain ⟨⟨fo, fn, fd⟩, ⟨to, tn, td⟩, bn, bd, sn, sd⟩ := x
  obtain ⟨⟨fo', fn', fd'⟩, ⟨to', tn', td'⟩, bn', bd', sn', sd'⟩ := y
  dsimp only at hx hy
  obtain ⟨r1, hr1⟩ : ∃ r, decide (sn * sd' < sn' * sd) = r := ⟨_, rfl⟩
  obtain ⟨r2, hr2⟩ : ∃ r, decide (sn' * sd < sn * sd') = r := ⟨_, rfl⟩
  have K1 : Hid (∀ w, Calls Tryz.prog 25 #[.agg #[.int .i64 sn, .int .i64 sd], .agg #[.int .i64 sn', .int .i64 sd']] w fun e w' => e = .returned (.bool r1) ∧ Below w.heap.size w w' ∧ w.drawn ≤ w'.drawn) := fun w => less_dr sn sd sn' sd' r1 w hx hy hr1
  have K2 : Hid (∀ w, Calls Tryz.prog 25 #[.agg #[.int .i64 sn', .int .i64 sd'], .agg #[.int .i64 sn, .int .i64 sd]] w fun e w' => e = .returned (.bool r2) ∧ Below w.heap.size w w' ∧ w.drawn ≤ w'.drawn) := fun w => less_dr sn' sd' sn sd r2 w hy hx hr2
  have HC : Hid (Num.cmpN ⟨⟨fo, fn, fd⟩, ⟨to, tn, td⟩, bn, bd, sn, sd⟩ ⟨⟨fo', fn', fd'⟩, ⟨to', tn', td'⟩, bn', bd', sn', sd'⟩ = if r1 = true then -1 else if r2 = true then 1 else 0) := by
    show _ = _
    rw [← hr1, ← hr2]
    simp [Num.cmpN, Num.slLt]
  clear hx hy hr1 hr2
  generalize Num.cmpN ⟨⟨fo, fn, fd⟩, ⟨to, tn, td⟩, bn, bd, sn, sd⟩ ⟨⟨fo', fn', fd'⟩, ⟨to', tn', td'⟩, bn', bd', sn', sd'⟩ = res at *
  simp only [pcL]
  have hA : Bx W.heap.size [.bool fo, .int .i64 fn, .int .i64 fd, .bool to, .int .i64 tn, .int .i64 td, .int .i64 bn, .int .i64 bd, .int .i64 sn, .int .i64 sd] ((W.alloc (.cells #[.bool fo, .int .i64 fn, .int .i64 fd, .bool to, .int .i64 tn, .int .i64 td, .int .i64 bn, .int .i64 bd, .int .i64 sn, .int .i64 sd] 47)).alloc (.cells #[.bool fo', .int .i64 fn', .int .i64 fd', .bool to', .int .i64 tn', .int .i64 td', .int .i64 bn', .int .i64 bd', .int .i64 sn', .int .i64 sd'] 47)) := (Bx.new rfl _ _).step (balloc _ _)
  have hB : Bx (W.heap.size + 1) [.bool fo', .int .i64 fn', .int .i64 fd', .bool to', .int .i64 tn', .int .i64 td', .int .i64 bn', .int .i64 bd', .int .i64 sn', .int .i64 sd'] ((W.alloc (.cells #[.bool fo, .int .i64 fn, .int .i64 fd, .bool to, .int .i64 tn, .int .i64 td, .int .i64 bn, .int .i64 bd, .int .i64 sn, .int .i64 sd] 47)).alloc (.cells #[.bool fo', .int .i64 fn', .int .i64 fd', .bool to', .int .i64 tn', .int .i64 td', .int .i64 bn', .int .i64 bd', .int .i64 sn', .int .i64 sd'] 47)) := Bx.new (by simp) _ _
  have hbel : Below W.heap.size W ((W.alloc (.cells #[.bool fo, .int .i64 fn, .int .i64 fd, .bool to, .int .i64 tn, .int .i64 td, .int .i64 bn, .int .i64 bd, .int .i64 sn, .int .i64 sd] 47)).alloc (.cells #[.bool fo', .int .i64 fn', .int .i64 fd', .bool to', .int .i64 tn', .int .i64 td', .int .i64 bn', .int .i64 bd', .int .i64 sn', .int .i64 sd'] 47)) := bstep (balloc _ _) (balloc _ _)
  have hdr : W.drawn ≤ ((W.alloc (.cells #[.bool fo, .int .i64 fn, .int .i64 fd, .bool to, .int .i64 tn, .int .i64 td, .int .i64 bn, .int .i64 bd, .int .i64 sn, .int .i64 sd] 47)).alloc (.cells #[.bool fo', .int .i64 fn', .int .i64 fd', .bool to', .int .i64 tn', .int .i64 td', .int .i64 bn', .int .i64 bd', .int .i64 sn', .int .i64 sd'] 47)).drawn := Nat.le_refl _
  generalize hV : (W.alloc (.cells #[.bool fo, .int .i64 fn, .int .i64 fd, .bool to, .int .i64 tn, .int .i64 td, .int .i64 bn, .int .i64 bd, .int .i64 sn, .int .i64 sd] 47)).alloc (.cells #[.bool fo', .int .i64 fn', .int .i64 fd', .bool to', .int .i64 tn', .int .i64 td', .int .i64 bn', .int .i64 bd', .int .i64 sn', .int .i64 sd'] 47) = V at *
  have a8 := hA.c 8 _ rfl
  have a9 := hA.c 9 _ rfl
  have b8 := hB.c 8 _ rfl
  have b9 := hB.c 9 _ rfl
  have HA : Hid _ := hA
  have HB : Hid _ := hB
  clear hA hB
  go_enter Tryz.func24, Tryz.ntmps24
  go_wp2_with fail
  refine (K1.out _).mono ?_
  rintro e u1 ⟨rfl, hb1, hd1⟩
  have hA1 := HA.out.step hb1
  have hB1 := HB.out.step hb1
  have c8 := hA1.c 8 _ rfl
  have c9 := hA1.c 9 _ rfl
  have d8 := hB1.c 8 _ rfl
  have d9 := hB1.c 9 _ rfl
  have hbel1 := bstep hbel hb1
  have hdr1 := Nat.le_trans hdr hd1
  clear a8 a9 b8 b9 hA1 hB1 HA HB
  cases r1
  · go_wp2_with fail
    refine (K2.out _).mono ?_
    rintro e u2 ⟨rfl, hb2, hd2⟩
    have hbel2 := bstep hbel1 hb2
    have hdr2 := Nat.le_trans hdr1 hd2
    clear c8 c9 d8 d9
    cases r2
    · go_wp2_with fail
      go_ret
      exact ⟨by have := HC.out; simp at this; rw [this]; rfl, hbel2, hdr2⟩
    · go_wp2_with fail
      go_ret
      exact ⟨by have := HC.out; simp at this; rw [this]; rfl, hbel2, hdr2⟩
  · go_wp2_with fail
    go_ret
    exact ⟨by have := HC.out; simp at this; rw [this]; rfl, hbel1, hdr1⟩

/-- A piece whose numbers may be. -/
abbrev SPc := { x : Num.Pc // Num.mayB x.sd [x.sn] = true }

def encP (x : SPc) : List Value := pcL x.1
def cmpP (x y : SPc) : Int := Num.cmpN x.1 y.1

instance : Inhabited SPc := ⟨⟨⟨⟨false, 0, 1⟩, ⟨false, 0, 1⟩, 0, 1, 0, 1⟩, by decide +kernel⟩⟩

theorem encP_one (x : SPc) (v : Value) (hv : v ∈ encP x) : v.oneCell' = true := by
  simp only [encP, pcL, List.mem_cons, List.not_mem_nil, or_false] at hv
  rcases hv with rfl | rfl | rfl | rfl | rfl | rfl | rfl | rfl | rfl | rfl <;> rfl

end Go.Proofs.YtipcbhodlgoflabGreat

/- What the document's lower, higher, point and before do. -/
namespace Go.Proofs.YtipcbhodlgoflabGreat
open Go.RowKit

end Go.Proofs.YtipcbhodlgoflabGreat
