/- What proof.isThere and proof.partsOf do. -/
import Derived.Test.YtjlkegchkngliaaPrf0
import Derived.Test.YtjlkegchkngliaaCells
namespace Go.Proofs.Ytjlkegchkngliaa
open Go.RowKit

set_option maxHeartbeats 400000 in
theorem there_any (a : Option Addr) (len cap : Nat) (d : Int) (l : List Int) (w : World) (hi : len = l.length) :
    Calls Try.prog 92 #[.agg #[.slice a len cap, .int .i64 d]] w fun e w' => e = .returned (.bool (Num.thereB l d)) ∧ Below w.heap.size w w' := by
  by_cases h : 0 < len
  · have h' : decide (0 < (len : Int)) = true := by simpa using h
    have HE : Hid (Num.thereB l d = true) := Num.there_of l d (by omega)
    clear hi
    go_enter Try.func92, Try.ntmps92
    go_wp2_with fail
    go_ret
    exact ⟨ret_bool HE.out.symm, balloc _ _⟩
  · have h' : decide (0 < (len : Int)) = false := by simpa using h
    have HE : Hid (Num.thereB l d = (d != 0)) := by
      show Num.thereB l d = (d != 0)
      unfold Num.thereB
      have : ¬ 0 < l.length := by omega
      simp [this]
    clear hi
    go_enter Try.func92, Try.ntmps92
    go_wp2_with fail
    go_ret
    exact ⟨ret_bool HE.out.symm, balloc _ _⟩

/-- A box of nine cells. -/
structure Nine (b : Nat) (c0 c1 c2 c3 c4 c5 c6 c7 c8 : Value) (w : World) : Prop where
  n0 : w.cell? ⟨b, 0, none⟩ = some c0
  n1 : w.cell? ⟨b, 1, none⟩ = some c1
  n2 : w.cell? ⟨b, 2, none⟩ = some c2
  n3 : w.cell? ⟨b, 3, none⟩ = some c3
  n4 : w.cell? ⟨b, 4, none⟩ = some c4
  n5 : w.cell? ⟨b, 5, none⟩ = some c5
  n6 : w.cell? ⟨b, 6, none⟩ = some c6
  n7 : w.cell? ⟨b, 7, none⟩ = some c7
  n8 : w.cell? ⟨b, 8, none⟩ = some c8

theorem Nine.new (w : World) (c0 c1 c2 c3 c4 c5 c6 c7 c8 : Value) (t : TypeId) : Nine w.heap.size c0 c1 c2 c3 c4 c5 c6 c7 c8 (w.alloc (.cells #[c0, c1, c2, c3, c4, c5, c6, c7, c8] t)) :=
  ⟨by simp, by simp, by simp, by simp, by simp, by simp, by simp, by simp, by simp⟩

theorem Nine.step {b : Nat} {c0 c1 c2 c3 c4 c5 c6 c7 c8 : Value} {w w' : World} (h : Nine b c0 c1 c2 c3 c4 c5 c6 c7 c8 w) (hb : Below w.heap.size w w') : Nine b c0 c1 c2 c3 c4 c5 c6 c7 c8 w' :=
  ⟨carry hb h.n0, carry hb h.n1, carry hb h.n2, carry hb h.n3, carry hb h.n4, carry hb h.n5, carry hb h.n6, carry hb h.n7, carry hb h.n8⟩

theorem Nine.lt {b : Nat} {c0 c1 c2 c3 c4 c5 c6 c7 c8 : Value} {w : World} (h : Nine b c0 c1 c2 c3 c4 c5 c6 c7 c8 w) : b < w.heap.size := World.block_lt_of_cell? w _ h.n0

/-- Below B all is as it was; block r, from B on, has n cells. -/
structure HeldN (B : Nat) (V : World) (r n : Nat) (w : World) : Prop where
  bel : Below B V w
  lo : B ≤ r
  many : ∃ cs t, w.heap[r]? = some (.cells cs t (0, 0)) ∧ cs.size = n

theorem HeldN.drew {B : Nat} {V : World} {r n : Nat} {w : World} (h : HeldN B V r n w) : HeldN B V r n w.drew := ⟨h.bel.drew, h.lo, h.many⟩

theorem HeldN.lt {B : Nat} {V : World} {r n : Nat} {w : World} (h : HeldN B V r n w) : r < w.heap.size := by
  obtain ⟨cs, t, e, _⟩ := h.many
  rcases Nat.lt_or_ge r w.heap.size with h | h
  · exact h
  · rw [Array.getElem?_eq_none h] at e; cases e

theorem HeldN.step {B : Nat} {V : World} {r n : Nat} {w w' : World} (h : HeldN B V r n w) (k : Below w.heap.size w w') : HeldN B V r n w' := by
  have hr := h.lt
  refine ⟨h.bel.trans (k.mono (by have := h.lo; omega)), h.lo, ?_⟩
  obtain ⟨cs, t, e, hs⟩ := h.many
  exact ⟨cs, t, by rw [k.block r hr]; exact e, hs⟩

theorem HeldN.set {B : Nat} {V : World} {r n : Nat} {w : World} (h : HeldN B V r n w) (i : Nat) (u : Value) : HeldN B V r n (w.setCell ⟨r, i, none⟩ u) := by
  refine ⟨h.bel.setCell h.lo _, h.lo, ?_⟩
  obtain ⟨cs, t, e, hs⟩ := h.many
  exact ⟨_, t, Joins.block_setCell (i := i) e u, by simpa using hs⟩

theorem HeldN.cell {B : Nat} {V : World} {r n i : Nat} (hi : i < n) : ∃ F : World → Value, (∀ w, HeldN B V r n w → w.cell? ⟨r, i, none⟩ = some (F w)) ∧ (∀ w, HeldN B V r n w → w.frozen? ⟨r, i, none⟩ = false) := by
  refine ⟨fun w => (w.cell? ⟨r, i, none⟩).getD undef, ?_, ?_⟩
  · intro w h
    obtain ⟨cs, t, e, hs⟩ := h.many
    show w.cell? ⟨r, i, none⟩ = some ((w.cell? ⟨r, i, none⟩).getD undef)
    rw [Joins.cell_of_block e, Array.getElem?_eq_getElem (by omega)]
    rfl
  · intro w h
    obtain ⟨cs, t, e, _⟩ := h.many
    exact Joins.unfrozen_of_block e i

theorem four_set {w : World} {b : Nat} {a0 a1 a2 a3 : Value} (c0 : w.cell? ⟨b, 0, none⟩ = some a0) (c1 : w.cell? ⟨b, 1, none⟩ = some a1) (c2 : w.cell? ⟨b, 2, none⟩ = some a2) (c3 : w.cell? ⟨b, 3, none⟩ = some a3)
    (u0 u1 u2 u3 : Value) (X : World) (hX : X = (((w.setCell ⟨b, 0, none⟩ u0).setCell ⟨b, 1, none⟩ u1).setCell ⟨b, 2, none⟩ u2).setCell ⟨b, 3, none⟩ u3) :
    X.cell? ⟨b, 0, none⟩ = some u0 ∧ X.cell? ⟨b, 1, none⟩ = some u1 ∧ X.cell? ⟨b, 2, none⟩ = some u2 ∧ X.cell? ⟨b, 3, none⟩ = some u3 := by
  subst hX
  refine ⟨?_, ?_, ?_, ?_⟩
  · rw [cell_set_ne (by decide), cell_set_ne (by decide), cell_set_ne (by decide)]; exact cell_set_eq c0
  · rw [cell_set_ne (by decide), cell_set_ne (by decide)]; exact cell_set_eq (by rw [cell_set_ne (by decide)]; exact c1)
  · rw [cell_set_ne (by decide)]; exact cell_set_eq (by rw [cell_set_ne (by decide), cell_set_ne (by decide)]; exact c2)
  · exact cell_set_eq (by rw [cell_set_ne (by decide), cell_set_ne (by decide), cell_set_ne (by decide)]; exact c3)

set_option maxHeartbeats 800000 in
theorem parts_any (kd : Int) (xa : Option Addr) (xl xc : Nat) (xd : Int) (ya : Option Addr) (yl yc : Nat) (yd : Int) (za : Option Addr) (zl zc : Nat) (zd : Int) (wn wd : Int) (x y z : List Int) (w : World)
    (hx : xl = x.length) (hy : yl = y.length) (hz : zl = z.length) :
    Calls Try.prog 66 #[.agg #[.int .i64 kd, .slice xa xl xc, .int .i64 xd, .slice ya yl yc, .int .i64 yd, .slice za zl zc, .int .i64 zd, .int .i64 wn, .int .i64 wd]] w fun e w' =>
      e = .returned (.agg #[.bool (Num.thereB x xd), .bool (Num.thereB y yd), .bool (Num.thereB z zd), .bool (!Num.zeroW wn wd)]) ∧ Below w.heap.size w w' := by
  have HX : Hid _ := hx
  have HY : Hid _ := hy
  have HZ : Hid _ := hz
  clear hx hy hz
  have hN := Nine.step (Nine.new w (.int .i64 kd) (.slice xa xl xc) (.int .i64 xd) (.slice ya yl yc) (.int .i64 yd) (.slice za zl zc) (.int .i64 zd) (.int .i64 wn) (.int .i64 wd) 57) (balloc _ (.cells #[.bool false, .bool false, .bool false, .bool false] 92))
  go_enter Try.func66, Try.ntmps66
  go_wp2_with fail
  have hH : HeldN (w.heap.size + 1) ((w.alloc (.cells #[.int .i64 kd, .slice xa xl xc, .int .i64 xd, .slice ya yl yc, .int .i64 yd, .slice za zl zc, .int .i64 zd, .int .i64 wn, .int .i64 wd] 57)).alloc (.cells #[.bool false, .bool false, .bool false, .bool false] 92)) (w.heap.size + 1) 4 ((w.alloc (.cells #[.int .i64 kd, .slice xa xl xc, .int .i64 xd, .slice ya yl yc, .int .i64 yd, .slice za zl zc, .int .i64 zd, .int .i64 wn, .int .i64 wd] 57)).alloc (.cells #[.bool false, .bool false, .bool false, .bool false] 92)).drew :=
    HeldN.drew ⟨Below.refl _ _, Nat.le_refl _, _, _, heap_new (by simp) _, rfl⟩
  have HB0 : Hid (Below w.heap.size w ((w.alloc (.cells #[.int .i64 kd, .slice xa xl xc, .int .i64 xd, .slice ya yl yc, .int .i64 yd, .slice za zl zc, .int .i64 zd, .int .i64 wn, .int .i64 wd] 57)).alloc (.cells #[.bool false, .bool false, .bool false, .bool false] 92))) := bstep (balloc _ _) (balloc _ _)
  generalize hV : (w.alloc (.cells #[.int .i64 kd, .slice xa xl xc, .int .i64 xd, .slice ya yl yc, .int .i64 yd, .slice za zl zc, .int .i64 zd, .int .i64 wn, .int .i64 wd] 57)).alloc (.cells #[.bool false, .bool false, .bool false, .bool false] 92) = V at *
  have hVs : V.heap.size = w.heap.size + 2 := by rw [← hV]; simp
  clear hV
  have q1 : ∀ w', HeldN (w.heap.size + 1) V (w.heap.size + 1) 4 w' → w'.cell? ⟨w.heap.size, 1, none⟩ = some (.slice xa xl xc) := fun w' h => by rw [h.bel.cell (p := ⟨w.heap.size, 1, none⟩) (Nat.lt_succ_self _)]; exact hN.n1
  have q2 : ∀ w', HeldN (w.heap.size + 1) V (w.heap.size + 1) 4 w' → w'.cell? ⟨w.heap.size, 2, none⟩ = some (.int .i64 xd) := fun w' h => by rw [h.bel.cell (p := ⟨w.heap.size, 2, none⟩) (Nat.lt_succ_self _)]; exact hN.n2
  have q3 : ∀ w', HeldN (w.heap.size + 1) V (w.heap.size + 1) 4 w' → w'.cell? ⟨w.heap.size, 3, none⟩ = some (.slice ya yl yc) := fun w' h => by rw [h.bel.cell (p := ⟨w.heap.size, 3, none⟩) (Nat.lt_succ_self _)]; exact hN.n3
  have q4 : ∀ w', HeldN (w.heap.size + 1) V (w.heap.size + 1) 4 w' → w'.cell? ⟨w.heap.size, 4, none⟩ = some (.int .i64 yd) := fun w' h => by rw [h.bel.cell (p := ⟨w.heap.size, 4, none⟩) (Nat.lt_succ_self _)]; exact hN.n4
  have q5 : ∀ w', HeldN (w.heap.size + 1) V (w.heap.size + 1) 4 w' → w'.cell? ⟨w.heap.size, 5, none⟩ = some (.slice za zl zc) := fun w' h => by rw [h.bel.cell (p := ⟨w.heap.size, 5, none⟩) (Nat.lt_succ_self _)]; exact hN.n5
  have q6 : ∀ w', HeldN (w.heap.size + 1) V (w.heap.size + 1) 4 w' → w'.cell? ⟨w.heap.size, 6, none⟩ = some (.int .i64 zd) := fun w' h => by rw [h.bel.cell (p := ⟨w.heap.size, 6, none⟩) (Nat.lt_succ_self _)]; exact hN.n6
  have q7 : ∀ w', HeldN (w.heap.size + 1) V (w.heap.size + 1) 4 w' → w'.cell? ⟨w.heap.size, 7, none⟩ = some (.int .i64 wn) := fun w' h => by rw [h.bel.cell (p := ⟨w.heap.size, 7, none⟩) (Nat.lt_succ_self _)]; exact hN.n7
  have q8 : ∀ w', HeldN (w.heap.size + 1) V (w.heap.size + 1) 4 w' → w'.cell? ⟨w.heap.size, 8, none⟩ = some (.int .i64 wd) := fun w' h => by rw [h.bel.cell (p := ⟨w.heap.size, 8, none⟩) (Nat.lt_succ_self _)]; exact hN.n8
  obtain ⟨F0, r0, s0⟩ := HeldN.cell (B := w.heap.size + 1) (V := V) (r := w.heap.size + 1) (n := 4) (i := 0) (by omega)
  obtain ⟨F1, r1, s1⟩ := HeldN.cell (B := w.heap.size + 1) (V := V) (r := w.heap.size + 1) (n := 4) (i := 1) (by omega)
  obtain ⟨F2, r2, s2⟩ := HeldN.cell (B := w.heap.size + 1) (V := V) (r := w.heap.size + 1) (n := 4) (i := 2) (by omega)
  obtain ⟨F3, r3, s3⟩ := HeldN.cell (B := w.heap.size + 1) (V := V) (r := w.heap.size + 1) (n := 4) (i := 3) (by omega)
  have KX : Hid (∀ w', HeldN (w.heap.size + 1) V (w.heap.size + 1) 4 w' → Calls Try.prog 92 #[.agg #[.slice xa xl xc, .int .i64 xd]] w' fun e w'' => e = .returned (.bool (Num.thereB x xd)) ∧ HeldN (w.heap.size + 1) V (w.heap.size + 1) 4 w'') := fun w' h => (there_any xa xl xc xd x w' HX.out).mono fun _ _ k => ⟨k.1, h.step k.2⟩
  have KY : Hid (∀ w', HeldN (w.heap.size + 1) V (w.heap.size + 1) 4 w' → Calls Try.prog 92 #[.agg #[.slice ya yl yc, .int .i64 yd]] w' fun e w'' => e = .returned (.bool (Num.thereB y yd)) ∧ HeldN (w.heap.size + 1) V (w.heap.size + 1) 4 w'') := fun w' h => (there_any ya yl yc yd y w' HY.out).mono fun _ _ k => ⟨k.1, h.step k.2⟩
  have KZ : Hid (∀ w', HeldN (w.heap.size + 1) V (w.heap.size + 1) 4 w' → Calls Try.prog 92 #[.agg #[.slice za zl zc, .int .i64 zd]] w' fun e w'' => e = .returned (.bool (Num.thereB z zd)) ∧ HeldN (w.heap.size + 1) V (w.heap.size + 1) 4 w'') := fun w' h => (there_any za zl zc zd z w' HZ.out).mono fun _ _ k => ⟨k.1, h.step k.2⟩
  clear hN
  generalize hbx : Num.thereB x xd = bx at *
  generalize hby : Num.thereB y yd = by' at *
  generalize hbz : Num.thereB z zd = bz at *
  have HBX : Hid _ := hbx
  have HBY : Hid _ := hby
  have HBZ : Hid _ := hbz
  clear hbx hby hbz
  by_cases hw0 : wn = 0
  · by_cases hw1 : wd = 0
    · subst hw0 hw1
      go_region_held3 (fun w' => HeldN (w.heap.size + 1) V (w.heap.size + 1) 4 w') (first | assumption | (refine HeldN.set (HeldN.set (HeldN.set (HeldN.set ?_ 0 _) 1 _) 2 _) 3 _; assumption))
        (first | (go_at_call_of 92 (Value.slice xa xl xc); refine (KX.out _ ?_).mono ?_; assumption; rintro e v1 ⟨rfl, hb1⟩)
               | (go_at_call_of 92 (Value.slice ya yl yc); refine (KY.out _ ?_).mono ?_; assumption; rintro e v2 ⟨rfl, hb2⟩)
               | (go_at_call_of 92 (Value.slice za zl zc); refine (KZ.out _ ?_).mono ?_; assumption; rintro e v3 ⟨rfl, hb3⟩))
      have HB3 : Hid (Below (w.heap.size + 1) V v3) := hb3.bel
      obtain ⟨z0, z1, z2, z3⟩ := four_set (r0 v3 hb3) (r1 v3 hb3) (r2 v3 hb3) (r3 v3 hb3) (.bool bx) (.bool by') (.bool bz) (.bool false) _ rfl
      have HBF : Hid (Below w.heap.size w ((((v3.setCell ⟨w.heap.size + 1, 0, none⟩ (.bool bx)).setCell ⟨w.heap.size + 1, 1, none⟩ (.bool by')).setCell ⟨w.heap.size + 1, 2, none⟩ (.bool bz)).setCell ⟨w.heap.size + 1, 3, none⟩ (.bool false))) := bset (bset (bset (bset (HB0.out.trans (HB3.out.mono (by omega))) (by omega) _) (by omega) _) (by omega) _) (by omega) _
      clear q1 q2 q3 q4 q5 q6 q7 q8 r0 r1 r2 r3 s0 s1 s2 s3 KX KY KZ hb1 hb2 hb3 hH
      generalize (((v3.setCell ⟨w.heap.size + 1, 0, none⟩ (.bool bx)).setCell ⟨w.heap.size + 1, 1, none⟩ (.bool by')).setCell ⟨w.heap.size + 1, 2, none⟩ (.bool bz)).setCell ⟨w.heap.size + 1, 3, none⟩ (.bool false) = WX at *
      go_wp2_with fail
      exact bodyPost_ret (v := .agg #[.bool bx, .bool by', .bool bz, .bool false]) (by simp [results, Try.results66, go_sem, z0, z1, z2, z3]) rfl ⟨by rw [HBX.out, HBY.out, HBZ.out]; simp [Num.zeroW], HBF.out⟩
    · subst hw0
      go_region_held3 (fun w' => HeldN (w.heap.size + 1) V (w.heap.size + 1) 4 w') (first | assumption | (refine HeldN.set (HeldN.set (HeldN.set (HeldN.set ?_ 0 _) 1 _) 2 _) 3 _; assumption))
        (first | (go_at_call_of 92 (Value.slice xa xl xc); refine (KX.out _ ?_).mono ?_; assumption; rintro e v1 ⟨rfl, hb1⟩)
               | (go_at_call_of 92 (Value.slice ya yl yc); refine (KY.out _ ?_).mono ?_; assumption; rintro e v2 ⟨rfl, hb2⟩)
               | (go_at_call_of 92 (Value.slice za zl zc); refine (KZ.out _ ?_).mono ?_; assumption; rintro e v3 ⟨rfl, hb3⟩))
      have HB3 : Hid (Below (w.heap.size + 1) V v3) := hb3.bel
      obtain ⟨z0, z1, z2, z3⟩ := four_set (r0 v3 hb3) (r1 v3 hb3) (r2 v3 hb3) (r3 v3 hb3) (.bool bx) (.bool by') (.bool bz) (.bool true) _ rfl
      have HBF : Hid (Below w.heap.size w ((((v3.setCell ⟨w.heap.size + 1, 0, none⟩ (.bool bx)).setCell ⟨w.heap.size + 1, 1, none⟩ (.bool by')).setCell ⟨w.heap.size + 1, 2, none⟩ (.bool bz)).setCell ⟨w.heap.size + 1, 3, none⟩ (.bool true))) := bset (bset (bset (bset (HB0.out.trans (HB3.out.mono (by omega))) (by omega) _) (by omega) _) (by omega) _) (by omega) _
      clear q1 q2 q3 q4 q5 q6 q7 q8 r0 r1 r2 r3 s0 s1 s2 s3 KX KY KZ hb1 hb2 hb3 hH
      generalize (((v3.setCell ⟨w.heap.size + 1, 0, none⟩ (.bool bx)).setCell ⟨w.heap.size + 1, 1, none⟩ (.bool by')).setCell ⟨w.heap.size + 1, 2, none⟩ (.bool bz)).setCell ⟨w.heap.size + 1, 3, none⟩ (.bool true) = WX at *
      go_wp2_with fail
      exact bodyPost_ret (v := .agg #[.bool bx, .bool by', .bool bz, .bool true]) (by simp [results, Try.results66, go_sem, z0, z1, z2, z3]) rfl ⟨by rw [HBX.out, HBY.out, HBZ.out]; simp [Num.zeroW, hw1], HBF.out⟩
  · go_region_held3 (fun w' => HeldN (w.heap.size + 1) V (w.heap.size + 1) 4 w') (first | assumption | (refine HeldN.set (HeldN.set (HeldN.set (HeldN.set ?_ 0 _) 1 _) 2 _) 3 _; assumption))
        (first | (go_at_call_of 92 (Value.slice xa xl xc); refine (KX.out _ ?_).mono ?_; assumption; rintro e v1 ⟨rfl, hb1⟩)
               | (go_at_call_of 92 (Value.slice ya yl yc); refine (KY.out _ ?_).mono ?_; assumption; rintro e v2 ⟨rfl, hb2⟩)
               | (go_at_call_of 92 (Value.slice za zl zc); refine (KZ.out _ ?_).mono ?_; assumption; rintro e v3 ⟨rfl, hb3⟩))
    have HB3 : Hid (Below (w.heap.size + 1) V v3) := hb3.bel
    obtain ⟨z0, z1, z2, z3⟩ := four_set (r0 v3 hb3) (r1 v3 hb3) (r2 v3 hb3) (r3 v3 hb3) (.bool bx) (.bool by') (.bool bz) (.bool true) _ rfl
    have HBF : Hid (Below w.heap.size w ((((v3.setCell ⟨w.heap.size + 1, 0, none⟩ (.bool bx)).setCell ⟨w.heap.size + 1, 1, none⟩ (.bool by')).setCell ⟨w.heap.size + 1, 2, none⟩ (.bool bz)).setCell ⟨w.heap.size + 1, 3, none⟩ (.bool true))) := bset (bset (bset (bset (HB0.out.trans (HB3.out.mono (by omega))) (by omega) _) (by omega) _) (by omega) _) (by omega) _
    clear q1 q2 q3 q4 q5 q6 q7 q8 r0 r1 r2 r3 s0 s1 s2 s3 KX KY KZ hb1 hb2 hb3 hH
    generalize (((v3.setCell ⟨w.heap.size + 1, 0, none⟩ (.bool bx)).setCell ⟨w.heap.size + 1, 1, none⟩ (.bool by')).setCell ⟨w.heap.size + 1, 2, none⟩ (.bool bz)).setCell ⟨w.heap.size + 1, 3, none⟩ (.bool true) = WX at *
    go_wp2_with fail
    exact bodyPost_ret (v := .agg #[.bool bx, .bool by', .bool bz, .bool true]) (by simp [results, Try.results66, go_sem, z0, z1, z2, z3]) rfl ⟨by rw [HBX.out, HBY.out, HBZ.out]; simp [Num.zeroW, hw0], HBF.out⟩

end Go.Proofs.Ytjlkegchkngliaa
