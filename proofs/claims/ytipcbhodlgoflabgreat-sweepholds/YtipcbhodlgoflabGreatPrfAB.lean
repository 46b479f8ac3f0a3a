/- What proof.isThere and proof.partsOf do. -/
import Derived.Test.YtipcbhodlgoflabGreatPrfN
import Derived.Test.YtipcbhodlgoflabGreatLayH
namespace Go.Proofs.YtipcbhodlgoflabGreat
open Go.RowKit

set_option maxHeartbeats 400000 in
theorem there_any (a : Option Addr) (len cap : Nat) (d : Int) (l : List Int) (w : World) (hi : len = l.length) :
    Calls Tryz.prog 90 #[.agg #[.slice a len cap, .int .i64 d]] w fun e w' => e = .returned (.bool (Num.thereB l d)) ∧ Below w.heap.size w w' := by
  by_cases h : 0 < len
  · have h' : decide (0 < (len : Int)) = true := by simpa using h
    have HE : Hid (Num.thereB l d = true) := Num.there_of l d (by omega)
    clear hi
    go_enter Tryz.func90, Tryz.ntmps90
    go_wp2_with fail
    go_ret
    exact ⟨ret_bool HE.out.symm, balloc _ _⟩
  · have h' : decide (0 < (len : Int)) = false := by simpa using h
    have HE : Hid (Num.thereB l d = (d != 0)) := by
      show Num.thereB l d = (d != 0)
      unfold Num.thereB
      have : ¬ 0 < l.length := by omega
      simp [this]
    clear hi
    go_enter Tryz.func90, Tryz.ntmps90
    go_wp2_with fail
    go_ret
    exact ⟨ret_bool HE.out.symm, balloc _ _⟩

/-- A box of nine cells. -/
structure Nine (b : Nat) (c0 c1 c2 c3 c4 c5 c6 c7 c8 : Value) (w : World) : Prop where
  n0 : w.cell? ⟨b, 0, none⟩ = some c0
  n1 : w.cell? ⟨b, 1, none⟩ = some c1
  n2 : w.cell? ⟨b, 2, none⟩ = some c2
  n3 : w.cell? ⟨b, 3, none⟩ = some c3
  n4 : w.cell? ⟨b, 4, none⟩ = some c4
  n5 : w.cell? ⟨b, 5, none⟩ = some c5
  n6 : w.cell? ⟨b, 6, none⟩ = some c6
  n7 : w.cell? ⟨b, 7, none⟩ = some c7
  n8 : w.cell? ⟨b, 8, none⟩ = some c8

theorem Nine.new (w : World) (c0 c1 c2 c3 c4 c5 c6 c7 c8 : Value) (t : TypeId) : Nine w.heap.size c0 c1 c2 c3 c4 c5 c6 c7 c8 (w.alloc (.cells #[c0, c1, c2, c3, c4, c5, c6, c7, c8] t)) :=
  ⟨by simp, by simp, by simp, by simp, by simp, by simp, by simp, by simp, by simp⟩

theorem Nine.step {b : Nat} {c0 c1 c2 c3 c4 c5 c6 c7 c8 : Value} {w w' : World} (h : Nine b c0 c1 c2 c3 c4 c5 c6 c7 c8 w) (hb : Below w.heap.size w w') : Nine b c0 c1 c2 c3 c4 c5 c6 c7 c8 w' :=
  ⟨carry hb h.n0, carry hb h.n1, carry hb h.n2, carry hb h.n3, carry hb h.n4, carry hb h.n5, carry hb h.n6, carry hb h.n7, carry hb h.n8⟩

theorem Nine.lt {b : Nat} {c0 c1 c2 c3 c4 c5 c6 c7 c8 : Value} {w : World} (h : Nine b c0 c1 c2 c3 c4 c5 c6 c7 c8 w) : b < w.heap.size := World.block_lt_of_cell? w _ h.n0

/-- Below B all is as it was; block r, from B on, has n cells. -/
structure HeldN (B : Nat) (V : World) (r n : Nat) (w : World) : Prop where
  bel : Below B V w
  lo : B ≤ r
  many : ∃ cs t, w.heap[r]? = some (.cells cs t (0, 0)) ∧ cs.size = n

theorem HeldN.drew {B : Nat} {V : World} {r n : Nat} {w : World} (h : HeldN B V r n w) : HeldN B V r n w.drew := ⟨h.bel.drew, h.lo, h.many⟩

theorem HeldN.lt {B : Nat} {V : World} {r n : Nat} {w : World} (h : HeldN B V r n w) : r < w.heap.size := by
  obtain ⟨cs, t, e, _⟩ := h.many
  rcases Nat.lt_or_ge r w.heap.size with h | h
  · exact h
  · rw [Array.getElem?_eq_none h] at e; cases e

theorem HeldN.step {B : Nat} {V : World} {r n : Nat} {w w' : World} (h : HeldN B V r n w) (k : Below w.heap.size w w') : HeldN B V r n w' := by
  have hr := h.lt
  refine ⟨h.bel.trans (k.mono (by have := h.lo; omega)), h.lo, ?_⟩
  obtain ⟨cs, t, e, hs⟩ := h.many
  exact ⟨cs, t, by rw [k.block r hr]; exact e, hs⟩

theorem HeldN.set {B : Nat} {V : World} {r n : Nat} {w : World} (h : HeldN B V r n w) (i : Nat) (u : Value) : HeldN B V r n (w.setCell ⟨r, i, none⟩ u) := by
  refine ⟨h.bel.setCell h.lo _, h.lo, ?_⟩
  obtain ⟨cs, t, e, hs⟩ := h.many
  exact ⟨_, t, Joins.block_setCell (i := i) e u, by simpa using hs⟩

theorem HeldN.cell {B : Nat} {V : World} {r n i : Nat} (hi : i < n) : ∃ F : World → Value, (∀ w, HeldN B V r n w → w.cell? ⟨r, i, none⟩ = some (F w)) ∧ (∀ w, HeldN B V r n w → w.frozen? ⟨r, i, none⟩ = false) := by
  refine ⟨fun w => (w.cell? ⟨r, i, none⟩).getD undef, ?_, ?_⟩
  · intro w h
    obtain ⟨cs, t, e, hs⟩ := h.many
    show w.cell? ⟨r, i, none⟩ = some ((w.cell? ⟨r, i, none⟩).getD undef)
    rw [Joins.cell_of_block e, Array.getElem?_eq_getElem (by omega)]
    rfl
  · intro w h
    obtain ⟨cs, t, e, _⟩ := h.many
    exact Joins.unfrozen_of_block e i

theorem four_set {w : World} {b : Nat} {a0 a1 a2 a3 : Value} (c0 : w.cell? ⟨b, 0, none⟩ = some a0) (c1 : w.cell? ⟨b, 1, none⟩ = some a1) (c2 : w.cell? ⟨b, 2, none⟩ = some a2) (c3 : w.cell? ⟨b, 3, none⟩ = some a3)
    (u0 u1 u2 u3 : Value) (X : World) (hX : X = (((w.setCell ⟨b, 0, none⟩ u0).setCell ⟨b, 1, none⟩ u1).setCell ⟨b, 2, none⟩ u2).setCell ⟨b, 3, none⟩ u3) :
    X.cell? ⟨b, 0, none⟩ = some u0 ∧ X.cell? ⟨b, 1, none⟩ = some u1 ∧ X.cell? ⟨b, 2, none⟩ = some u2 ∧ X.cell? ⟨b, 3, none⟩ = some u3 := by
  subst hX
  refine ⟨?_, ?_, ?_, ?_⟩
  · rw [cell_set_ne (by decide), cell_set_ne (by decide), cell_set_ne (by decide)]; exact cell_set_eq c0
  · rw [cell_set_ne (by decide), cell_set_ne (by decide)]; exact cell_set_eq (by rw [cell_set_ne (by decide)]; exact c1)
  · rw [cell_set_ne (by decide)]; exact cell_set_eq (by rw [cell_set_ne (by decide), cell_set_ne (by decide)]; exact c2)
  · exact cell_set_eq (by rw [cell_set_ne (by decide), cell_set_ne (by decide), cell_set_ne (by decide)]; exact c3)

set_option maxHeartbeats 800000 in
theorem parts_any (kd : Int) (xa : Option Addr) (xl xc : Nat) (xd : Int) (ya : Option Addr) (yl yc : Nat) (yd : Int) (za : Option Addr) (zl zc : Nat) (zd : Int) (wn wd : Int) (x y z : List Int) (w : World)
    (hx : xl = x.length) (hy : yl = y.length) (hz : zl = z.length) :
    Calls Tryz.prog 62 #[.agg #[.int .i64 kd, .slice xa xl xc, .int .i64 xd, .slice ya yl yc, .int .i64 yd, .slice za zl zc, .int .i64 zd, .int .i64 wn, .int .i64 wd]] w fun e w' =>
      e = .returned (.agg #[.bool (Num.thereB x xd), .bool (Num.thereB y yd), .bool (Num.thereB z zd), .bool (!Num.zeroW wn wd)]) ∧ Below w.heap.size w w' := by
  have HX : Hid _ := hx
  have HY : Hid _ := hy
  have HZ : Hid _ := hz
  clear hx hy hz
  have hN := Nine.step (Nine.new w (.int .i64 kd) (.slice xa xl xc) (.int .i64 xd) (.slice ya yl yc) (.int .i64 yd) (.slice za zl zc) (.int .i64 zd) (.int .i64 wn) (.int .i64 wd) 38) (balloc _ (.cells #[.bool false, .bool false, .bool false, .bool false] 121))
  go_enter Tryz.func62, Tryz.ntmps62
  go_wp2_with fail
  have hH : HeldN (w.heap.size + 1) ((w.alloc (.cells #[.int .i64 kd, .slice xa xl xc, .int .i64 xd, .slice ya yl yc, .int .i64 yd, .slice za zl zc, .int .i64 zd, .int .i64 wn, .int .i64 wd] 38)).alloc (.cells #[.bool false, .bool false, .bool false, .bool false] 121)) (w.heap.size + 1) 4 ((w.alloc (.cells #[.int .i64 kd, .slice xa xl xc, .int .i64 xd, .slice ya yl yc, .int .i64 yd, .slice za zl zc, .int .i64 zd, .int .i64 wn, .int .i64 wd] 38)).alloc (.cells #[.bool false, .bool false, .bool false, .bool false] 121)).drew :=
    HeldN.drew ⟨Below.refl _ _, Nat.le_refl _, _, _, heap_new (by simp) _, rfl⟩
  have HB0 : Hid (Below w.heap.size w ((w.alloc (.cells #[.int .i64 kd, .slice xa xl xc, .int .i64 xd, .slice ya yl yc, .int .i64 yd, .slice za zl zc, .int .i64 zd, .int .i64 wn, .int .i64 wd] 38)).alloc (.cells #[.bool false, .bool false, .bool false, .bool false] 121))) := bstep (balloc _ _) (balloc _ _)
  generalize hV : (w.alloc (.cells #[.int .i64 kd, .slice xa xl xc, .int .i64 xd, .slice ya yl yc, .int .i64 yd, .slice za zl zc, .int .i64 zd, .int .i64 wn, .int .i64 wd] 38)).alloc (.cells #[.bool false, .bool false, .bool false, .bool false] 121) = V at *
  have hVs : V.heap.size = w.heap.size + 2 := by rw [← hV]; simp
  clear hV
  have q1 : ∀ w', HeldN (w.heap.size + 1) V (w.heap.size + 1) 4 w' → w'.cell? ⟨w.heap.size, 1, none⟩ = some (.slice xa xl xc) := fun w' h => by rw [h.bel.cell (p := ⟨w.heap.size, 1, none⟩) (Nat.lt_succ_self _)]; exact hN.n1
  have q2 : ∀ w', HeldN (w.heap.size + 1) V (w.heap.size + 1) 4 w' → w'.cell? ⟨w.heap.size, 2, none⟩ = some (.int .i64 xd) := fun w' h => by rw [h.bel.cell (p := ⟨w.heap.size, 2, none⟩) (Nat.lt_succ_self _)]; exact hN.n2
  have q3 : ∀ w', HeldN (w.heap.size + 1) V (w.heap.size + 1) 4 w' → w'.cell? ⟨w.heap.size, 3, none⟩ = some (.slice ya yl yc) := fun w' h => by rw [h.bel.cell (p := ⟨w.heap.size, 3, none⟩) (Nat.lt_succ_self _)]; exact hN.n3
  have q4 : ∀ w', HeldN (w.heap.size + 1) V (w.heap.size + 1) 4 w' → w'.cell? ⟨w.heap.size, 4, none⟩ = some (.int .i64 yd) := fun w' h => by rw [h.bel.cell (p := ⟨w.heap.size, 4, none⟩) (Nat.lt_succ_self _)]; exact hN.n4
  have q5 : ∀ w', HeldN (w.heap.size + 1) V (w.heap.size + 1) 4 w' → w'.cell? ⟨w.heap.size, 5, none⟩ = some (.slice za zl zc) := fun w' h => by rw [h.bel.cell (p := ⟨w.heap.size, 5, none⟩) (Nat.lt_succ_self _)]; exact hN.n5
  have q6 : ∀ w', HeldN (w.heap.size + 1) V (w.heap.size + 1) 4 w' → w'.cell? ⟨w.heap.size, 6, none⟩ = some (.int .i64 zd) := fun w' h => by rw [h.bel.cell (p := ⟨w.heap.size, 6, none⟩) (Nat.lt_succ_self _)]; exact hN.n6
  have q7 : ∀ w', HeldN (w.heap.size + 1) V (w.heap.size + 1) 4 w' → w'.cell? ⟨w.heap.size, 7, none⟩ = some (.int .i64 wn) := fun w' h => by rw [h.bel.cell (p := ⟨w.heap.size, 7, none⟩) (Nat.lt_succ_self _)]; exact hN.n7
  have q8 : ∀ w', HeldN (w.heap.size + 1) V (w.heap.size + 1) 4 w' → w'.cell? ⟨w.heap.size, 8, none⟩ = some (.int .i64 wd) := fun w' h => by rw [h.bel.cell (p := ⟨w.heap.size, 8, none⟩) (Nat.lt_succ_self _)]; exact hN.n8
  obtain ⟨F0, r0, s0⟩ := HeldN.cell (B := w.heap.size + 1) (V := V) (r := w.heap.size + 1) (n := 4) (i := 0) (by omega)
  obtain ⟨F1, r1, s1⟩ := HeldN.cell (B := w.heap.size + 1) (V := V) (r := w.heap.size + 1) (n := 4) (i := 1) (by omega)
  obtain ⟨F2, r2, s2⟩ := HeldN.cell (B := w.heap.size + 1) (V := V) (r := w.heap.size + 1) (n := 4) (i := 2) (by omega)
  obtain ⟨F3, r3, s3⟩ := HeldN.cell (B := w.heap.size + 1) (V := V) (r := w.heap.size + 1) (n := 4) (i := 3) (by omega)
  have KX : Hid (∀ w', HeldN (w.heap.size + 1) V (w.heap.size + 1) 4 w' → Calls Tryz.prog 90 #[.agg #[.slice xa xl xc, .int .i64 xd]] w' fun e w'' => e = .returned (.bool (Num.thereB x xd)) ∧ HeldN (w.heap.size + 1) V (w.heap.size + 1) 4 w'') := fun w' h => (there_any xa xl xc xd x w' HX.out).mono fun _ _ k => ⟨k.1, h.step k.2⟩
  have KY : Hid (∀ w', HeldN (w.heap.size + 1) V (w.heap.size + 1) 4 w' → Calls Tryz.prog 90 #[.agg #[.slice ya yl yc, .int .i64 yd]] w' fun e w'' => e = .returned (.bool (Num.thereB y yd)) ∧ HeldN (w.heap.size + 1) V (w.heap.size + 1) 4 w'') := fun w' h => (there_any ya yl yc yd y w' HY.out).mono fun _ _ k => ⟨k.1, h.step k.2⟩
  have KZ : Hid (∀ w', HeldN (w.heap.size + 1) V (w.heap.size + 1) 4 w' → Calls Tryz.prog 90 #[.agg #[.slice za zl zc, .int .i64 zd]] w' fun e w'' => e = .returned (.bool (Num.thereB z zd)) ∧ HeldN (w.heap.size + 1) V (w.heap.size + 1) 4 w'') := fun w' h => (there_any za zl zc zd z w' HZ.out).mono fun _ _ k => ⟨k.1, h.step k.2⟩
  clear hN
  generalize hbx : Num.thereB x xd = bx at *
  generalize hby : Num.thereB y yd = by' at *
  generalize hbz : Num.thereB z zd = bz at *
  have HBX : Hid _ := hbx
  have HBY : Hid _ := hby
  have HBZ : Hid _ := hbz
  clear hbx hby hbz
  by_cases hw0 : wn = 0
  · by_cases hw1 : wd = 0
    · subst hw0 hw1
      go_region_held3 (fun w' => HeldN (w.heap.size + 1) V (w.heap.size + 1) 4 w') (first | assumption | (refine HeldN.set (HeldN.set (HeldN.set (HeldN.set ?_ 0 _) 1 _) 2 _) 3 _; assumption))
        (first | (go_at_call_of 90 (Value.slice xa xl xc); refine (KX.out _ ?_).mono ?_; assumption; rintro e v1 ⟨rfl, hb1⟩)
               | (go_at_call_of 90 (Value.slice ya yl yc); refine (KY.out _ ?_).mono ?_; assumption; rintro e v2 ⟨rfl, hb2⟩)
               | (go_at_call_of 90 (Value.slice za zl zc); refine (KZ.out _ ?_).mono ?_; assumption; rintro e v3 ⟨rfl, hb3⟩))
      have HB3 : Hid (Below (w.heap.size + 1) V v3) := hb3.bel
      obtain ⟨z0, z1, z2, z3⟩ := four_set (r0 v3 hb3) (r1 v3 hb3) (r2 v3 hb3) (r3 v3 hb3) (.bool bx) (.bool by') (.bool bz) (.bool false) _ rfl
      have HBF : Hid (Below w.heap.size w ((((v3.setCell ⟨w.heap.size + 1, 0, none⟩ (.bool bx)).setCell ⟨w.heap.size + 1, 1, none⟩ (.bool by')).setCell ⟨w.heap.size + 1, 2, none⟩ (.bool bz)).setCell ⟨w.heap.size + 1, 3, none⟩ (.bool false))) := bset (bset (bset (bset (HB0.out.trans (HB3.out.mono (by omega))) (by omega) _) (by omega) _) (by omega) _) (by omega) _
      clear q1 q2 q3 q4 q5 q6 q7 q8 r0 r1 r2 r3 s0 s1 s2 s3 KX KY KZ hb1 hb2 hb3 hH
      generalize (((v3.setCell ⟨w.heap.size + 1, 0, none⟩ (.bool bx)).setCell ⟨w.heap.size + 1, 1, none⟩ (.bool by')).setCell ⟨w.heap.size + 1, 2, none⟩ (.bool bz)).setCell ⟨w.heap.size + 1, 3, none⟩ (.bool false) = WX at *
      go_wp2_with fail
      exact bodyPost_ret (v := .agg #[.bool bx, .bool by', .bool bz, .bool false]) (by simp [results, Tryz.results62, go_sem, z0, z1, z2, z3]) rfl ⟨by rw [HBX.out, HBY.out, HBZ.out]; simp [Num.zeroW], HBF.out⟩
    · subst hw0
      go_region_held3 (fun w' => HeldN (w.heap.size + 1) V (w.heap.size + 1) 4 w') (first | assumption | (refine HeldN.set (HeldN.set (HeldN.set (HeldN.set ?_ 0 _) 1 _) 2 _) 3 _; assumption))
        (first | (go_at_call_of 90 (Value.slice xa xl xc); refine (KX.out _ ?_).mono ?_; assumption; rintro e v1 ⟨rfl, hb1⟩)
               | (go_at_call_of 90 (Value.slice ya yl yc); refine (KY.out _ ?_).mono ?_; assumption; rintro e v2 ⟨rfl, hb2⟩)
               | (go_at_call_of 90 (Value.slice za zl zc); refine (KZ.out _ ?_).mono ?_; assumption; rintro e v3 ⟨rfl, hb3⟩))
      have HB3 : Hid (Below (w.heap.size + 1) V v3) := hb3.bel
      obtain ⟨z0, z1, z2, z3⟩ := four_set (r0 v3 hb3) (r1 v3 hb3) (r2 v3 hb3) (r3 v3 hb3) (.bool bx) (.bool by') (.bool bz) (.bool true) _ rfl
      have HBF : Hid (Below w.heap.size w ((((v3.setCell ⟨w.heap.size + 1, 0, none⟩ (.bool bx)).setCell ⟨w.heap.size + 1, 1, none⟩ (.bool by')).setCell ⟨w.heap.size + 1, 2, none⟩ (.bool bz)).setCell ⟨w.heap.size + 1, 3, none⟩ (.bool true))) := bset (bset (bset (bset (HB0.out.trans (HB3.out.mono (by omega))) (by omega) _) (by omega) _) (by omega) _) (by omega) _
      clear q1 q2 q3 q4 q5 q6 q7 q8 r0 r1 r2 r3 s0 s1 s2 s3 KX KY KZ hb1 hb2 hb3 hH
      generalize (((v3.setCell ⟨w.heap.size + 1, 0, none⟩ (.bool bx)).setCell ⟨w.heap.size + 1, 1, none⟩ (.bool by')).setCell ⟨w.heap.size + 1, 2, none⟩ (.bool bz)).setCell ⟨w.heap.size + 1, 3, none⟩ (.bool true) = WX at *
      go_wp2_with fail
      exact bodyPost_ret (v := .agg #[.bool bx, .bool by', .bool bz, .bool true]) (by simp [results, Tryz.results62, go_sem, z0, z1, z2, z3]) rfl ⟨by rw [HBX.out, HBY.out, HBZ.out]; simp [Num.zeroW, hw1], HBF.out⟩
  · go_region_held3 (fun w' => HeldN (w.heap.size + 1) V (w.heap.size + 1) 4 w') (first | assumption | (refine HeldN.set (HeldN.set (HeldN.set (HeldN.set ?_ 0 _) 1 _) 2 _) 3 _; assumption))
        (first | (go_at_call_of 90 (Value.slice xa xl xc); refine (KX.out _ ?_).mono ?_; assumption; rintro e v1 ⟨rfl, hb1⟩)
               | (go_at_call_of 90 (Value.slice ya yl yc); refine (KY.out _ ?_).mono ?_; assumption; rintro e v2 ⟨rfl, hb2⟩)
               | (go_at_call_of 90 (Value.slice za zl zc); refine (KZ.out _ ?_).mono ?_; assumption; rintro e v3 ⟨rfl, hb3⟩))
    have HB3 : Hid (Below (w.heap.size + 1) V v3) := hb3.bel
    obtain ⟨z0, z1, z2, z3⟩ := four_set (r0 v3 hb3) (r1 v3 hb3) (r2 v3 hb3) (r3 v3 hb3) (.bool bx) (.bool by') (.bool bz) (.bool true) _ rfl
    have HBF : Hid (Below w.heap.size w ((((v3.setCell ⟨w.heap.size + 1, 0, none⟩ (.bool bx)).setCell ⟨w.heap.size + 1, 1, none⟩ (.bool by')).setCell ⟨w.heap.size + 1, 2, none⟩ (.bool bz)).setCell ⟨w.heap.size + 1, 3, none⟩ (.bool true))) := bset (bset (bset (bset (HB0.out.trans (HB3.out.mono (by omega))) (by omega) _) (by omega) _) (by omega) _) (by omega) _
    clear q1 q2 q3 q4 q5 q6 q7 q8 r0 r1 r2 r3 s0 s1 s2 s3 KX KY KZ hb1 hb2 hb3 hH
    generalize (((v3.setCell ⟨w.heap.size + 1, 0, none⟩ (.bool bx)).setCell ⟨w.heap.size + 1, 1, none⟩ (.bool by')).setCell ⟨w.heap.size + 1, 2, none⟩ (.bool bz)).setCell ⟨w.heap.size + 1, 3, none⟩ (.bool true) = WX at *
    go_wp2_with fail
    exact bodyPost_ret (v := .agg #[.bool bx, .bool by', .bool bz, .bool true]) (by simp [results, Tryz.results62, go_sem, z0, z1, z2, z3]) rfl ⟨by rw [HBX.out, HBY.out, HBZ.out]; simp [Num.zeroW, hw0], HBF.out⟩

end Go.Proofs.YtipcbhodlgoflabGreat

/- What proof.priced and proof.covers do. -/
namespace Go.Proofs.YtipcbhodlgoflabGreat
open Go.RowKit

theorem Num.mosts_bd12 (p : Num.Lp) (hm : p.may = true) (m : Nat) : ∀ j : Nat, -12 ≤ (Num.mostsL p m)[j]?.getD 0 ∧ (Num.mostsL p m)[j]?.getD 0 ≤ 12 := by
  intro j
  unfold Num.mostsL
  rw [Num.range_getD]
  split
  · unfold Num.mostF
    by_cases hj : j < p.rows.length
    · exact (p.row_of hm j hj).2.2
    · rw [List.getElem?_eq_none (l := p.rows) (by omega)]; simp
  · omega

theorem Num.col_bd (p : Num.Lp) (hm : p.may = true) (m k : Nat) : ∀ j : Nat, -12 ≤ (Num.colL p m k)[j]?.getD 0 ∧ (Num.colL p m k)[j]?.getD 0 ≤ 12 := by
  intro j
  unfold Num.colL
  rw [Num.range_getD]
  split
  · exact Num.hasF_bd p hm k j
  · omega

set_option maxHeartbeats 800000 in
theorem priced_any (ca : Option Addr) (cl cc : Nat) (ra : Option Addr) (m rc : Nat) (p : Num.Lp) (w : World) (hr : RowsAt w ra m p.rows) (hm : p.may = true)
    (ya : Option Addr) (yc : Nat) (y : List Int) (yd : Int) (hy : Ints w ya m y) (hyb : ∀ j : Nat, -1073741824 ≤ y[j]?.getD 0 ∧ y[j]?.getD 0 ≤ 1073741824) :
    Calls Tryz.prog 93 #[.agg #[.slice ca cl cc, .slice ra m rc], .agg #[.slice ya m yc, .int .i64 yd]] w fun e w' => e = .returned (.int .i64 (Num.pricedN p m y)) ∧ Below w.heap.size w w' := by
  have HR : Hid (RowsAt w ra m p.rows) := hr
  have HY : Hid (Ints w ya m y) := hy
  have HYB : Hid (∀ j : Nat, -1073741824 ≤ y[j]?.getD 0 ∧ y[j]?.getD 0 ≤ 1073741824) := hyb
  have HM : Hid (p.may = true) := hm
  have h4 : m ≤ 4 := by have := hr.1; have := (p.may_of hm).2.2.1.2; omega
  clear hr hy hm hyb
  have hL0 := box2_refl w (.slice ca cl cc) (.slice ra m rc) (.slice ya m yc) (.int .i64 yd) 25 34
  go_enter Tryz.func93, Tryz.ntmps93
  go_wp2_with fail
  generalize hV : (w.alloc (.cells #[.slice ca cl cc, .slice ra m rc] 25)).alloc (.cells #[.slice ya m yc, .int .i64 yd] 34) = V at *
  have HBX : Hid (∀ w', Below V.heap.size V w' → (w'.cell? ⟨w.heap.size, 0, none⟩ = some (.slice ca cl cc) ∧ w'.cell? ⟨w.heap.size, 1, none⟩ = some (.slice ra m rc)) ∧ (w'.cell? ⟨w.heap.size + 1, 0, none⟩ = some (.slice ya m yc) ∧ w'.cell? ⟨w.heap.size + 1, 1, none⟩ = some (.int .i64 yd)) ∧ w.heap.size + 1 < w'.heap.size ∧ Below w.heap.size w w') := by
    intro w' h; rw [← hV] at h; exact box2 h
  have hS0 : Below V.heap.size V V.drew := (Below.refl _ _).drew
  clear hV
  have q0 : ∀ w', Below V.heap.size V w' → w'.cell? ⟨w.heap.size, 0, none⟩ = some (.slice ca cl cc) := fun w' h => (HBX.out w' h).1.1
  have q1 : ∀ w', Below V.heap.size V w' → w'.cell? ⟨w.heap.size, 1, none⟩ = some (.slice ra m rc) := fun w' h => (HBX.out w' h).1.2
  have q2 : ∀ w', Below V.heap.size V w' → w'.cell? ⟨w.heap.size + 1, 0, none⟩ = some (.slice ya m yc) := fun w' h => (HBX.out w' h).2.1.1
  have KM : Hid (∀ w', Below V.heap.size V w' → Calls Tryz.prog 52 #[.agg #[.slice ca cl cc, .slice ra m rc]] w' fun e w'' => ∃ g, e = .returned (.slice (some ⟨g, 0, none⟩) m m) ∧ Below V.heap.size V w'' ∧ Ints w'' (some ⟨g, 0, none⟩) m (Num.mostsL p m)) := by
    intro w' h
    refine (mosts_any _ _ _ _ _ _ p w' (RowsAt.below HR.out (HBX.out w' h).2.2.2 (Nat.le_refl _)) h4).mono ?_
    rintro e w'' ⟨g, rfl, _, hl, hb⟩
    exact ⟨g, rfl, bstep h hb, hl⟩
  have KT : Hid (∀ w' g, Below V.heap.size V w' → Ints w' (some ⟨g, 0, none⟩) m (Num.mostsL p m) → Calls Tryz.prog 41 #[.slice (some ⟨g, 0, none⟩) m m, .slice ya m yc] w' fun e w'' => e = .returned (.int .i64 (Num.pricedN p m y)) ∧ Below V.heap.size V w'') := by
    intro w' g h hi
    exact (below_of_drew (together_any _ _ _ _ _ _ (Num.mostsL p m) y w' 12 1073741824 hi (Ints.below HY.out (HBX.out w' h).2.2.2 (Nat.le_refl _)) rfl (by omega) (Num.mosts_bd12 p HM.out m) HYB.out (by omega))).mono fun _ _ k => ⟨k.1, bstep h k.2⟩
  clear hL0
  go_region_held3 (fun w' => Below V.heap.size V w') (first | assumption)
    (first | (go_at_call 52; refine (KM.out _ ?_).mono ?_; assumption; rintro e v1 ⟨g1, rfl, hb1, hI1⟩)
           | (go_at_call 41; refine (KT.out _ _ ?_ hI1).mono ?_; assumption; rintro e v2 ⟨rfl, hb2⟩))
  have hB2 := (HBX.out _ hb2).2.2.2
  clear q0 q1 q2 KM KT hS0 hb1 hb2 hI1
  go_wp2_with fail
  go_ret
  exact ⟨rfl, hB2⟩

theorem Num.range_all_succ (f : Nat → Bool) (k : Nat) : (List.range (k + 1)).all f = ((List.range k).all f && f k) := by
  rw [List.range_succ, List.all_append]; simp

theorem Num.range_all_false (f : Nat → Bool) (n k : Nat) (hk : k < n) (hf : f k = false) : (List.range n).all f = false := by
  rw [List.all_eq_false]
  exact ⟨k, by simpa using hk, by simp [hf]⟩

theorem Num.point_len (m : Nat) (y : List Int) (yd : Int) (h : y.length ≠ m) : Num.pointB m y yd = false := by
  unfold Num.pointB
  have : (y.length == m) = false := by simpa using h
  rw [this]; rfl

theorem Num.covers_no (p : Num.Lp) (m : Nat) (y : List Int) (yd : Int) (c : List Int) (h : Num.pointB m y yd = false) : Num.coversB p m y yd c = false := by unfold Num.coversB; rw [h]; rfl
theorem Num.covers_all (p : Num.Lp) (m : Nat) (y : List Int) (yd : Int) (c : List Int) (h : Num.pointB m y yd = true) : Num.coversB p m y yd c = (List.range c.length).all (Num.costB p m y yd c) := by unfold Num.coversB; rw [h]; rfl

set_option maxHeartbeats 1600000 in
theorem covers_any (ca : Option Addr) (cl cc : Nat) (ra : Option Addr) (m rc : Nat) (p : Num.Lp) (w : World) (hr : RowsAt w ra m p.rows) (hm : p.may = true)
    (ya : Option Addr) (yl yc : Nat) (y : List Int) (yd : Int) (hy : Ints w ya yl y) (hyl : yl ≤ 9223372036854775807) (wa : Option Addr) (wl wc : Nat) (c : List Int) (hw : Ints w wa wl c) (hw4 : wl ≤ 4) (hcb : ∀ j : Nat, -400 ≤ c[j]?.getD 0 ∧ c[j]?.getD 0 ≤ 400) :
    Calls Tryz.prog 92 #[.agg #[.slice ca cl cc, .slice ra m rc], .agg #[.slice ya yl yc, .int .i64 yd], .slice wa wl wc] w fun e w' => e = .returned (.bool (Num.coversB p m y yd c)) ∧ Below w.heap.size w w' := by
  have HR : Hid (RowsAt w ra m p.rows) := hr
  have HY : Hid (Ints w ya yl y) := hy
  have HYL : Hid (yl = y.length) := hy.1
  have HW : Hid (Ints w wa wl c) := hw
  have HWL : Hid (wl = c.length) := hw.1
  have HCB : Hid (∀ j : Nat, -400 ≤ c[j]?.getD 0 ∧ c[j]?.getD 0 ≤ 400) := hcb
  have HM : Hid (p.may = true) := hm
  have h4 : m ≤ 4 := by have := hr.1; have := (p.may_of hm).2.2.1.2; omega
  clear hr hy hm hw hcb
  have hL0 := box2_refl w (.slice ca cl cc) (.slice ra m rc) (.slice ya yl yc) (.int .i64 yd) 25 34
  have HB0 : Hid _ := (box2 hL0).2.2.2
  by_cases h1n : yl ≠ m
  · have h1' : ((yl : Int) == (m : Int)) = false := by simp; omega
    have HF : Hid (Num.coversB p m y yd c = false) := Num.covers_no p m y yd c (Num.point_len m y yd (by have := HYL.out; omega))
    go_enter Tryz.func92, Tryz.ntmps92
    go_wp2_with fail
    go_ret
    exact ⟨ret_bool HF.out.symm, HB0.out⟩
  obtain rfl : yl = m := by omega
  clear h1n
  cases h2 : Num.mayPB yd y with
  | false =>
    have HF : Hid (Num.coversB p yl y yd c = false) := Num.covers_no p yl y yd c (by unfold Num.pointB; rw [h2]; simp)
    go_enter Tryz.func92, Tryz.ntmps92
    go_wp2_with fail
    refine (fmayPoint_any yd _ _ _ y _ (Ints.below HY.out HB0.out (Nat.le_refl _)) hyl).mono ?_
    rintro e w1 ⟨rfl, hb1⟩
    rw [h2]
    go_wp2_with fail
    go_ret
    exact ⟨ret_bool HF.out.symm, (box2 (bstep hL0 hb1)).2.2.2⟩
  | true =>
    cases h3 : Num.anyNeg y with
    | true =>
      have HF : Hid (Num.coversB p yl y yd c = false) := Num.covers_no p yl y yd c (by unfold Num.pointB; rw [h3]; simp)
      go_enter Tryz.func92, Tryz.ntmps92
      go_wp2_with fail
      refine (fmayPoint_any yd _ _ _ y _ (Ints.below HY.out HB0.out (Nat.le_refl _)) hyl).mono ?_
      rintro e w1 ⟨rfl, hb1⟩
      rw [h2]
      obtain ⟨⟨c0, c1⟩, ⟨c2, c3⟩, hz, hB⟩ := box2 (bstep hL0 hb1)
      go_wp2_with fail
      refine (below_any _ _ _ y _ (Ints.below HY.out hB (Nat.le_refl _)) hyl).mono ?_
      rintro e w2 ⟨rfl, rfl⟩
      rw [h3]
      go_wp2_with fail
      go_ret
      exact ⟨ret_bool HF.out.symm, hB⟩
    | false =>
      have hp : Num.pointB yl y yd = true := by unfold Num.pointB; have := HYL.out; rw [h2, h3, this]; simp
      have HF : Hid (Num.coversB p yl y yd c = (List.range c.length).all (Num.costB p yl y yd c)) := Num.covers_all p yl y yd c hp
      obtain ⟨_, hyd, hyw, _, _⟩ := Num.point_of _ _ _ hp
      have HYB : Hid (∀ j : Nat, -1073741824 ≤ y[j]?.getD 0 ∧ y[j]?.getD 0 ≤ 1073741824) := Num.withinB_iff _ _ hyw (by omega)
      clear hp hyw
      go_enter Tryz.func92, Tryz.ntmps92
      go_wp2_with fail
      refine (fmayPoint_any yd _ _ _ y _ (Ints.below HY.out HB0.out (Nat.le_refl _)) hyl).mono ?_
      rintro e w1 ⟨rfl, hb1⟩
      rw [h2]
      have hL1 := bstep hL0 hb1
      obtain ⟨⟨c0, c1⟩, ⟨c2, c3⟩, hz, hB⟩ := box2 hL1
      go_wp2_with fail
      refine (below_any _ _ _ y _ (Ints.below HY.out hB (Nat.le_refl _)) hyl).mono ?_
      rintro e w2 ⟨rfl, rfl⟩
      rw [h3]
      go_wp2_with fail
      generalize hV : (w.alloc (.cells #[.slice ca cl cc, .slice ra yl rc] 25)).alloc (.cells #[.slice ya yl yc, .int .i64 yd] 34) = V at *
      have HBX : Hid (∀ w', Below V.heap.size V w' → (w'.cell? ⟨w.heap.size, 0, none⟩ = some (.slice ca cl cc) ∧ w'.cell? ⟨w.heap.size, 1, none⟩ = some (.slice ra yl rc)) ∧ (w'.cell? ⟨w.heap.size + 1, 0, none⟩ = some (.slice ya yl yc) ∧ w'.cell? ⟨w.heap.size + 1, 1, none⟩ = some (.int .i64 yd)) ∧ w.heap.size + 1 < w'.heap.size ∧ Below w.heap.size w w') := by
        intro w' h; rw [← hV] at h; exact box2 h
      clear hV hL0 hb1 c0 c1 c2 c3 hz hB HB0
      go_loopw [28] (fun i wr => ∃ k : Nat, k ≤ wl ∧ i = .int .i64 k ∧ (List.range k).all (Num.costB p yl y yd c) = true ∧ Below V.heap.size V wr) (fun i _ => wl - (intOf i).toNat)
      case atStart => exact ⟨0, Nat.zero_le _, rfl, rfl, hL1⟩
      case round =>
        obtain ⟨k, hk, rfl, hall, hbl⟩ := hrel
        have HALL : Hid _ := hall
        clear hall hL1
        by_cases hlt : k < wl
        · rcases (Ints.below HW.out (HBX.out _ hbl).2.2.2 (Nat.le_refl _)).2 with h | ⟨b, off, ha, hbs, hc⟩
          · omega
          have hck := hc k hlt
          clear hc
          have hcb := HCB.out k
          have hmul := Num.mul_bd2 _ _ 400 1073741824 hcb (by omega : -1073741824 ≤ yd ∧ yd ≤ 1073741824)
          have HK : Hid (Num.costB p yl y yd c k = decide (c[k]?.getD 0 * yd ≤ Num.dotN (Num.colL p yl k) y yl)) := rfl
          have hwr : wrap64 (c[k]?.getD 0 * yd) = c[k]?.getD 0 * yd := IntWalk.wrap64_in _ (by omega)
          have hwr2 : IntKind.i64.wrap (c[k]?.getD 0 * yd) = c[k]?.getD 0 * yd := by rw [IntWalk.i64_left]; exact hwr
          generalize c[k]?.getD 0 = x at hck hcb hmul HK hwr hwr2
          subst ha
          have q0 : ∀ w', Below wr.heap.size wr w' → w'.cell? ⟨w.heap.size, 0, none⟩ = some (.slice ca cl cc) := fun w' h => (HBX.out w' (bstep hbl h)).1.1
          have q1 : ∀ w', Below wr.heap.size wr w' → w'.cell? ⟨w.heap.size, 1, none⟩ = some (.slice ra yl rc) := fun w' h => (HBX.out w' (bstep hbl h)).1.2
          have q2 : ∀ w', Below wr.heap.size wr w' → w'.cell? ⟨w.heap.size + 1, 0, none⟩ = some (.slice ya yl yc) := fun w' h => (HBX.out w' (bstep hbl h)).2.1.1
          have q3 : ∀ w', Below wr.heap.size wr w' → w'.cell? ⟨w.heap.size + 1, 1, none⟩ = some (.int .i64 yd) := fun w' h => (HBX.out w' (bstep hbl h)).2.1.2
          have KC : Hid (∀ w', Below wr.heap.size wr w' → Calls Tryz.prog 81 #[.agg #[.slice ca cl cc, .slice ra yl rc], .int .i64 k] w' fun e w'' => ∃ g, e = .returned (.slice (some ⟨g, 0, none⟩) yl yl) ∧ Below wr.heap.size wr w'' ∧ Ints w'' (some ⟨g, 0, none⟩) yl (Num.colL p yl k)) := by
            intro w' h
            refine (column_any _ _ _ _ _ _ p w' (RowsAt.below HR.out (HBX.out w' (bstep hbl h)).2.2.2 (Nat.le_refl _)) HM.out k (by omega)).mono ?_
            rintro e w'' ⟨g, rfl, _, hi, hb⟩
            exact ⟨g, rfl, bstep h hb, hi⟩
          have KT : Hid (∀ w' g, Below wr.heap.size wr w' → Ints w' (some ⟨g, 0, none⟩) yl (Num.colL p yl k) → Calls Tryz.prog 41 #[.slice (some ⟨g, 0, none⟩) yl yl, .slice ya yl yc] w' fun e w'' => e = .returned (.int .i64 (Num.dotN (Num.colL p yl k) y yl)) ∧ Below wr.heap.size wr w'') := by
            intro w' g h hi
            exact (below_of_drew (together_any _ _ _ _ _ _ (Num.colL p yl k) y w' 12 1073741824 hi (Ints.below HY.out (HBX.out w' (bstep hbl h)).2.2.2 (Nat.le_refl _)) rfl (by omega) (Num.col_bd p HM.out yl k) HYB.out (by omega))).mono fun _ _ k => ⟨k.1, bstep h k.2⟩
          have hS0 : Below wr.heap.size wr wr.drew := (Below.refl _ _).drew
          generalize Num.dotN (Num.colL p yl k) y yl = D at HK KT
          go_wp2_with fail
          go_region_held3 (fun w' => Below wr.heap.size wr w') (first | assumption)
            (first | (go_at_call 81; refine (KC.out _ ?_).mono ?_; assumption; rintro e v1 ⟨g1, rfl, hb1, hI1⟩)
                   | (go_at_call 41; refine (KT.out _ _ ?_ hI1).mono ?_; assumption; rintro e v2 ⟨rfl, hb2⟩))
          have hbl2 := bstep hbl hb2
          clear q0 q1 q2 q3 KC KT hS0 hb1 hb2 hI1 hck
          by_cases hg : D < x * yd
          · go_wp2_with fail
            go_ret
            refine ⟨ret_bool ?_, (HBX.out _ hbl2).2.2.2⟩
            rw [HF.out]
            exact (Num.range_all_false _ _ k (by have := HWL.out; omega) (by rw [HK.out]; simp; omega)).symm
          · have hg' : decide (D < x * yd) = false := by simpa using hg
            go_wp2_with fail
            go_roundw
            case rel => exact ⟨k + 1, hlt, by go_num, by rw [Num.range_all_succ, HALL.out, HK.out]; simp; omega, hbl2⟩
            case measure => simp [intOf]; omega
        · have hke : k = c.length := by have := HWL.out; omega
          have hBf := (HBX.out _ hbl).2.2.2
          go_wp2_with fail
          go_ret
          refine ⟨ret_bool ?_, hBf⟩
          rw [HF.out, ← hke]
          exact HALL.out.symm

end Go.Proofs.YtipcbhodlgoflabGreat

/- What proof.leveled does. -/
namespace Go.Proofs.YtipcbhodlgoflabGreat
open Go.RowKit

theorem Tryz.infoRow : (Tryz.prog.info? 32).map (fun i => (i.zero, i.size, i.bytes)) = some (some (.agg #[.slice none 0 0, .int .i64 0]), 2, 32) := by kernel_rfl

/-- Rows of the call's own, the first k of them with the numbers of rs, and 0. -/
structure LRows (B : Nat) (V : World) (r n k : Nat) (W0 : World) (rs : List (List Int × Int)) (w : World) : Prop where
  held : HeldN B V r (n * 2) w
  rows : ∀ j, j < k → ∃ ra rl rc, w.cell? ⟨r, j * 2, none⟩ = some (.slice ra rl rc) ∧ w.cell? ⟨r, j * 2 + 1, none⟩ = some (.int .i64 0) ∧ Ints W0 ra rl (rs[j]?.getD ([], 0)).1 ∧ rl ≤ 9223372036854775807

theorem LRows.step {B : Nat} {V : World} {r n k : Nat} {W0 : World} {rs : List (List Int × Int)} {w w' : World} (h : LRows B V r n k W0 rs w) (hb : Below w.heap.size w w') : LRows B V r n k W0 rs w' := by
  refine ⟨h.held.step hb, fun j hj => ?_⟩
  obtain ⟨ra, rl, rc, c0, c1, hi, hl⟩ := h.rows j hj
  exact ⟨ra, rl, rc, carry hb c0, carry hb c1, hi, hl⟩

theorem LRows.push {B : Nat} {V : World} {r n k : Nat} {W0 : World} {rs : List (List Int × Int)} {w : World} (h : LRows B V r n k W0 rs w) (hk : k < n) (ra : Option Addr) (rl rc : Nat) (hi : Ints W0 ra rl (rs[k]?.getD ([], 0)).1) (hl : rl ≤ 9223372036854775807) :
    LRows B V r n (k + 1) W0 rs ((w.setCell ⟨r, k * 2, none⟩ (.slice ra rl rc)).setCell ⟨r, k * 2 + 1, none⟩ (.int .i64 0)) := by
  obtain ⟨F0, f0, _⟩ := HeldN.cell (B := B) (V := V) (r := r) (n := n * 2) (i := k * 2) (by omega)
  obtain ⟨F1, f1, _⟩ := HeldN.cell (B := B) (V := V) (r := r) (n := n * 2) (i := k * 2 + 1) (by omega)
  refine ⟨(h.held.set _ _).set _ _, fun j hj => ?_⟩
  by_cases hjk : j < k
  · obtain ⟨ra', rl', rc', c0, c1, hi', hl'⟩ := h.rows j hjk
    exact ⟨ra', rl', rc', by rw [cell_set_ne (by omega), cell_set_ne (by omega)]; exact c0, by rw [cell_set_ne (by omega), cell_set_ne (by omega)]; exact c1, hi', hl'⟩
  · obtain rfl : j = k := by omega
    exact ⟨ra, rl, rc, by rw [cell_set_ne (by omega)]; exact cell_set_eq (f0 w h.held), cell_set_eq (by rw [cell_set_ne (by omega)]; exact f1 w h.held), hi, hl⟩

theorem LRows.done {B : Nat} {V : World} {r n : Nat} {W0 : World} {rs : List (List Int × Int)} {w w' : World} (h : LRows B V r n n W0 rs w) (hn : n = rs.length) (hc : ∀ i, w'.cell? ⟨r, i, none⟩ = w.cell? ⟨r, i, none⟩) (hs : r < w'.heap.size) (hb : Below W0.heap.size W0 w') : RowsAt w' (some ⟨r, 0, none⟩) n (rs.map fun q => (q.1, 0)) := by
  refine ⟨by rw [List.length_map]; exact hn, Or.inr ⟨r, 0, rfl, hs, fun j hj => ?_⟩⟩
  obtain ⟨ra, rl, rc, c0, c1, hi, hl⟩ := h.rows j hj
  have e : (rs.map fun q => (q.1, (0 : Int)))[j]?.getD ([], 0) = ((rs[j]?.getD ([], 0)).1, 0) := by
    rw [List.getElem?_map, List.getElem?_eq_getElem (by omega)]; rfl
  rw [e]
  exact ⟨ra, rl, rc, by rw [Nat.zero_add, hc]; exact c0, by rw [Nat.zero_add, hc]; exact c1, hi.below hb (Nat.le_refl _), hl⟩

theorem two_set {w : World} {b : Nat} {a0 a1 : Value} (c0 : w.cell? ⟨b, 0, none⟩ = some a0) (c1 : w.cell? ⟨b, 1, none⟩ = some a1) (u0 u1 : Value) (X : World) (hX : X = (w.setCell ⟨b, 0, none⟩ u0).setCell ⟨b, 1, none⟩ u1) :
    X.cell? ⟨b, 0, none⟩ = some u0 ∧ X.cell? ⟨b, 1, none⟩ = some u1 := by
  subst hX
  exact ⟨by rw [cell_set_ne (by decide)]; exact cell_set_eq c0, cell_set_eq (by rw [cell_set_ne (by decide)]; exact c1)⟩

set_option maxHeartbeats 800000 in
theorem leveled_any (ca : Option Addr) (cl cc : Nat) (ra : Option Addr) (m rc : Nat) (p : Num.Lp) (w : World) (hr : RowsAt w ra m p.rows) (h4 : m ≤ 4) :
    Calls Tryz.prog 94 #[.agg #[.slice ca cl cc, .slice ra m rc]] w fun e w' => ∃ g, e = .returned (.agg #[.slice ca cl cc, .slice (some ⟨g, 0, none⟩) m m]) ∧ RowsAt w' (some ⟨g, 0, none⟩) m (Num.level p).rows ∧ Below w.heap.size w w' := by
  have HR : Hid (RowsAt w ra m p.rows) := hr
  have HRL : Hid (m = p.rows.length) := hr.1
  clear hr
  obtain ⟨i0, hif, hz0, hz1, hz2⟩ := info_parts Tryz.infoRow
  have hL0 := box2_refl w (.slice ca cl cc) (.slice ra m rc) (.slice none 0 0) (.slice none 0 0) 25 25
  go_enter Tryz.func94, Tryz.ntmps94
  go_wp2_with (at_make; refine wpList_make_full _ rfl (.tmp 8) (.tmp 8) 23 rfl (w.heap.size + 2) 32 i0 (.agg #[.slice none 0 0, .int .i64 0]) 2 Tryz.underlying23 hif hz0 hz1 .i64 .i64 _ _ m rfl rfl rfl rfl (by rw [hz2]; omega) (by unfold maxLen; omega) (by simp) ?_; intro w3 hown hgrow; have hb3 := made_below hgrow; obtain ⟨⟨k0, k1⟩, _⟩ := box2 hb3; have HO : Hid _ := hown; clear hown hgrow)
  have HL3 : Hid (LRows (w.heap.size + 2) w3 (w.heap.size + 1 + 1) m 0 w p.rows w3) := by
    refine ⟨⟨Below.refl _ _, by omega, ?_⟩, fun j hj => absurd hj (Nat.not_lt_zero _)⟩
    rcases HO.out.2 with ⟨h, _⟩ | ⟨g, cap, cur, h, _, hg, _, _, hs, _⟩
    · cases h
    · simp only [Value.slice.injEq, Option.some.injEq, Addr.mk.injEq] at h
      obtain ⟨⟨rfl, _⟩, _, rfl⟩ := h
      exact ⟨cur, _, by simpa using hg, hs⟩
  have hs3 : w.heap.size + 1 + 1 < w3.heap.size := HL3.out.held.lt
  have HB3 : Hid (∀ w', Below (w.heap.size + 2) w3 w' → (w'.cell? ⟨w.heap.size, 0, none⟩ = some (.slice ca cl cc) ∧ w'.cell? ⟨w.heap.size, 1, none⟩ = some (.slice ra m rc)) ∧ (w'.cell? ⟨w.heap.size + 1, 0, none⟩ = some (.slice none 0 0) ∧ w'.cell? ⟨w.heap.size + 1, 1, none⟩ = some (.slice none 0 0)) ∧ (w'.frozen? ⟨w.heap.size + 1, 0, none⟩ = false ∧ w'.frozen? ⟨w.heap.size + 1, 1, none⟩ = false) ∧ w.heap.size + 1 < w'.heap.size ∧ Below w.heap.size w w') := by
    intro w' h
    have h2 : Below ((w.alloc (.cells #[.slice ca cl cc, .slice ra m rc] 25)).alloc (.cells #[.slice none 0 0, .slice none 0 0] 25)).heap.size ((w.alloc (.cells #[.slice ca cl cc, .slice ra m rc] 25)).alloc (.cells #[.slice none 0 0, .slice none 0 0] 25)) w' := hb3.trans (h.mono (by simp))
    obtain ⟨a, b, c, d⟩ := box2 h2
    refine ⟨a, b, ⟨?_, ?_⟩, c, d⟩
    · rw [h2.frozen (by simp)]; go_simp
    · rw [h2.frozen (by simp)]; go_simp
  clear HO hL0 hb3 k0 k1
  go_loopw [13] (fun i wr => ∃ k : Nat, k ≤ m ∧ i = .int .i64 k ∧ LRows (w.heap.size + 2) w3 (w.heap.size + 1 + 1) m k w p.rows wr) (fun i _ => m - (intOf i).toNat)
  case atStart => exact ⟨0, Nat.zero_le _, rfl, HL3.out⟩
  case round =>
    obtain ⟨k, hk, rfl, hLR⟩ := hrel
    have HLR : Hid (LRows (w.heap.size + 2) w3 (w.heap.size + 1 + 1) m k w p.rows wr) := hLR
    obtain ⟨⟨c0, c1⟩, ⟨d0, d1⟩, ⟨f0, f1⟩, hz, hB⟩ := HB3.out _ hLR.held.bel
    have hrs := hLR.held.lt
    clear HL3
    by_cases hlt : k < m
    · rcases HR.out.2 with h | ⟨b, off, ha, hbs, hc⟩
      · omega
      obtain ⟨xa, xl, xc, e0, e1, hx, hxl⟩ := hc k hlt
      have HXI : Hid _ := hx
      have g0 : wr.cell? ⟨b, off + k * 2, none⟩ = some (.slice xa xl xc) := by rw [hB.cell (p := ⟨b, off + k * 2, none⟩) hbs]; exact e0
      have g1 : wr.cell? ⟨b, off + k * 2 + 1, none⟩ = some (.int .i64 (p.rows[k]?.getD ([], 0)).2) := by rw [hB.cell (p := ⟨b, off + k * 2 + 1, none⟩) hbs]; exact e1
      generalize (p.rows[k]?.getD ([], 0)).2 = mo at g1
      obtain ⟨F0, t0, s0⟩ := HeldN.cell (B := w.heap.size + 2) (V := w3) (r := w.heap.size + 1 + 1) (n := m * 2) (i := k * 2) (by omega)
      obtain ⟨F1, t1, s1⟩ := HeldN.cell (B := w.heap.size + 2) (V := w3) (r := w.heap.size + 1 + 1) (n := m * 2) (i := k * 2 + 1) (by omega)
      have u0 := t0 _ hLR.held
      have u1 := t1 _ hLR.held
      have v0 := s0 _ hLR.held
      have v1 := s1 _ hLR.held
      generalize F0 wr = o0 at u0
      generalize F1 wr = o1 at u1
      clear hc e0 e1 hx t0 t1 s0 s1 hLR d0 d1 f0 f1 hs3
      subst ha
      go_wp2_with fail
      go_roundw
      case rel => exact ⟨k + 1, hlt, by go_num, (HLR.out.push hlt xa xl xc HXI.out hxl).step (balloc _ _)⟩
      case measure => simp [intOf]; omega
    · have hke : m = k := by omega
      subst hke
      have hbf : Below w.heap.size w ((wr.setCell ⟨w.heap.size + 1, 0, none⟩ (.slice ca cl cc)).setCell ⟨w.heap.size + 1, 1, none⟩ (.slice (some ⟨w.heap.size + 1 + 1, 0, none⟩) m m)) := bset (bset hB (by omega) _) (by omega) _
      have HRT : Hid (RowsAt ((wr.setCell ⟨w.heap.size + 1, 0, none⟩ (.slice ca cl cc)).setCell ⟨w.heap.size + 1, 1, none⟩ (.slice (some ⟨w.heap.size + 1 + 1, 0, none⟩) m m)) (some ⟨w.heap.size + 1 + 1, 0, none⟩) m (Num.level p).rows) :=
        hLR.done HRL.out (fun i => by rw [World.cell?_setCell_far _ _ _ _ (by dsimp only; omega), World.cell?_setCell_far _ _ _ _ (by dsimp only; omega)]) (by simpa using hrs) hbf
      obtain ⟨z0, z1⟩ := two_set d0 d1 (.slice ca cl cc) (.slice (some ⟨w.heap.size + 1 + 1, 0, none⟩) m m) _ rfl
      have HBF : Hid _ := hbf
      clear hLR hbf
      go_wp2_with fail
      exact bodyPost_ret (v := .agg #[.slice ca cl cc, .slice (some ⟨w.heap.size + 1 + 1, 0, none⟩) m m]) (by simp [results, Tryz.results94, go_sem, z0, z1]) rfl ⟨_, rfl, HRT.out, HBF.out⟩

end Go.Proofs.YtipcbhodlgoflabGreat

/- What proof.isNothing does. -/
namespace Go.Proofs.YtipcbhodlgoflabGreat
open Go.RowKit

section
variable {P : Program} {l : List Oper} {Q : Exit → Act → World → Prop} {md : Region.Mode} {S : World → Prop}

/-- Take number i first, the region being written out. -/
theorem takeH {i : Nat} {oi : Oper} {v : Value} {fuel : Nat} {listed : Array Bool} {a : Act} {w : World} (hi : l[i]? = some oi)
    (hs : Region.noSelect l.toArray = true) (hf : Region.free md l.toArray listed i = true) (hr : (Region.ready md l.toArray listed).contains i = true)
    (hQ : ∀ c a w, Q (.panic c) (a.put oi.dst v) w → Q (.panic c) a w) (hy : YieldsIf P l.toArray S oi v a) (hS : S w)
    (h : wpAnyH P md l.toArray Q S fuel (listed.setIfInBounds i true) (a.put oi.dst v) w) : wpAnyH P md l.toArray Q S (fuel + 1) listed a w :=
  wpAnyH_take (by rw [List.getElem?_toArray]; exact hi) hs hf hr hQ hy hS h

/-- The one that is ready is carried out. -/
theorem readyH {i : Nat} {o : Oper} {fuel : Nat} {listed : Array Bool} {a : Act} {w : World} (hi : l[i]? = some o)
    (h : ∀ K' : Act → World → Prop, Shut (∀ a w, S w → (S w → wpAnyH P md l.toArray Q S fuel (listed.setIfInBounds i true) a w) → K' a w) → if Region.wanted o (yielded l.toArray a.tmps) = true then Oper.wp P o a w K' Q else K' (a.put o.dst undef) w) :
    AllReadyH P md l.toArray Q S fuel listed a w [i] :=
  AllReadyH.cons (by rw [List.getElem?_toArray]; exact hi) h AllReadyH.nil
end

/-- A program's box and an answer's, in every later world. -/
theorem box29 {w w1 : World} {a b c0 c1 c2 c3 c4 c5 c6 c7 c8 : Value} {t u : TypeId} (hb : Below ((w.alloc (.cells #[a, b] t)).alloc (.cells #[c0, c1, c2, c3, c4, c5, c6, c7, c8] u)).heap.size ((w.alloc (.cells #[a, b] t)).alloc (.cells #[c0, c1, c2, c3, c4, c5, c6, c7, c8] u)) w1) :
    (w1.cell? ⟨w.heap.size, 0, none⟩ = some a ∧ w1.cell? ⟨w.heap.size, 1, none⟩ = some b) ∧ Nine (w.heap.size + 1) c0 c1 c2 c3 c4 c5 c6 c7 c8 w1 ∧ w.heap.size + 1 < w1.heap.size ∧ Below w.heap.size w w1 := by
  have hn := Nine.step (Nine.new (w.alloc (.cells #[a, b] t)) c0 c1 c2 c3 c4 c5 c6 c7 c8 u) hb
  refine ⟨⟨?_, ?_⟩, by simpa using hn, ?_, ?_⟩
  · rw [hb.cell (by simp; omega)]; go_simp
  · rw [hb.cell (by simp; omega)]; go_simp
  · have := hb.size; simp at this; omega
  · exact (((Below.refl _ _).alloc (Nat.le_refl _) _).alloc (by simp) _).trans (hb.mono (by simp; omega))

/-- A new slice of n zeros, wherever it is made. -/
theorem make_zeros (n : Nat) (hn : n ≤ 4) : ∃ f : World → World, (∀ w, (Instr.makeSlice 22 (.int .i64 (n : Int)) (.int .i64 (n : Int))).run Tryz.prog w = .ok (.slice (some ⟨w.heap.size, 0, none⟩) n n) (f w)) ∧ (∀ w, Below w.heap.size w (f w) ∧ Ints (f w) (some ⟨w.heap.size, 0, none⟩) n (List.replicate n 0)) := by
  obtain ⟨i0, hif, hz0, hz1, hz2⟩ := info_parts Tryz.info64
  have key : ∀ w : World, ∃ w', (Instr.makeSlice 22 (.int .i64 (n : Int)) (.int .i64 (n : Int))).run Tryz.prog w = .ok (.slice (some ⟨w.heap.size, 0, none⟩) n n) w' ∧ Below w.heap.size w w' ∧ Ints w' (some ⟨w.heap.size, 0, none⟩) n (List.replicate n 0) := by
    intro w
    obtain ⟨w', h1, h2, h3⟩ := run_make_full (P := Tryz.prog) w w.heap.size 22 2 i0 (.int .i64 0) 1 Tryz.underlying22 hif hz0 hz1 .i64 .i64 n (by rw [hz2]; omega) (by unfold maxLen; omega) (Nat.le_refl _)
    refine ⟨w', h1, made_below h3, ?_⟩
    have := (Own.made (fun _ => 0) h2).ints
    rw [Num.fill_zero] at this
    exact this
  exact ⟨fun w => (key w).choose, fun w => (key w).choose_spec.1, fun w => (key w).choose_spec.2⟩

theorem Num.nothing_no (p : Num.Lp) (a : Num.Ans) (h : (a.yd == 1) = false) : Num.nothingB p a = false := by unfold Num.nothingB; rw [h]; rfl
theorem Num.nothing_cov (p : Num.Lp) (a : Num.Ans) (h : Num.coversB p p.rows.length a.y a.yd (List.replicate p.costs.length 0) = false) : Num.nothingB p a = false := by unfold Num.nothingB; rw [h]; simp
theorem Num.nothing_yes (p : Num.Lp) (a : Num.Ans) (h1 : (a.yd == 1) = true) (h : Num.coversB p p.rows.length a.y a.yd (List.replicate p.costs.length 0) = true) : Num.nothingB p a = decide (Num.pricedN p p.rows.length a.y < 0) := by unfold Num.nothingB; rw [h, h1]; simp

set_option maxHeartbeats 1600000 in
theorem nothing_any (ca : Option Addr) (cl cc : Nat) (ra : Option Addr) (m rc : Nat) (p : Num.Lp) (w : World) (hc : Ints w ca cl p.costs) (hr : RowsAt w ra m p.rows) (hm : p.may = true) (a : Num.Ans)
    (xa : Option Addr) (xl xc : Nat) (ya : Option Addr) (yl yc : Nat) (za : Option Addr) (zl zc : Nat) (hy : Ints w ya yl a.y) (hyl : yl ≤ 9223372036854775807) :
    Calls Tryz.prog 65 #[.agg #[.slice ca cl cc, .slice ra m rc], .agg #[.int .i64 a.kind, .slice xa xl xc, .int .i64 a.xd, .slice ya yl yc, .int .i64 a.yd, .slice za zl zc, .int .i64 a.rd, .int .i64 a.wn, .int .i64 a.wd]] w fun e w' =>
      e = .returned (.bool (Num.nothingB p a)) ∧ Below w.heap.size w w' := by
  have HR : Hid (RowsAt w ra m p.rows) := hr
  have HY : Hid (Ints w ya yl a.y) := hy
  have HM : Hid (p.may = true) := hm
  have HCL : Hid (cl = p.costs.length) := hc.1
  have HRL : Hid (m = p.rows.length) := hr.1
  have hcl4 : cl ≤ 4 := by have := hc.1; have := (p.may_of hm).1.2; omega
  clear hr hy hm hc
  have hL0 : Below ((w.alloc (.cells #[.slice ca cl cc, .slice ra m rc] 25)).alloc (.cells #[.int .i64 a.kind, .slice xa xl xc, .int .i64 a.xd, .slice ya yl yc, .int .i64 a.yd, .slice za zl zc, .int .i64 a.rd, .int .i64 a.wn, .int .i64 a.wd] 38)).heap.size ((w.alloc (.cells #[.slice ca cl cc, .slice ra m rc] 25)).alloc (.cells #[.int .i64 a.kind, .slice xa xl xc, .int .i64 a.xd, .slice ya yl yc, .int .i64 a.yd, .slice za zl zc, .int .i64 a.rd, .int .i64 a.wn, .int .i64 a.wd] 38)) ((w.alloc (.cells #[.slice ca cl cc, .slice ra m rc] 25)).alloc (.cells #[.int .i64 a.kind, .slice xa xl xc, .int .i64 a.xd, .slice ya yl yc, .int .i64 a.yd, .slice za zl zc, .int .i64 a.rd, .int .i64 a.wn, .int .i64 a.wd] 38)) := Below.refl _ _
  obtain ⟨f, hmk, hfz⟩ := make_zeros cl hcl4
  have HFZ : Hid _ := hfz
  clear hfz
  have HN1 := Num.nothing_no p a
  have HN2 := Num.nothing_cov p a
  have HN3 := Num.nothing_yes p a
  rw [← HRL.out, ← HCL.out] at HN2 HN3
  have H1 : Hid _ := HN1
  have H2 : Hid _ := HN2
  have H3 : Hid _ := HN3
  clear HN1 HN2 HN3
  generalize Num.nothingB p a = res at *
  obtain ⟨kd, x, xd, y, yd, z, zd, wn, wd⟩ := a
  dsimp only at *
  go_enter Tryz.func65, Tryz.ntmps65
  go_wp2_with fail
  generalize hV : (w.alloc (.cells #[.slice ca cl cc, .slice ra m rc] 25)).alloc (.cells #[.int .i64 kd, .slice xa xl xc, .int .i64 xd, .slice ya yl yc, .int .i64 yd, .slice za zl zc, .int .i64 zd, .int .i64 wn, .int .i64 wd] 38) = V at *
  have HBX : Hid (∀ w', Below V.heap.size V w' → (w'.cell? ⟨w.heap.size, 0, none⟩ = some (.slice ca cl cc) ∧ w'.cell? ⟨w.heap.size, 1, none⟩ = some (.slice ra m rc)) ∧ Nine (w.heap.size + 1) (.int .i64 kd) (.slice xa xl xc) (.int .i64 xd) (.slice ya yl yc) (.int .i64 yd) (.slice za zl zc) (.int .i64 zd) (.int .i64 wn) (.int .i64 wd) w' ∧ w.heap.size + 1 < w'.heap.size ∧ Below w.heap.size w w') := by
    intro w' h; rw [← hV] at h; exact box29 h
  clear hV
  have q0 : ∀ w', Below V.heap.size V w' → w'.cell? ⟨w.heap.size, 0, none⟩ = some (.slice ca cl cc) := fun w' h => (HBX.out w' h).1.1
  have q1 : ∀ w', Below V.heap.size V w' → w'.cell? ⟨w.heap.size, 1, none⟩ = some (.slice ra m rc) := fun w' h => (HBX.out w' h).1.2
  have q3 : ∀ w', Below V.heap.size V w' → w'.cell? ⟨w.heap.size + 1, 3, none⟩ = some (.slice ya yl yc) := fun w' h => (HBX.out w' h).2.1.n3
  have q4 : ∀ w', Below V.heap.size V w' → w'.cell? ⟨w.heap.size + 1, 4, none⟩ = some (.int .i64 yd) := fun w' h => (HBX.out w' h).2.1.n4
  have hS0 : Below V.heap.size V V.drew := (Below.refl _ _).drew
  have HFS : Hid (∀ w', Below V.heap.size V w' → Below V.heap.size V (f w')) := fun w' h => bstep h (HFZ.out w').1
  cases hd : (yd == 1) with
  | false =>
    have hf := H1.out hd
    have p4 := q4 V hL0
    clear q0 q1 q3 q4
    go_region
    have hBf := (HBX.out V.drew hS0).2.2.2
    go_wp2_with fail
    go_ret
    exact ⟨ret_bool hf.symm, hBf⟩
  | true =>
    obtain rfl : yd = 1 := by simpa using hd
    have hS1 : Below V.heap.size V (f V.drew) := HFS.out _ hS0
    have KC : Hid (∀ w' g, Below V.heap.size V w' → Ints w' (some ⟨g, 0, none⟩) cl (List.replicate cl 0) → Calls Tryz.prog 92 #[.agg #[.slice ca cl cc, .slice ra m rc], .agg #[.slice ya yl yc, .int .i64 1], .slice (some ⟨g, 0, none⟩) cl cl] w' fun e w'' => e = .returned (.bool (Num.coversB p m y 1 (List.replicate cl 0))) ∧ Below V.heap.size V w'') := by
      intro w' g h hi
      exact (covers_any _ _ _ _ _ _ p w' (RowsAt.below HR.out (HBX.out w' h).2.2.2 (Nat.le_refl _)) HM.out _ _ _ y 1 (Ints.below HY.out (HBX.out w' h).2.2.2 (Nat.le_refl _)) hyl _ _ _ (List.replicate cl 0) hi hcl4 (fun j => by rw [List.getElem?_replicate]; split <;> simp)).mono fun _ _ k => ⟨k.1, bstep h k.2⟩
    cases hcv : Num.coversB p m y 1 (List.replicate cl 0) with
    | false =>
      rw [hcv] at KC
      have hf := H2.out hcv
      refine wp_region_held_drew (S := fun w' => Below V.heap.size V w') (by kernel_rfl) ?_ (fun hHeld => ?_)
      · assumption
      refine takeH (i := 0) (v := ?_) rfl (by kernel_rfl) (by kernel_rfl) (by kernel_rfl) (fun _ _ _ h => h) (Or.inl ⟨by rfl, ?_⟩) (by assumption) ?_
      rotate_left
      · (intro w' hSw; go_simp; (try with_reducible rfl))
      simp only [Act.put, List.setIfInBounds_toArray, List.set_cons_zero, List.set_cons_succ]
      refine takeH (i := 1) (v := ?_) rfl (by kernel_rfl) (by kernel_rfl) (by kernel_rfl) (fun _ _ _ h => h) (Or.inl ⟨by rfl, ?_⟩) (by assumption) ?_
      rotate_left
      · (intro w' hSw; go_simp; (try with_reducible rfl))
      simp only [Act.put, List.setIfInBounds_toArray, List.set_cons_zero, List.set_cons_succ]
      refine takeH (i := 2) (v := ?_) rfl (by kernel_rfl) (by kernel_rfl) (by kernel_rfl) (fun _ _ _ h => h) (Or.inl ⟨by rfl, ?_⟩) (by assumption) ?_
      rotate_left
      · (intro w' hSw; go_simp; (try with_reducible rfl))
      simp only [Act.put, List.setIfInBounds_toArray, List.set_cons_zero, List.set_cons_succ]
      refine takeH (i := 3) (v := ?_) rfl (by kernel_rfl) (by kernel_rfl) (by kernel_rfl) (fun _ _ _ h => h) (Or.inl ⟨by rfl, ?_⟩) (by assumption) ?_
      rotate_left
      · (intro w' hSw; go_simp; (try with_reducible rfl))
      simp only [Act.put, List.setIfInBounds_toArray, List.set_cons_zero, List.set_cons_succ]
      refine takeH (i := 4) (v := ?_) rfl (by kernel_rfl) (by kernel_rfl) (by kernel_rfl) (fun _ _ _ h => h) (Or.inl ⟨by rfl, ?_⟩) (by assumption) ?_
      rotate_left
      · (intro w' hSw; go_simp; (try with_reducible rfl))
      simp only [Act.put, List.setIfInBounds_toArray, List.set_cons_zero, List.set_cons_succ]
      refine takeH (i := 5) (v := ?_) rfl (by kernel_rfl) (by kernel_rfl) (by kernel_rfl) (fun _ _ _ h => h) (Or.inl ⟨by rfl, ?_⟩) (by assumption) ?_
      rotate_left
      · (intro w' hSw; go_simp; (try with_reducible rfl))
      simp only [Act.put, List.setIfInBounds_toArray, List.set_cons_zero, List.set_cons_succ]
      refine takeH (i := 6) (v := ?_) rfl (by kernel_rfl) (by kernel_rfl) (by kernel_rfl) (fun _ _ _ h => h) (Or.inl ⟨by rfl, ?_⟩) (by assumption) ?_
      rotate_left
      · (intro w' hSw; go_simp; (try with_reducible rfl))
      simp only [Act.put, List.setIfInBounds_toArray, List.set_cons_zero, List.set_cons_succ]
      refine takeH (i := 7) (v := ?_) rfl (by kernel_rfl) (by kernel_rfl) (by kernel_rfl) (fun _ _ _ h => h) (Or.inl ⟨by rfl, ?_⟩) (by assumption) ?_
      rotate_left
      · (intro w' hSw; go_simp; (try with_reducible rfl))
      simp only [Act.put, List.setIfInBounds_toArray, List.set_cons_zero, List.set_cons_succ]
      refine takeH (i := 8) (v := ?_) rfl (by kernel_rfl) (by kernel_rfl) (by kernel_rfl) (fun _ _ _ h => h) (Or.inl ⟨by rfl, ?_⟩) (by assumption) ?_
      rotate_left
      · (intro w' hSw; go_simp; (try with_reducible rfl))
      simp only [Act.put, List.setIfInBounds_toArray, List.set_cons_zero, List.set_cons_succ]
      refine takeH (i := 9) (v := ?_) rfl (by kernel_rfl) (by kernel_rfl) (by kernel_rfl) (fun _ _ _ h => h) (Or.inl ⟨by rfl, ?_⟩) (by assumption) ?_
      rotate_left
      · (intro w' hSw; go_simp; (try with_reducible rfl))
      simp only [Act.put, List.setIfInBounds_toArray, List.set_cons_zero, List.set_cons_succ]
      refine takeH (i := 10) (v := ?_) rfl (by kernel_rfl) (by kernel_rfl) (by kernel_rfl) (fun _ _ _ h => h) (Or.inl ⟨by rfl, ?_⟩) (by assumption) ?_
      rotate_left
      · (intro w' hSw; go_simp; (try with_reducible rfl))
      simp only [Act.put, List.setIfInBounds_toArray, List.set_cons_zero, List.set_cons_succ]
      refine wpAnyH_ready (rs := [11]) (by kernel_rfl) (by simp) ?_
      refine readyH rfl (fun K hK => ?_)
      go_simp
      refine hK.out _ _ ?_ (fun hHeld => ?_)
      · (first | assumption | (apply HFS.out; assumption))
      clear hK K
      refine wpAnyH_ready (rs := [12]) (by kernel_rfl) (by simp) ?_
      refine readyH rfl (fun K hK => ?_)
      go_simp
      refine (KC.out _ _ ?_ (HFZ.out _).2).mono ?_
      · assumption
      rintro e v1 ⟨rfl, hb1⟩
      go_wp2_with fail
      refine hK.out _ _ ?_ (fun hHeld => ?_)
      · (first | assumption | (apply HFS.out; assumption))
      clear hK K
      refine takeH (i := 13) (v := ?_) rfl (by kernel_rfl) (by kernel_rfl) (by kernel_rfl) (fun _ _ _ h => h) (Or.inl ⟨by rfl, ?_⟩) (by assumption) ?_
      rotate_left
      · (intro w' hSw; go_simp; (try with_reducible rfl))
      simp only [Act.put, List.setIfInBounds_toArray, List.set_cons_zero, List.set_cons_succ]
      refine takeH (i := 14) (v := ?_) rfl (by kernel_rfl) (by kernel_rfl) (by kernel_rfl) (fun _ _ _ h => h) (Or.inl ⟨by rfl, ?_⟩) (by assumption) ?_
      rotate_left
      · (intro w' hSw; go_simp; (try with_reducible rfl))
      simp only [Act.put, List.setIfInBounds_toArray, List.set_cons_zero, List.set_cons_succ]
      refine takeH (i := 15) (v := undef) rfl (by kernel_rfl) (by kernel_rfl) (by kernel_rfl) (fun _ _ _ h => h) (Or.inr ⟨by rfl, rfl⟩) (by assumption) ?_
      simp only [Act.put, List.setIfInBounds_toArray, List.set_cons_zero, List.set_cons_succ]
      refine takeH (i := 16) (v := undef) rfl (by kernel_rfl) (by kernel_rfl) (by kernel_rfl) (fun _ _ _ h => h) (Or.inr ⟨by rfl, rfl⟩) (by assumption) ?_
      simp only [Act.put, List.setIfInBounds_toArray, List.set_cons_zero, List.set_cons_succ]
      refine takeH (i := 17) (v := undef) rfl (by kernel_rfl) (by kernel_rfl) (by kernel_rfl) (fun _ _ _ h => h) (Or.inr ⟨by rfl, rfl⟩) (by assumption) ?_
      simp only [Act.put, List.setIfInBounds_toArray, List.set_cons_zero, List.set_cons_succ]
      refine takeH (i := 18) (v := undef) rfl (by kernel_rfl) (by kernel_rfl) (by kernel_rfl) (fun _ _ _ h => h) (Or.inr ⟨by rfl, rfl⟩) (by assumption) ?_
      simp only [Act.put, List.setIfInBounds_toArray, List.set_cons_zero, List.set_cons_succ]
      refine takeH (i := 19) (v := undef) rfl (by kernel_rfl) (by kernel_rfl) (by kernel_rfl) (fun _ _ _ h => h) (Or.inr ⟨by rfl, rfl⟩) (by assumption) ?_
      simp only [Act.put, List.setIfInBounds_toArray, List.set_cons_zero, List.set_cons_succ]
      refine takeH (i := 20) (v := ?_) rfl (by kernel_rfl) (by kernel_rfl) (by kernel_rfl) (fun _ _ _ h => h) (Or.inl ⟨by rfl, ?_⟩) (by assumption) ?_
      rotate_left
      · (intro w' hSw; go_simp; (try with_reducible rfl))
      simp only [Act.put, List.setIfInBounds_toArray, List.set_cons_zero, List.set_cons_succ]
      refine takeH (i := 21) (v := ?_) rfl (by kernel_rfl) (by kernel_rfl) (by kernel_rfl) (fun _ _ _ h => h) (Or.inl ⟨by rfl, ?_⟩) (by assumption) ?_
      rotate_left
      · (intro w' hSw; go_simp; (try with_reducible rfl))
      simp only [Act.put, List.setIfInBounds_toArray, List.set_cons_zero, List.set_cons_succ]
      refine wpAnyH_done (by kernel_rfl) ?_ _
      have hBf := (HBX.out v1 hb1).2.2.2
      clear q0 q1 q3 q4 KC hmk hHeld
      go_wp2_with fail
      go_ret
      exact ⟨ret_bool hf.symm, hBf⟩
    | true =>
      rw [hcv] at KC
      have hf := H3.out hd hcv
      obtain ⟨hpt, _⟩ := Num.covers_of _ _ _ _ _ hcv
      obtain ⟨hym, _, hyw, _, _⟩ := Num.point_of _ _ _ hpt
      have HYB : Hid (∀ j : Nat, -1073741824 ≤ y[j]?.getD 0 ∧ y[j]?.getD 0 ≤ 1073741824) := Num.withinB_iff _ _ hyw (by omega)
      have hylm : yl = m := by have := HY.out.1; omega
      clear hpt hyw hcv hym
      subst hylm
      have KP : Hid (∀ w', Below V.heap.size V w' → Calls Tryz.prog 93 #[.agg #[.slice ca cl cc, .slice ra yl rc], .agg #[.slice ya yl yc, .int .i64 1]] w' fun e w'' => e = .returned (.int .i64 (Num.pricedN p yl y)) ∧ Below V.heap.size V w'') := by
        intro w' h
        exact (priced_any _ _ _ _ _ _ p w' (RowsAt.below HR.out (HBX.out w' h).2.2.2 (Nat.le_refl _)) HM.out _ _ y 1 (Ints.below HY.out (HBX.out w' h).2.2.2 (Nat.le_refl _)) HYB.out).mono fun _ _ k => ⟨k.1, bstep h k.2⟩
      generalize Num.pricedN p yl y = pr at hf KP
      go_region_held3 (fun w' => Below V.heap.size V w') (first | assumption | (apply HFS.out; assumption))
        (first | (go_at_call 92; refine (KC.out _ _ ?_ (HFZ.out _).2).mono ?_; assumption; rintro e v1 ⟨rfl, hb1⟩)
               | (go_at_call 93; refine (KP.out _ ?_).mono ?_; assumption; rintro e v2 ⟨rfl, hb2⟩))
      have hBf := (HBX.out v2 hb2).2.2.2
      clear q0 q1 q3 q4 KC KP hmk
      go_wp2_with fail
      go_ret
      exact ⟨ret_bool hf.symm, hBf⟩

end Go.Proofs.YtipcbhodlgoflabGreat

/- What proof.isEndless does. -/
namespace Go.Proofs.YtipcbhodlgoflabGreat
open Go.RowKit

theorem Num.endless_eq (p : Num.Lp) (hm : p.may = true) (a : Num.Ans) : Num.endlessB p a = (p.goes a.x a.xd && (a.rd == 1) && (Num.level p).goes a.r a.rd && decide (0 < Num.dotN p.costs a.r p.costs.length)) := by
  unfold Num.endlessB
  rw [Num.level_goes p hm]
  cases p.goes a.x a.xd <;> cases (a.rd == 1) <;> simp

set_option maxHeartbeats 3200000 in
theorem endless_any (ca : Option Addr) (cl cc : Nat) (ra : Option Addr) (m rc : Nat) (p : Num.Lp) (w : World) (hc : Ints w ca cl p.costs) (hr : RowsAt w ra m p.rows) (hm : p.may = true) (a : Num.Ans)
    (xa : Option Addr) (xl xc : Nat) (ya : Option Addr) (yl yc : Nat) (za : Option Addr) (zl zc : Nat) (hx : Ints w xa xl a.x) (hxl : xl ≤ 9223372036854775807) (hz : Ints w za zl a.r) (hzl : zl ≤ 9223372036854775807) :
    Calls Tryz.prog 64 #[.agg #[.slice ca cl cc, .slice ra m rc], .agg #[.int .i64 a.kind, .slice xa xl xc, .int .i64 a.xd, .slice ya yl yc, .int .i64 a.yd, .slice za zl zc, .int .i64 a.rd, .int .i64 a.wn, .int .i64 a.wd]] w fun e w' =>
      e = .returned (.bool (Num.endlessB p a)) ∧ Below w.heap.size w w' := by
  have HC : Hid (Ints w ca cl p.costs) := hc
  have HR : Hid (RowsAt w ra m p.rows) := hr
  have HX : Hid (Ints w xa xl a.x) := hx
  have HZ : Hid (Ints w za zl a.r) := hz
  have HM : Hid (p.may = true) := hm
  have HCL : Hid (cl = p.costs.length) := hc.1
  have HRL : Hid (m = p.rows.length) := hr.1
  have hcl4 : cl ≤ 4 := by have := hc.1; have := (p.may_of hm).1.2; omega
  have hm4 : m ≤ 4 := by have := hr.1; have := (p.may_of hm).2.2.1.2; omega
  have HE := Num.endless_eq p hm a
  clear hr hx hz hm hc
  have hL0 : Below ((w.alloc (.cells #[.slice ca cl cc, .slice ra m rc] 25)).alloc (.cells #[.int .i64 a.kind, .slice xa xl xc, .int .i64 a.xd, .slice ya yl yc, .int .i64 a.yd, .slice za zl zc, .int .i64 a.rd, .int .i64 a.wn, .int .i64 a.wd] 38)).heap.size ((w.alloc (.cells #[.slice ca cl cc, .slice ra m rc] 25)).alloc (.cells #[.int .i64 a.kind, .slice xa xl xc, .int .i64 a.xd, .slice ya yl yc, .int .i64 a.yd, .slice za zl zc, .int .i64 a.rd, .int .i64 a.wn, .int .i64 a.wd] 38)) ((w.alloc (.cells #[.slice ca cl cc, .slice ra m rc] 25)).alloc (.cells #[.int .i64 a.kind, .slice xa xl xc, .int .i64 a.xd, .slice ya yl yc, .int .i64 a.yd, .slice za zl zc, .int .i64 a.rd, .int .i64 a.wn, .int .i64 a.wd] 38)) := Below.refl _ _
  rw [← HCL.out] at HE
  have HEQ : Hid _ := HE
  clear HE
  generalize Num.endlessB p a = res at *
  obtain ⟨kd, x, xd, y, yd, z, zd, wn, wd⟩ := a
  dsimp only at *
  go_enter Tryz.func64, Tryz.ntmps64
  go_wp2_with fail
  generalize hV : (w.alloc (.cells #[.slice ca cl cc, .slice ra m rc] 25)).alloc (.cells #[.int .i64 kd, .slice xa xl xc, .int .i64 xd, .slice ya yl yc, .int .i64 yd, .slice za zl zc, .int .i64 zd, .int .i64 wn, .int .i64 wd] 38) = V at *
  have HBX : Hid (∀ w', Below V.heap.size V w' → (w'.cell? ⟨w.heap.size, 0, none⟩ = some (.slice ca cl cc) ∧ w'.cell? ⟨w.heap.size, 1, none⟩ = some (.slice ra m rc)) ∧ Nine (w.heap.size + 1) (.int .i64 kd) (.slice xa xl xc) (.int .i64 xd) (.slice ya yl yc) (.int .i64 yd) (.slice za zl zc) (.int .i64 zd) (.int .i64 wn) (.int .i64 wd) w' ∧ w.heap.size + 1 < w'.heap.size ∧ Below w.heap.size w w') := by
    intro w' h; rw [← hV] at h; exact box29 h
  clear hV
  have q0 : ∀ w', Below V.heap.size V w' → w'.cell? ⟨w.heap.size, 0, none⟩ = some (.slice ca cl cc) := fun w' h => (HBX.out w' h).1.1
  have q1 : ∀ w', Below V.heap.size V w' → w'.cell? ⟨w.heap.size, 1, none⟩ = some (.slice ra m rc) := fun w' h => (HBX.out w' h).1.2
  have q2 : ∀ w', Below V.heap.size V w' → w'.cell? ⟨w.heap.size + 1, 1, none⟩ = some (.slice xa xl xc) := fun w' h => (HBX.out w' h).2.1.n1
  have q3 : ∀ w', Below V.heap.size V w' → w'.cell? ⟨w.heap.size + 1, 2, none⟩ = some (.int .i64 xd) := fun w' h => (HBX.out w' h).2.1.n2
  have q5 : ∀ w', Below V.heap.size V w' → w'.cell? ⟨w.heap.size + 1, 5, none⟩ = some (.slice za zl zc) := fun w' h => (HBX.out w' h).2.1.n5
  have q6 : ∀ w', Below V.heap.size V w' → w'.cell? ⟨w.heap.size + 1, 6, none⟩ = some (.int .i64 zd) := fun w' h => (HBX.out w' h).2.1.n6
  have hS0 : Below V.heap.size V V.drew := (Below.refl _ _).drew
  have KG : Hid (∀ w', Below V.heap.size V w' → Calls Tryz.prog 91 #[.agg #[.slice ca cl cc, .slice ra m rc], .agg #[.slice xa xl xc, .int .i64 xd]] w' fun e w'' => e = .returned (.bool (p.goes x xd)) ∧ Below V.heap.size V w'') := by
    intro w' h
    exact (goes_any _ _ _ _ _ _ p w' (Ints.below HC.out (HBX.out w' h).2.2.2 (Nat.le_refl _)) (by omega) (RowsAt.below HR.out (HBX.out w' h).2.2.2 (Nat.le_refl _)) (by omega) _ _ _ x xd (Ints.below HX.out (HBX.out w' h).2.2.2 (Nat.le_refl _)) hxl).mono fun _ _ k => ⟨k.1, bstep h k.2⟩
  cases h1 : p.goes x xd with
  | false =>
    rw [h1] at KG
    have hf : res = false := by rw [HEQ.out, h1]; rfl
    refine wp_region_held_drew (S := fun w' => Below V.heap.size V w') (by kernel_rfl) ?_ (fun hHeld => ?_)
    · assumption
    refine takeH (i := 0) (v := ?_) rfl (by kernel_rfl) (by kernel_rfl) (by kernel_rfl) (fun _ _ _ h => h) (Or.inl ⟨by rfl, ?_⟩) (by assumption) ?_
    rotate_left
    · (intro w' hSw; go_simp; (try with_reducible rfl))
    simp only [Act.put, List.setIfInBounds_toArray, List.set_cons_zero, List.set_cons_succ]
    refine takeH (i := 1) (v := ?_) rfl (by kernel_rfl) (by kernel_rfl) (by kernel_rfl) (fun _ _ _ h => h) (Or.inl ⟨by rfl, ?_⟩) (by assumption) ?_
    rotate_left
    · (intro w' hSw; go_simp; (try with_reducible rfl))
    simp only [Act.put, List.setIfInBounds_toArray, List.set_cons_zero, List.set_cons_succ]
    refine takeH (i := 2) (v := ?_) rfl (by kernel_rfl) (by kernel_rfl) (by kernel_rfl) (fun _ _ _ h => h) (Or.inl ⟨by rfl, ?_⟩) (by assumption) ?_
    rotate_left
    · (intro w' hSw; go_simp; (try with_reducible rfl))
    simp only [Act.put, List.setIfInBounds_toArray, List.set_cons_zero, List.set_cons_succ]
    refine wpAnyH_ready (rs := [3]) (by kernel_rfl) (by simp) ?_
    refine readyH rfl (fun K hK => ?_)
    go_simp
    refine (KG.out _ ?_).mono ?_
    · assumption
    rintro e v1 ⟨rfl, hb1⟩
    go_wp2_with fail
    refine hK.out _ _ ?_ (fun hHeld => ?_)
    · assumption
    clear hK K
    refine takeH (i := 4) (v := ?_) rfl (by kernel_rfl) (by kernel_rfl) (by kernel_rfl) (fun _ _ _ h => h) (Or.inl ⟨by rfl, ?_⟩) (by assumption) ?_
    rotate_left
    · (intro w' hSw; go_simp; (try with_reducible rfl))
    simp only [Act.put, List.setIfInBounds_toArray, List.set_cons_zero, List.set_cons_succ]
    refine takeH (i := 5) (v := undef) rfl (by kernel_rfl) (by kernel_rfl) (by kernel_rfl) (fun _ _ _ h => h) (Or.inr ⟨by rfl, rfl⟩) (by assumption) ?_
    simp only [Act.put, List.setIfInBounds_toArray, List.set_cons_zero, List.set_cons_succ]
    refine takeH (i := 6) (v := undef) rfl (by kernel_rfl) (by kernel_rfl) (by kernel_rfl) (fun _ _ _ h => h) (Or.inr ⟨by rfl, rfl⟩) (by assumption) ?_
    simp only [Act.put, List.setIfInBounds_toArray, List.set_cons_zero, List.set_cons_succ]
    refine takeH (i := 7) (v := undef) rfl (by kernel_rfl) (by kernel_rfl) (by kernel_rfl) (fun _ _ _ h => h) (Or.inr ⟨by rfl, rfl⟩) (by assumption) ?_
    simp only [Act.put, List.setIfInBounds_toArray, List.set_cons_zero, List.set_cons_succ]
    refine takeH (i := 8) (v := undef) rfl (by kernel_rfl) (by kernel_rfl) (by kernel_rfl) (fun _ _ _ h => h) (Or.inr ⟨by rfl, rfl⟩) (by assumption) ?_
    simp only [Act.put, List.setIfInBounds_toArray, List.set_cons_zero, List.set_cons_succ]
    refine takeH (i := 9) (v := ?_) rfl (by kernel_rfl) (by kernel_rfl) (by kernel_rfl) (fun _ _ _ h => h) (Or.inl ⟨by rfl, ?_⟩) (by assumption) ?_
    rotate_left
    · (intro w' hSw; go_simp; (try with_reducible rfl))
    simp only [Act.put, List.setIfInBounds_toArray, List.set_cons_zero, List.set_cons_succ]
    refine takeH (i := 10) (v := ?_) rfl (by kernel_rfl) (by kernel_rfl) (by kernel_rfl) (fun _ _ _ h => h) (Or.inl ⟨by rfl, ?_⟩) (by assumption) ?_
    rotate_left
    · (intro w' hSw; go_simp; (try with_reducible rfl))
    simp only [Act.put, List.setIfInBounds_toArray, List.set_cons_zero, List.set_cons_succ]
    refine takeH (i := 11) (v := undef) rfl (by kernel_rfl) (by kernel_rfl) (by kernel_rfl) (fun _ _ _ h => h) (Or.inr ⟨by rfl, rfl⟩) (by assumption) ?_
    simp only [Act.put, List.setIfInBounds_toArray, List.set_cons_zero, List.set_cons_succ]
    refine takeH (i := 12) (v := undef) rfl (by kernel_rfl) (by kernel_rfl) (by kernel_rfl) (fun _ _ _ h => h) (Or.inr ⟨by rfl, rfl⟩) (by assumption) ?_
    simp only [Act.put, List.setIfInBounds_toArray, List.set_cons_zero, List.set_cons_succ]
    refine takeH (i := 13) (v := undef) rfl (by kernel_rfl) (by kernel_rfl) (by kernel_rfl) (fun _ _ _ h => h) (Or.inr ⟨by rfl, rfl⟩) (by assumption) ?_
    simp only [Act.put, List.setIfInBounds_toArray, List.set_cons_zero, List.set_cons_succ]
    refine takeH (i := 14) (v := undef) rfl (by kernel_rfl) (by kernel_rfl) (by kernel_rfl) (fun _ _ _ h => h) (Or.inr ⟨by rfl, rfl⟩) (by assumption) ?_
    simp only [Act.put, List.setIfInBounds_toArray, List.set_cons_zero, List.set_cons_succ]
    refine takeH (i := 15) (v := undef) rfl (by kernel_rfl) (by kernel_rfl) (by kernel_rfl) (fun _ _ _ h => h) (Or.inr ⟨by rfl, rfl⟩) (by assumption) ?_
    simp only [Act.put, List.setIfInBounds_toArray, List.set_cons_zero, List.set_cons_succ]
    refine takeH (i := 16) (v := ?_) rfl (by kernel_rfl) (by kernel_rfl) (by kernel_rfl) (fun _ _ _ h => h) (Or.inl ⟨by rfl, ?_⟩) (by assumption) ?_
    rotate_left
    · (intro w' hSw; go_simp; (try with_reducible rfl))
    simp only [Act.put, List.setIfInBounds_toArray, List.set_cons_zero, List.set_cons_succ]
    refine takeH (i := 17) (v := ?_) rfl (by kernel_rfl) (by kernel_rfl) (by kernel_rfl) (fun _ _ _ h => h) (Or.inl ⟨by rfl, ?_⟩) (by assumption) ?_
    rotate_left
    · (intro w' hSw; go_simp; (try with_reducible rfl))
    simp only [Act.put, List.setIfInBounds_toArray, List.set_cons_zero, List.set_cons_succ]
    refine takeH (i := 18) (v := undef) rfl (by kernel_rfl) (by kernel_rfl) (by kernel_rfl) (fun _ _ _ h => h) (Or.inr ⟨by rfl, rfl⟩) (by assumption) ?_
    simp only [Act.put, List.setIfInBounds_toArray, List.set_cons_zero, List.set_cons_succ]
    refine takeH (i := 19) (v := undef) rfl (by kernel_rfl) (by kernel_rfl) (by kernel_rfl) (fun _ _ _ h => h) (Or.inr ⟨by rfl, rfl⟩) (by assumption) ?_
    simp only [Act.put, List.setIfInBounds_toArray, List.set_cons_zero, List.set_cons_succ]
    refine takeH (i := 20) (v := undef) rfl (by kernel_rfl) (by kernel_rfl) (by kernel_rfl) (fun _ _ _ h => h) (Or.inr ⟨by rfl, rfl⟩) (by assumption) ?_
    simp only [Act.put, List.setIfInBounds_toArray, List.set_cons_zero, List.set_cons_succ]
    refine takeH (i := 21) (v := undef) rfl (by kernel_rfl) (by kernel_rfl) (by kernel_rfl) (fun _ _ _ h => h) (Or.inr ⟨by rfl, rfl⟩) (by assumption) ?_
    simp only [Act.put, List.setIfInBounds_toArray, List.set_cons_zero, List.set_cons_succ]
    refine takeH (i := 22) (v := undef) rfl (by kernel_rfl) (by kernel_rfl) (by kernel_rfl) (fun _ _ _ h => h) (Or.inr ⟨by rfl, rfl⟩) (by assumption) ?_
    simp only [Act.put, List.setIfInBounds_toArray, List.set_cons_zero, List.set_cons_succ]
    refine takeH (i := 23) (v := undef) rfl (by kernel_rfl) (by kernel_rfl) (by kernel_rfl) (fun _ _ _ h => h) (Or.inr ⟨by rfl, rfl⟩) (by assumption) ?_
    simp only [Act.put, List.setIfInBounds_toArray, List.set_cons_zero, List.set_cons_succ]
    refine takeH (i := 24) (v := undef) rfl (by kernel_rfl) (by kernel_rfl) (by kernel_rfl) (fun _ _ _ h => h) (Or.inr ⟨by rfl, rfl⟩) (by assumption) ?_
    simp only [Act.put, List.setIfInBounds_toArray, List.set_cons_zero, List.set_cons_succ]
    refine takeH (i := 25) (v := ?_) rfl (by kernel_rfl) (by kernel_rfl) (by kernel_rfl) (fun _ _ _ h => h) (Or.inl ⟨by rfl, ?_⟩) (by assumption) ?_
    rotate_left
    · (intro w' hSw; go_simp; (try with_reducible rfl))
    simp only [Act.put, List.setIfInBounds_toArray, List.set_cons_zero, List.set_cons_succ]
    refine takeH (i := 26) (v := ?_) rfl (by kernel_rfl) (by kernel_rfl) (by kernel_rfl) (fun _ _ _ h => h) (Or.inl ⟨by rfl, ?_⟩) (by assumption) ?_
    rotate_left
    · (intro w' hSw; go_simp; (try with_reducible rfl))
    simp only [Act.put, List.setIfInBounds_toArray, List.set_cons_zero, List.set_cons_succ]
    refine wpAnyH_done (by kernel_rfl) ?_ _
    have hBf := (HBX.out v1 hb1).2.2.2
    clear q0 q1 q2 q3 q5 q6 KG hHeld
    go_wp2_with fail
    go_ret
    exact ⟨ret_bool hf.symm, hBf⟩
  | true =>
    rw [h1] at KG
    cases hd : (zd == 1) with
    | false =>
      have hf : res = false := by rw [HEQ.out, h1, hd]; rfl
      refine wp_region_held_drew (S := fun w' => Below V.heap.size V w') (by kernel_rfl) ?_ (fun hHeld => ?_)
      · assumption
      refine takeH (i := 0) (v := ?_) rfl (by kernel_rfl) (by kernel_rfl) (by kernel_rfl) (fun _ _ _ h => h) (Or.inl ⟨by rfl, ?_⟩) (by assumption) ?_
      rotate_left
      · (intro w' hSw; go_simp; (try with_reducible rfl))
      simp only [Act.put, List.setIfInBounds_toArray, List.set_cons_zero, List.set_cons_succ]
      refine takeH (i := 1) (v := ?_) rfl (by kernel_rfl) (by kernel_rfl) (by kernel_rfl) (fun _ _ _ h => h) (Or.inl ⟨by rfl, ?_⟩) (by assumption) ?_
      rotate_left
      · (intro w' hSw; go_simp; (try with_reducible rfl))
      simp only [Act.put, List.setIfInBounds_toArray, List.set_cons_zero, List.set_cons_succ]
      refine takeH (i := 2) (v := ?_) rfl (by kernel_rfl) (by kernel_rfl) (by kernel_rfl) (fun _ _ _ h => h) (Or.inl ⟨by rfl, ?_⟩) (by assumption) ?_
      rotate_left
      · (intro w' hSw; go_simp; (try with_reducible rfl))
      simp only [Act.put, List.setIfInBounds_toArray, List.set_cons_zero, List.set_cons_succ]
      refine wpAnyH_ready (rs := [3]) (by kernel_rfl) (by simp) ?_
      refine readyH rfl (fun K hK => ?_)
      go_simp
      refine (KG.out _ ?_).mono ?_
      · assumption
      rintro e v1 ⟨rfl, hb1⟩
      go_wp2_with fail
      refine hK.out _ _ ?_ (fun hHeld => ?_)
      · assumption
      clear hK K
      refine takeH (i := 4) (v := ?_) rfl (by kernel_rfl) (by kernel_rfl) (by kernel_rfl) (fun _ _ _ h => h) (Or.inl ⟨by rfl, ?_⟩) (by assumption) ?_
      rotate_left
      · (intro w' hSw; go_simp; (try with_reducible rfl))
      simp only [Act.put, List.setIfInBounds_toArray, List.set_cons_zero, List.set_cons_succ]
      refine takeH (i := 5) (v := ?_) rfl (by kernel_rfl) (by kernel_rfl) (by kernel_rfl) (fun _ _ _ h => h) (Or.inl ⟨by rfl, ?_⟩) (by assumption) ?_
      rotate_left
      · (intro w' hSw; go_simp; (try with_reducible rfl))
      simp only [Act.put, List.setIfInBounds_toArray, List.set_cons_zero, List.set_cons_succ]
      refine takeH (i := 6) (v := ?_) rfl (by kernel_rfl) (by kernel_rfl) (by kernel_rfl) (fun _ _ _ h => h) (Or.inl ⟨by rfl, ?_⟩) (by assumption) ?_
      rotate_left
      · (intro w' hSw; go_simp; (try with_reducible rfl))
      simp only [Act.put, List.setIfInBounds_toArray, List.set_cons_zero, List.set_cons_succ]
      refine takeH (i := 7) (v := ?_) rfl (by kernel_rfl) (by kernel_rfl) (by kernel_rfl) (fun _ _ _ h => h) (Or.inl ⟨by rfl, ?_⟩) (by assumption) ?_
      rotate_left
      · (intro w' hSw; go_simp; (try with_reducible rfl))
      simp only [Act.put, List.setIfInBounds_toArray, List.set_cons_zero, List.set_cons_succ]
      refine takeH (i := 8) (v := ?_) rfl (by kernel_rfl) (by kernel_rfl) (by kernel_rfl) (fun _ _ _ h => h) (Or.inl ⟨by rfl, ?_⟩) (by assumption) ?_
      rotate_left
      · (intro w' hSw; go_simp; (try with_reducible rfl))
      simp only [Act.put, List.setIfInBounds_toArray, List.set_cons_zero, List.set_cons_succ]
      refine takeH (i := 9) (v := ?_) rfl (by kernel_rfl) (by kernel_rfl) (by kernel_rfl) (fun _ _ _ h => h) (Or.inl ⟨by rfl, ?_⟩) (by assumption) ?_
      rotate_left
      · (intro w' hSw; go_simp; (try with_reducible rfl))
      simp only [Act.put, List.setIfInBounds_toArray, List.set_cons_zero, List.set_cons_succ]
      refine takeH (i := 10) (v := ?_) rfl (by kernel_rfl) (by kernel_rfl) (by kernel_rfl) (fun _ _ _ h => h) (Or.inl ⟨by rfl, ?_⟩) (by assumption) ?_
      rotate_left
      · (intro w' hSw; go_simp; (try with_reducible rfl))
      simp only [Act.put, List.setIfInBounds_toArray, List.set_cons_zero, List.set_cons_succ]
      refine takeH (i := 11) (v := undef) rfl (by kernel_rfl) (by kernel_rfl) (by kernel_rfl) (fun _ _ _ h => h) (Or.inr ⟨by rfl, rfl⟩) (by assumption) ?_
      simp only [Act.put, List.setIfInBounds_toArray, List.set_cons_zero, List.set_cons_succ]
      refine takeH (i := 12) (v := undef) rfl (by kernel_rfl) (by kernel_rfl) (by kernel_rfl) (fun _ _ _ h => h) (Or.inr ⟨by rfl, rfl⟩) (by assumption) ?_
      simp only [Act.put, List.setIfInBounds_toArray, List.set_cons_zero, List.set_cons_succ]
      refine takeH (i := 13) (v := undef) rfl (by kernel_rfl) (by kernel_rfl) (by kernel_rfl) (fun _ _ _ h => h) (Or.inr ⟨by rfl, rfl⟩) (by assumption) ?_
      simp only [Act.put, List.setIfInBounds_toArray, List.set_cons_zero, List.set_cons_succ]
      refine takeH (i := 14) (v := undef) rfl (by kernel_rfl) (by kernel_rfl) (by kernel_rfl) (fun _ _ _ h => h) (Or.inr ⟨by rfl, rfl⟩) (by assumption) ?_
      simp only [Act.put, List.setIfInBounds_toArray, List.set_cons_zero, List.set_cons_succ]
      refine takeH (i := 15) (v := undef) rfl (by kernel_rfl) (by kernel_rfl) (by kernel_rfl) (fun _ _ _ h => h) (Or.inr ⟨by rfl, rfl⟩) (by assumption) ?_
      simp only [Act.put, List.setIfInBounds_toArray, List.set_cons_zero, List.set_cons_succ]
      refine takeH (i := 16) (v := ?_) rfl (by kernel_rfl) (by kernel_rfl) (by kernel_rfl) (fun _ _ _ h => h) (Or.inl ⟨by rfl, ?_⟩) (by assumption) ?_
      rotate_left
      · (intro w' hSw; go_simp; (try with_reducible rfl))
      simp only [Act.put, List.setIfInBounds_toArray, List.set_cons_zero, List.set_cons_succ]
      refine takeH (i := 17) (v := ?_) rfl (by kernel_rfl) (by kernel_rfl) (by kernel_rfl) (fun _ _ _ h => h) (Or.inl ⟨by rfl, ?_⟩) (by assumption) ?_
      rotate_left
      · (intro w' hSw; go_simp; (try with_reducible rfl))
      simp only [Act.put, List.setIfInBounds_toArray, List.set_cons_zero, List.set_cons_succ]
      refine takeH (i := 18) (v := undef) rfl (by kernel_rfl) (by kernel_rfl) (by kernel_rfl) (fun _ _ _ h => h) (Or.inr ⟨by rfl, rfl⟩) (by assumption) ?_
      simp only [Act.put, List.setIfInBounds_toArray, List.set_cons_zero, List.set_cons_succ]
      refine takeH (i := 19) (v := undef) rfl (by kernel_rfl) (by kernel_rfl) (by kernel_rfl) (fun _ _ _ h => h) (Or.inr ⟨by rfl, rfl⟩) (by assumption) ?_
      simp only [Act.put, List.setIfInBounds_toArray, List.set_cons_zero, List.set_cons_succ]
      refine takeH (i := 20) (v := undef) rfl (by kernel_rfl) (by kernel_rfl) (by kernel_rfl) (fun _ _ _ h => h) (Or.inr ⟨by rfl, rfl⟩) (by assumption) ?_
      simp only [Act.put, List.setIfInBounds_toArray, List.set_cons_zero, List.set_cons_succ]
      refine takeH (i := 21) (v := undef) rfl (by kernel_rfl) (by kernel_rfl) (by kernel_rfl) (fun _ _ _ h => h) (Or.inr ⟨by rfl, rfl⟩) (by assumption) ?_
      simp only [Act.put, List.setIfInBounds_toArray, List.set_cons_zero, List.set_cons_succ]
      refine takeH (i := 22) (v := undef) rfl (by kernel_rfl) (by kernel_rfl) (by kernel_rfl) (fun _ _ _ h => h) (Or.inr ⟨by rfl, rfl⟩) (by assumption) ?_
      simp only [Act.put, List.setIfInBounds_toArray, List.set_cons_zero, List.set_cons_succ]
      refine takeH (i := 23) (v := undef) rfl (by kernel_rfl) (by kernel_rfl) (by kernel_rfl) (fun _ _ _ h => h) (Or.inr ⟨by rfl, rfl⟩) (by assumption) ?_
      simp only [Act.put, List.setIfInBounds_toArray, List.set_cons_zero, List.set_cons_succ]
      refine takeH (i := 24) (v := undef) rfl (by kernel_rfl) (by kernel_rfl) (by kernel_rfl) (fun _ _ _ h => h) (Or.inr ⟨by rfl, rfl⟩) (by assumption) ?_
      simp only [Act.put, List.setIfInBounds_toArray, List.set_cons_zero, List.set_cons_succ]
      refine takeH (i := 25) (v := ?_) rfl (by kernel_rfl) (by kernel_rfl) (by kernel_rfl) (fun _ _ _ h => h) (Or.inl ⟨by rfl, ?_⟩) (by assumption) ?_
      rotate_left
      · (intro w' hSw; go_simp; (try with_reducible rfl))
      simp only [Act.put, List.setIfInBounds_toArray, List.set_cons_zero, List.set_cons_succ]
      refine takeH (i := 26) (v := ?_) rfl (by kernel_rfl) (by kernel_rfl) (by kernel_rfl) (fun _ _ _ h => h) (Or.inl ⟨by rfl, ?_⟩) (by assumption) ?_
      rotate_left
      · (intro w' hSw; go_simp; (try with_reducible rfl))
      simp only [Act.put, List.setIfInBounds_toArray, List.set_cons_zero, List.set_cons_succ]
      refine wpAnyH_done (by kernel_rfl) ?_ _
      have hBf := (HBX.out v1 hb1).2.2.2
      clear q0 q1 q2 q3 q5 q6 KG hHeld
      go_wp2_with fail
      go_ret
      exact ⟨ret_bool hf.symm, hBf⟩
    | true =>
      obtain rfl : zd = 1 := by simpa using hd
      have KL : Hid (∀ w', Below V.heap.size V w' → Calls Tryz.prog 94 #[.agg #[.slice ca cl cc, .slice ra m rc]] w' fun e w'' => ∃ g, e = .returned (.agg #[.slice ca cl cc, .slice (some ⟨g, 0, none⟩) m m]) ∧ Below V.heap.size V w'' ∧ RowsAt w'' (some ⟨g, 0, none⟩) m (Num.level p).rows) := by
        intro w' h
        refine (leveled_any _ _ _ _ _ _ p w' (RowsAt.below HR.out (HBX.out w' h).2.2.2 (Nat.le_refl _)) hm4).mono ?_
        rintro e w'' ⟨g, rfl, hg, hb⟩
        exact ⟨g, rfl, bstep h hb, hg⟩
      have KH : Hid (∀ w' g, Below V.heap.size V w' → RowsAt w' (some ⟨g, 0, none⟩) m (Num.level p).rows → Calls Tryz.prog 91 #[.agg #[.slice ca cl cc, .slice (some ⟨g, 0, none⟩) m m], .agg #[.slice za zl zc, .int .i64 1]] w' fun e w'' => e = .returned (.bool ((Num.level p).goes z 1)) ∧ Below V.heap.size V w'') := by
        intro w' g h hg
        exact (goes_any _ _ _ _ _ _ (Num.level p) w' (Ints.below HC.out (HBX.out w' h).2.2.2 (Nat.le_refl _)) (by omega) hg (by omega) _ _ _ z 1 (Ints.below HZ.out (HBX.out w' h).2.2.2 (Nat.le_refl _)) hzl).mono fun _ _ k => ⟨k.1, bstep h k.2⟩
      cases h2 : (Num.level p).goes z 1 with
      | false =>
        rw [h2] at KH
        have hf : res = false := by rw [HEQ.out, h1, hd, h2]; rfl
        refine wp_region_held_drew (S := fun w' => Below V.heap.size V w') (by kernel_rfl) ?_ (fun hHeld => ?_)
        · assumption
        refine takeH (i := 0) (v := ?_) rfl (by kernel_rfl) (by kernel_rfl) (by kernel_rfl) (fun _ _ _ h => h) (Or.inl ⟨by rfl, ?_⟩) (by assumption) ?_
        rotate_left
        · (intro w' hSw; go_simp; (try with_reducible rfl))
        simp only [Act.put, List.setIfInBounds_toArray, List.set_cons_zero, List.set_cons_succ]
        refine takeH (i := 1) (v := ?_) rfl (by kernel_rfl) (by kernel_rfl) (by kernel_rfl) (fun _ _ _ h => h) (Or.inl ⟨by rfl, ?_⟩) (by assumption) ?_
        rotate_left
        · (intro w' hSw; go_simp; (try with_reducible rfl))
        simp only [Act.put, List.setIfInBounds_toArray, List.set_cons_zero, List.set_cons_succ]
        refine takeH (i := 2) (v := ?_) rfl (by kernel_rfl) (by kernel_rfl) (by kernel_rfl) (fun _ _ _ h => h) (Or.inl ⟨by rfl, ?_⟩) (by assumption) ?_
        rotate_left
        · (intro w' hSw; go_simp; (try with_reducible rfl))
        simp only [Act.put, List.setIfInBounds_toArray, List.set_cons_zero, List.set_cons_succ]
        refine wpAnyH_ready (rs := [3]) (by kernel_rfl) (by simp) ?_
        refine readyH rfl (fun K hK => ?_)
        go_simp
        refine (KG.out _ ?_).mono ?_
        · assumption
        rintro e v1 ⟨rfl, hb1⟩
        go_wp2_with fail
        refine hK.out _ _ ?_ (fun hHeld => ?_)
        · assumption
        clear hK K
        refine takeH (i := 4) (v := ?_) rfl (by kernel_rfl) (by kernel_rfl) (by kernel_rfl) (fun _ _ _ h => h) (Or.inl ⟨by rfl, ?_⟩) (by assumption) ?_
        rotate_left
        · (intro w' hSw; go_simp; (try with_reducible rfl))
        simp only [Act.put, List.setIfInBounds_toArray, List.set_cons_zero, List.set_cons_succ]
        refine takeH (i := 5) (v := ?_) rfl (by kernel_rfl) (by kernel_rfl) (by kernel_rfl) (fun _ _ _ h => h) (Or.inl ⟨by rfl, ?_⟩) (by assumption) ?_
        rotate_left
        · (intro w' hSw; go_simp; (try with_reducible rfl))
        simp only [Act.put, List.setIfInBounds_toArray, List.set_cons_zero, List.set_cons_succ]
        refine takeH (i := 6) (v := ?_) rfl (by kernel_rfl) (by kernel_rfl) (by kernel_rfl) (fun _ _ _ h => h) (Or.inl ⟨by rfl, ?_⟩) (by assumption) ?_
        rotate_left
        · (intro w' hSw; go_simp; (try with_reducible rfl))
        simp only [Act.put, List.setIfInBounds_toArray, List.set_cons_zero, List.set_cons_succ]
        refine takeH (i := 7) (v := ?_) rfl (by kernel_rfl) (by kernel_rfl) (by kernel_rfl) (fun _ _ _ h => h) (Or.inl ⟨by rfl, ?_⟩) (by assumption) ?_
        rotate_left
        · (intro w' hSw; go_simp; (try with_reducible rfl))
        simp only [Act.put, List.setIfInBounds_toArray, List.set_cons_zero, List.set_cons_succ]
        refine takeH (i := 8) (v := ?_) rfl (by kernel_rfl) (by kernel_rfl) (by kernel_rfl) (fun _ _ _ h => h) (Or.inl ⟨by rfl, ?_⟩) (by assumption) ?_
        rotate_left
        · (intro w' hSw; go_simp; (try with_reducible rfl))
        simp only [Act.put, List.setIfInBounds_toArray, List.set_cons_zero, List.set_cons_succ]
        refine takeH (i := 9) (v := ?_) rfl (by kernel_rfl) (by kernel_rfl) (by kernel_rfl) (fun _ _ _ h => h) (Or.inl ⟨by rfl, ?_⟩) (by assumption) ?_
        rotate_left
        · (intro w' hSw; go_simp; (try with_reducible rfl))
        simp only [Act.put, List.setIfInBounds_toArray, List.set_cons_zero, List.set_cons_succ]
        refine takeH (i := 10) (v := ?_) rfl (by kernel_rfl) (by kernel_rfl) (by kernel_rfl) (fun _ _ _ h => h) (Or.inl ⟨by rfl, ?_⟩) (by assumption) ?_
        rotate_left
        · (intro w' hSw; go_simp; (try with_reducible rfl))
        simp only [Act.put, List.setIfInBounds_toArray, List.set_cons_zero, List.set_cons_succ]
        refine takeH (i := 11) (v := ?_) rfl (by kernel_rfl) (by kernel_rfl) (by kernel_rfl) (fun _ _ _ h => h) (Or.inl ⟨by rfl, ?_⟩) (by assumption) ?_
        rotate_left
        · (intro w' hSw; go_simp; (try with_reducible rfl))
        simp only [Act.put, List.setIfInBounds_toArray, List.set_cons_zero, List.set_cons_succ]
        refine takeH (i := 13) (v := ?_) rfl (by kernel_rfl) (by kernel_rfl) (by kernel_rfl) (fun _ _ _ h => h) (Or.inl ⟨by rfl, ?_⟩) (by assumption) ?_
        rotate_left
        · (intro w' hSw; go_simp; (try with_reducible rfl))
        simp only [Act.put, List.setIfInBounds_toArray, List.set_cons_zero, List.set_cons_succ]
        refine takeH (i := 14) (v := ?_) rfl (by kernel_rfl) (by kernel_rfl) (by kernel_rfl) (fun _ _ _ h => h) (Or.inl ⟨by rfl, ?_⟩) (by assumption) ?_
        rotate_left
        · (intro w' hSw; go_simp; (try with_reducible rfl))
        simp only [Act.put, List.setIfInBounds_toArray, List.set_cons_zero, List.set_cons_succ]
        refine wpAnyH_ready (rs := [12]) (by kernel_rfl) (by simp) ?_
        refine readyH rfl (fun K hK => ?_)
        go_simp
        refine (KL.out _ ?_).mono ?_
        · assumption
        rintro e v2 ⟨g2, rfl, hb2, hR2⟩
        go_wp2_with fail
        refine hK.out _ _ ?_ (fun hHeld => ?_)
        · assumption
        clear hK K
        refine wpAnyH_ready (rs := [15]) (by kernel_rfl) (by simp) ?_
        refine readyH rfl (fun K hK => ?_)
        go_simp
        refine (KH.out _ _ ?_ hR2).mono ?_
        · assumption
        rintro e v3 ⟨rfl, hb3⟩
        go_wp2_with fail
        refine hK.out _ _ ?_ (fun hHeld => ?_)
        · assumption
        clear hK K
        refine takeH (i := 16) (v := ?_) rfl (by kernel_rfl) (by kernel_rfl) (by kernel_rfl) (fun _ _ _ h => h) (Or.inl ⟨by rfl, ?_⟩) (by assumption) ?_
        rotate_left
        · (intro w' hSw; go_simp; (try with_reducible rfl))
        simp only [Act.put, List.setIfInBounds_toArray, List.set_cons_zero, List.set_cons_succ]
        refine takeH (i := 17) (v := ?_) rfl (by kernel_rfl) (by kernel_rfl) (by kernel_rfl) (fun _ _ _ h => h) (Or.inl ⟨by rfl, ?_⟩) (by assumption) ?_
        rotate_left
        · (intro w' hSw; go_simp; (try with_reducible rfl))
        simp only [Act.put, List.setIfInBounds_toArray, List.set_cons_zero, List.set_cons_succ]
        refine takeH (i := 18) (v := undef) rfl (by kernel_rfl) (by kernel_rfl) (by kernel_rfl) (fun _ _ _ h => h) (Or.inr ⟨by rfl, rfl⟩) (by assumption) ?_
        simp only [Act.put, List.setIfInBounds_toArray, List.set_cons_zero, List.set_cons_succ]
        refine takeH (i := 19) (v := undef) rfl (by kernel_rfl) (by kernel_rfl) (by kernel_rfl) (fun _ _ _ h => h) (Or.inr ⟨by rfl, rfl⟩) (by assumption) ?_
        simp only [Act.put, List.setIfInBounds_toArray, List.set_cons_zero, List.set_cons_succ]
        refine takeH (i := 20) (v := undef) rfl (by kernel_rfl) (by kernel_rfl) (by kernel_rfl) (fun _ _ _ h => h) (Or.inr ⟨by rfl, rfl⟩) (by assumption) ?_
        simp only [Act.put, List.setIfInBounds_toArray, List.set_cons_zero, List.set_cons_succ]
        refine takeH (i := 21) (v := undef) rfl (by kernel_rfl) (by kernel_rfl) (by kernel_rfl) (fun _ _ _ h => h) (Or.inr ⟨by rfl, rfl⟩) (by assumption) ?_
        simp only [Act.put, List.setIfInBounds_toArray, List.set_cons_zero, List.set_cons_succ]
        refine takeH (i := 22) (v := undef) rfl (by kernel_rfl) (by kernel_rfl) (by kernel_rfl) (fun _ _ _ h => h) (Or.inr ⟨by rfl, rfl⟩) (by assumption) ?_
        simp only [Act.put, List.setIfInBounds_toArray, List.set_cons_zero, List.set_cons_succ]
        refine takeH (i := 23) (v := undef) rfl (by kernel_rfl) (by kernel_rfl) (by kernel_rfl) (fun _ _ _ h => h) (Or.inr ⟨by rfl, rfl⟩) (by assumption) ?_
        simp only [Act.put, List.setIfInBounds_toArray, List.set_cons_zero, List.set_cons_succ]
        refine takeH (i := 24) (v := undef) rfl (by kernel_rfl) (by kernel_rfl) (by kernel_rfl) (fun _ _ _ h => h) (Or.inr ⟨by rfl, rfl⟩) (by assumption) ?_
        simp only [Act.put, List.setIfInBounds_toArray, List.set_cons_zero, List.set_cons_succ]
        refine takeH (i := 25) (v := ?_) rfl (by kernel_rfl) (by kernel_rfl) (by kernel_rfl) (fun _ _ _ h => h) (Or.inl ⟨by rfl, ?_⟩) (by assumption) ?_
        rotate_left
        · (intro w' hSw; go_simp; (try with_reducible rfl))
        simp only [Act.put, List.setIfInBounds_toArray, List.set_cons_zero, List.set_cons_succ]
        refine takeH (i := 26) (v := ?_) rfl (by kernel_rfl) (by kernel_rfl) (by kernel_rfl) (fun _ _ _ h => h) (Or.inl ⟨by rfl, ?_⟩) (by assumption) ?_
        rotate_left
        · (intro w' hSw; go_simp; (try with_reducible rfl))
        simp only [Act.put, List.setIfInBounds_toArray, List.set_cons_zero, List.set_cons_succ]
        refine wpAnyH_done (by kernel_rfl) ?_ _
        have hBf := (HBX.out v3 hb3).2.2.2
        clear q0 q1 q2 q3 q5 q6 KG KL KH hHeld
        go_wp2_with fail
        go_ret
        exact ⟨ret_bool hf.symm, hBf⟩
      | true =>
        rw [h2] at KH
        have hf : res = decide (0 < Num.dotN p.costs z cl) := by rw [HEQ.out, h1, hd, h2]; rfl
        obtain ⟨_, hzn, _, hzw, _, _⟩ := Num.goes_len _ _ _ h2
        have hzc : zl = cl := by have := HZ.out.1; have := HCL.out; have e : (Num.level p).costs = p.costs := rfl; rw [e] at hzn; omega
        have HZB : Hid (∀ j : Nat, -1073741824 ≤ z[j]?.getD 0 ∧ z[j]?.getD 0 ≤ 1073741824) := Num.withinB_iff _ _ hzw (by omega)
        have HCB : Hid (∀ j : Nat, -400 ≤ p.costs[j]?.getD 0 ∧ p.costs[j]?.getD 0 ≤ 400) := Num.withinB_iff _ _ (p.may_of HM.out).2.1 (by omega)
        clear hzn hzw
        subst hzc
        have KT : Hid (∀ w', Below V.heap.size V w' → Calls Tryz.prog 41 #[.slice ca zl cc, .slice za zl zc] w' fun e w'' => e = .returned (.int .i64 (Num.dotN p.costs z zl)) ∧ Below V.heap.size V w'') := by
          intro w' h
          exact (below_of_drew (together_any _ _ _ _ _ _ p.costs z w' 400 1073741824 (Ints.below HC.out (HBX.out w' h).2.2.2 (Nat.le_refl _)) (Ints.below HZ.out (HBX.out w' h).2.2.2 (Nat.le_refl _)) rfl (by omega) HCB.out HZB.out (by omega))).mono fun _ _ k => ⟨k.1, bstep h k.2⟩
        generalize Num.dotN p.costs z zl = D at hf KT
        refine wp_region_held_drew (S := fun w' => Below V.heap.size V w') (by kernel_rfl) ?_ (fun hHeld => ?_)
        · assumption
        refine takeH (i := 0) (v := ?_) rfl (by kernel_rfl) (by kernel_rfl) (by kernel_rfl) (fun _ _ _ h => h) (Or.inl ⟨by rfl, ?_⟩) (by assumption) ?_
        rotate_left
        · (intro w' hSw; go_simp; (try with_reducible rfl))
        simp only [Act.put, List.setIfInBounds_toArray, List.set_cons_zero, List.set_cons_succ]
        refine takeH (i := 1) (v := ?_) rfl (by kernel_rfl) (by kernel_rfl) (by kernel_rfl) (fun _ _ _ h => h) (Or.inl ⟨by rfl, ?_⟩) (by assumption) ?_
        rotate_left
        · (intro w' hSw; go_simp; (try with_reducible rfl))
        simp only [Act.put, List.setIfInBounds_toArray, List.set_cons_zero, List.set_cons_succ]
        refine takeH (i := 2) (v := ?_) rfl (by kernel_rfl) (by kernel_rfl) (by kernel_rfl) (fun _ _ _ h => h) (Or.inl ⟨by rfl, ?_⟩) (by assumption) ?_
        rotate_left
        · (intro w' hSw; go_simp; (try with_reducible rfl))
        simp only [Act.put, List.setIfInBounds_toArray, List.set_cons_zero, List.set_cons_succ]
        refine wpAnyH_ready (rs := [3]) (by kernel_rfl) (by simp) ?_
        refine readyH rfl (fun K hK => ?_)
        go_simp
        refine (KG.out _ ?_).mono ?_
        · assumption
        rintro e v1 ⟨rfl, hb1⟩
        go_wp2_with fail
        refine hK.out _ _ ?_ (fun hHeld => ?_)
        · assumption
        clear hK K
        refine takeH (i := 4) (v := ?_) rfl (by kernel_rfl) (by kernel_rfl) (by kernel_rfl) (fun _ _ _ h => h) (Or.inl ⟨by rfl, ?_⟩) (by assumption) ?_
        rotate_left
        · (intro w' hSw; go_simp; (try with_reducible rfl))
        simp only [Act.put, List.setIfInBounds_toArray, List.set_cons_zero, List.set_cons_succ]
        refine takeH (i := 5) (v := ?_) rfl (by kernel_rfl) (by kernel_rfl) (by kernel_rfl) (fun _ _ _ h => h) (Or.inl ⟨by rfl, ?_⟩) (by assumption) ?_
        rotate_left
        · (intro w' hSw; go_simp; (try with_reducible rfl))
        simp only [Act.put, List.setIfInBounds_toArray, List.set_cons_zero, List.set_cons_succ]
        refine takeH (i := 6) (v := ?_) rfl (by kernel_rfl) (by kernel_rfl) (by kernel_rfl) (fun _ _ _ h => h) (Or.inl ⟨by rfl, ?_⟩) (by assumption) ?_
        rotate_left
        · (intro w' hSw; go_simp; (try with_reducible rfl))
        simp only [Act.put, List.setIfInBounds_toArray, List.set_cons_zero, List.set_cons_succ]
        refine takeH (i := 7) (v := ?_) rfl (by kernel_rfl) (by kernel_rfl) (by kernel_rfl) (fun _ _ _ h => h) (Or.inl ⟨by rfl, ?_⟩) (by assumption) ?_
        rotate_left
        · (intro w' hSw; go_simp; (try with_reducible rfl))
        simp only [Act.put, List.setIfInBounds_toArray, List.set_cons_zero, List.set_cons_succ]
        refine takeH (i := 8) (v := ?_) rfl (by kernel_rfl) (by kernel_rfl) (by kernel_rfl) (fun _ _ _ h => h) (Or.inl ⟨by rfl, ?_⟩) (by assumption) ?_
        rotate_left
        · (intro w' hSw; go_simp; (try with_reducible rfl))
        simp only [Act.put, List.setIfInBounds_toArray, List.set_cons_zero, List.set_cons_succ]
        refine takeH (i := 9) (v := ?_) rfl (by kernel_rfl) (by kernel_rfl) (by kernel_rfl) (fun _ _ _ h => h) (Or.inl ⟨by rfl, ?_⟩) (by assumption) ?_
        rotate_left
        · (intro w' hSw; go_simp; (try with_reducible rfl))
        simp only [Act.put, List.setIfInBounds_toArray, List.set_cons_zero, List.set_cons_succ]
        refine takeH (i := 10) (v := ?_) rfl (by kernel_rfl) (by kernel_rfl) (by kernel_rfl) (fun _ _ _ h => h) (Or.inl ⟨by rfl, ?_⟩) (by assumption) ?_
        rotate_left
        · (intro w' hSw; go_simp; (try with_reducible rfl))
        simp only [Act.put, List.setIfInBounds_toArray, List.set_cons_zero, List.set_cons_succ]
        refine takeH (i := 11) (v := ?_) rfl (by kernel_rfl) (by kernel_rfl) (by kernel_rfl) (fun _ _ _ h => h) (Or.inl ⟨by rfl, ?_⟩) (by assumption) ?_
        rotate_left
        · (intro w' hSw; go_simp; (try with_reducible rfl))
        simp only [Act.put, List.setIfInBounds_toArray, List.set_cons_zero, List.set_cons_succ]
        refine takeH (i := 13) (v := ?_) rfl (by kernel_rfl) (by kernel_rfl) (by kernel_rfl) (fun _ _ _ h => h) (Or.inl ⟨by rfl, ?_⟩) (by assumption) ?_
        rotate_left
        · (intro w' hSw; go_simp; (try with_reducible rfl))
        simp only [Act.put, List.setIfInBounds_toArray, List.set_cons_zero, List.set_cons_succ]
        refine takeH (i := 14) (v := ?_) rfl (by kernel_rfl) (by kernel_rfl) (by kernel_rfl) (fun _ _ _ h => h) (Or.inl ⟨by rfl, ?_⟩) (by assumption) ?_
        rotate_left
        · (intro w' hSw; go_simp; (try with_reducible rfl))
        simp only [Act.put, List.setIfInBounds_toArray, List.set_cons_zero, List.set_cons_succ]
        refine wpAnyH_ready (rs := [12]) (by kernel_rfl) (by simp) ?_
        refine readyH rfl (fun K hK => ?_)
        go_simp
        refine (KL.out _ ?_).mono ?_
        · assumption
        rintro e v2 ⟨g2, rfl, hb2, hR2⟩
        go_wp2_with fail
        refine hK.out _ _ ?_ (fun hHeld => ?_)
        · assumption
        clear hK K
        refine wpAnyH_ready (rs := [15]) (by kernel_rfl) (by simp) ?_
        refine readyH rfl (fun K hK => ?_)
        go_simp
        refine (KH.out _ _ ?_ hR2).mono ?_
        · assumption
        rintro e v3 ⟨rfl, hb3⟩
        go_wp2_with fail
        refine hK.out _ _ ?_ (fun hHeld => ?_)
        · assumption
        clear hK K
        refine takeH (i := 16) (v := ?_) rfl (by kernel_rfl) (by kernel_rfl) (by kernel_rfl) (fun _ _ _ h => h) (Or.inl ⟨by rfl, ?_⟩) (by assumption) ?_
        rotate_left
        · (intro w' hSw; go_simp; (try with_reducible rfl))
        simp only [Act.put, List.setIfInBounds_toArray, List.set_cons_zero, List.set_cons_succ]
        refine takeH (i := 17) (v := ?_) rfl (by kernel_rfl) (by kernel_rfl) (by kernel_rfl) (fun _ _ _ h => h) (Or.inl ⟨by rfl, ?_⟩) (by assumption) ?_
        rotate_left
        · (intro w' hSw; go_simp; (try with_reducible rfl))
        simp only [Act.put, List.setIfInBounds_toArray, List.set_cons_zero, List.set_cons_succ]
        refine takeH (i := 18) (v := ?_) rfl (by kernel_rfl) (by kernel_rfl) (by kernel_rfl) (fun _ _ _ h => h) (Or.inl ⟨by rfl, ?_⟩) (by assumption) ?_
        rotate_left
        · (intro w' hSw; go_simp; (try with_reducible rfl))
        simp only [Act.put, List.setIfInBounds_toArray, List.set_cons_zero, List.set_cons_succ]
        refine takeH (i := 19) (v := ?_) rfl (by kernel_rfl) (by kernel_rfl) (by kernel_rfl) (fun _ _ _ h => h) (Or.inl ⟨by rfl, ?_⟩) (by assumption) ?_
        rotate_left
        · (intro w' hSw; go_simp; (try with_reducible rfl))
        simp only [Act.put, List.setIfInBounds_toArray, List.set_cons_zero, List.set_cons_succ]
        refine takeH (i := 20) (v := ?_) rfl (by kernel_rfl) (by kernel_rfl) (by kernel_rfl) (fun _ _ _ h => h) (Or.inl ⟨by rfl, ?_⟩) (by assumption) ?_
        rotate_left
        · (intro w' hSw; go_simp; (try with_reducible rfl))
        simp only [Act.put, List.setIfInBounds_toArray, List.set_cons_zero, List.set_cons_succ]
        refine takeH (i := 21) (v := ?_) rfl (by kernel_rfl) (by kernel_rfl) (by kernel_rfl) (fun _ _ _ h => h) (Or.inl ⟨by rfl, ?_⟩) (by assumption) ?_
        rotate_left
        · (intro w' hSw; go_simp; (try with_reducible rfl))
        simp only [Act.put, List.setIfInBounds_toArray, List.set_cons_zero, List.set_cons_succ]
        refine takeH (i := 22) (v := ?_) rfl (by kernel_rfl) (by kernel_rfl) (by kernel_rfl) (fun _ _ _ h => h) (Or.inl ⟨by rfl, ?_⟩) (by assumption) ?_
        rotate_left
        · (intro w' hSw; go_simp; (try with_reducible rfl))
        simp only [Act.put, List.setIfInBounds_toArray, List.set_cons_zero, List.set_cons_succ]
        refine wpAnyH_ready (rs := [23]) (by kernel_rfl) (by simp) ?_
        refine readyH rfl (fun K hK => ?_)
        go_simp
        refine (KT.out _ ?_).mono ?_
        · assumption
        rintro e v4 ⟨rfl, hb4⟩
        go_wp2_with fail
        refine hK.out _ _ ?_ (fun hHeld => ?_)
        · assumption
        clear hK K
        refine takeH (i := 24) (v := ?_) rfl (by kernel_rfl) (by kernel_rfl) (by kernel_rfl) (fun _ _ _ h => h) (Or.inl ⟨by rfl, ?_⟩) (by assumption) ?_
        rotate_left
        · (intro w' hSw; go_simp; (try with_reducible rfl))
        simp only [Act.put, List.setIfInBounds_toArray, List.set_cons_zero, List.set_cons_succ]
        refine takeH (i := 25) (v := ?_) rfl (by kernel_rfl) (by kernel_rfl) (by kernel_rfl) (fun _ _ _ h => h) (Or.inl ⟨by rfl, ?_⟩) (by assumption) ?_
        rotate_left
        · (intro w' hSw; go_simp; (try with_reducible rfl))
        simp only [Act.put, List.setIfInBounds_toArray, List.set_cons_zero, List.set_cons_succ]
        refine takeH (i := 26) (v := ?_) rfl (by kernel_rfl) (by kernel_rfl) (by kernel_rfl) (fun _ _ _ h => h) (Or.inl ⟨by rfl, ?_⟩) (by assumption) ?_
        rotate_left
        · (intro w' hSw; go_simp; (try with_reducible rfl))
        simp only [Act.put, List.setIfInBounds_toArray, List.set_cons_zero, List.set_cons_succ]
        refine wpAnyH_done (by kernel_rfl) ?_ _
        have hBf := (HBX.out v4 hb4).2.2.2
        clear q0 q1 q2 q3 q5 q6 KG KL KH KT hHeld
        go_wp2_with fail
        go_ret
        exact ⟨ret_bool hf.symm, hBf⟩

end Go.Proofs.YtipcbhodlgoflabGreat

/- What proof.isBest does. -/
namespace Go.Proofs.YtipcbhodlgoflabGreat
open Go.RowKit

theorem Num.best_no (p : Num.Lp) (a : Num.Ans) (h : p.goes a.x a.xd = false) : Num.bestB p a = false := by unfold Num.bestB; rw [h]; rfl
theorem Num.best_cov (p : Num.Lp) (a : Num.Ans) (h : Num.coversB p p.rows.length a.y a.yd p.costs = false) : Num.bestB p a = false := by unfold Num.bestB; rw [h]; simp
theorem Num.best_yes (p : Num.Lp) (a : Num.Ans) (h1 : p.goes a.x a.xd = true) (h : Num.coversB p p.rows.length a.y a.yd p.costs = true) :
    Num.bestB p a = (decide (Num.mk (Num.dotN p.costs a.x p.costs.length) a.xd = (a.wn, a.wd, 0)) && decide (Num.mk (Num.pricedN p p.rows.length a.y) a.yd = (a.wn, a.wd, 0))) := by unfold Num.bestB; rw [h, h1]; simp

theorem Num.worth_goes (p : Num.Lp) (x : List Int) (d : Int) (h : p.goes x d = true) : Num.worth p x d = Num.mk (Num.dotN p.costs x p.costs.length) d := by
  have h2 := (Num.goes_len p x d h).2.1
  unfold Lp.goes at h
  simp only [Bool.and_eq_true] at h
  unfold Num.worth
  rw [if_pos h.1.1, h2]

set_option maxHeartbeats 3200000 in
theorem best_any (ca : Option Addr) (cl cc : Nat) (ra : Option Addr) (m rc : Nat) (p : Num.Lp) (w : World) (hc : Ints w ca cl p.costs) (hr : RowsAt w ra m p.rows) (hm : p.may = true) (a : Num.Ans)
    (xa : Option Addr) (xl xc : Nat) (ya : Option Addr) (yl yc : Nat) (za : Option Addr) (zl zc : Nat) (hx : Ints w xa xl a.x) (hxl : xl ≤ 9223372036854775807) (hy : Ints w ya yl a.y) (hyl : yl ≤ 9223372036854775807) :
    Calls Tryz.prog 63 #[.agg #[.slice ca cl cc, .slice ra m rc], .agg #[.int .i64 a.kind, .slice xa xl xc, .int .i64 a.xd, .slice ya yl yc, .int .i64 a.yd, .slice za zl zc, .int .i64 a.rd, .int .i64 a.wn, .int .i64 a.wd]] w fun e w' =>
      e = .returned (.bool (Num.bestB p a)) ∧ Below w.heap.size w w' := by
  have HC : Hid (Ints w ca cl p.costs) := hc
  have HR : Hid (RowsAt w ra m p.rows) := hr
  have HX : Hid (Ints w xa xl a.x) := hx
  have HY : Hid (Ints w ya yl a.y) := hy
  have HM : Hid (p.may = true) := hm
  have HCL : Hid (cl = p.costs.length) := hc.1
  have HRL : Hid (m = p.rows.length) := hr.1
  have hcl4 : cl ≤ 4 := by have := hc.1; have := (p.may_of hm).1.2; omega
  have hm4 : m ≤ 4 := by have := hr.1; have := (p.may_of hm).2.2.1.2; omega
  have HCB : Hid (∀ j : Nat, -400 ≤ p.costs[j]?.getD 0 ∧ p.costs[j]?.getD 0 ≤ 400) := Num.withinB_iff _ _ (p.may_of hm).2.1 (by omega)
  clear hr hx hy hm hc
  have hL0 : Below ((w.alloc (.cells #[.slice ca cl cc, .slice ra m rc] 25)).alloc (.cells #[.int .i64 a.kind, .slice xa xl xc, .int .i64 a.xd, .slice ya yl yc, .int .i64 a.yd, .slice za zl zc, .int .i64 a.rd, .int .i64 a.wn, .int .i64 a.wd] 38)).heap.size ((w.alloc (.cells #[.slice ca cl cc, .slice ra m rc] 25)).alloc (.cells #[.int .i64 a.kind, .slice xa xl xc, .int .i64 a.xd, .slice ya yl yc, .int .i64 a.yd, .slice za zl zc, .int .i64 a.rd, .int .i64 a.wn, .int .i64 a.wd] 38)) ((w.alloc (.cells #[.slice ca cl cc, .slice ra m rc] 25)).alloc (.cells #[.int .i64 a.kind, .slice xa xl xc, .int .i64 a.xd, .slice ya yl yc, .int .i64 a.yd, .slice za zl zc, .int .i64 a.rd, .int .i64 a.wn, .int .i64 a.wd] 38)) := Below.refl _ _
  have HN1 := Num.best_no p a
  have HN2 := Num.best_cov p a
  have HN3 := Num.best_yes p a
  have HN4 := Num.worth_goes p a.x a.xd
  rw [← HRL.out] at HN2 HN3
  have H1 : Hid _ := HN1
  have H2 : Hid _ := HN2
  have H3 : Hid _ := HN3
  have H4 : Hid _ := HN4
  clear HN1 HN2 HN3 HN4
  generalize Num.bestB p a = res at *
  obtain ⟨kd, x, xd, y, yd, z, zd, wn, wd⟩ := a
  dsimp only at *
  go_enter Tryz.func63, Tryz.ntmps63
  go_wp2_with fail
  generalize hV : (w.alloc (.cells #[.slice ca cl cc, .slice ra m rc] 25)).alloc (.cells #[.int .i64 kd, .slice xa xl xc, .int .i64 xd, .slice ya yl yc, .int .i64 yd, .slice za zl zc, .int .i64 zd, .int .i64 wn, .int .i64 wd] 38) = V at *
  have HBX : Hid (∀ w', Below V.heap.size V w' → (w'.cell? ⟨w.heap.size, 0, none⟩ = some (.slice ca cl cc) ∧ w'.cell? ⟨w.heap.size, 1, none⟩ = some (.slice ra m rc)) ∧ Nine (w.heap.size + 1) (.int .i64 kd) (.slice xa xl xc) (.int .i64 xd) (.slice ya yl yc) (.int .i64 yd) (.slice za zl zc) (.int .i64 zd) (.int .i64 wn) (.int .i64 wd) w' ∧ w.heap.size + 1 < w'.heap.size ∧ Below w.heap.size w w') := by
    intro w' h; rw [← hV] at h; exact box29 h
  clear hV
  have KG : Hid (∀ w', Below V.heap.size V w' → Calls Tryz.prog 91 #[.agg #[.slice ca cl cc, .slice ra m rc], .agg #[.slice xa xl xc, .int .i64 xd]] w' fun e w'' => e = .returned (.bool (p.goes x xd)) ∧ Below V.heap.size V w'') := by
    intro w' h
    exact (goes_any _ _ _ _ _ _ p w' (Ints.below HC.out (HBX.out w' h).2.2.2 (Nat.le_refl _)) (by omega) (RowsAt.below HR.out (HBX.out w' h).2.2.2 (Nat.le_refl _)) (by omega) _ _ _ x xd (Ints.below HX.out (HBX.out w' h).2.2.2 (Nat.le_refl _)) hxl).mono fun _ _ k => ⟨k.1, bstep h k.2⟩
  have KC : Hid (∀ w', Below V.heap.size V w' → Calls Tryz.prog 92 #[.agg #[.slice ca cl cc, .slice ra m rc], .agg #[.slice ya yl yc, .int .i64 yd], .slice ca cl cc] w' fun e w'' => e = .returned (.bool (Num.coversB p m y yd p.costs)) ∧ Below V.heap.size V w'') := by
    intro w' h
    exact (covers_any _ _ _ _ _ _ p w' (RowsAt.below HR.out (HBX.out w' h).2.2.2 (Nat.le_refl _)) HM.out _ _ _ y yd (Ints.below HY.out (HBX.out w' h).2.2.2 (Nat.le_refl _)) hyl _ _ _ p.costs (Ints.below HC.out (HBX.out w' h).2.2.2 (Nat.le_refl _)) hcl4 HCB.out).mono fun _ _ k => ⟨k.1, bstep h k.2⟩
  refine (KG.out _ hL0).mono ?_
  rintro e w1 ⟨rfl, hb1⟩
  obtain ⟨⟨c0, c1⟩, ⟨n0, n1, n2, n3, n4, n5, n6, n7, n8⟩, hz1, hB1⟩ := HBX.out w1 hb1
  cases h1 : p.goes x xd with
  | false =>
    have hf : res = false := H1.out h1
    go_wp2_with fail
    go_ret
    exact ⟨ret_bool hf.symm, hB1⟩
  | true =>
  go_wp2_with fail
  refine (KC.out _ hb1).mono ?_
  rintro e w2 ⟨rfl, hb2⟩
  clear c0 c1 n0 n1 n2 n3 n4 n5 n6 n7 n8 hz1 hB1 hb1
  obtain ⟨⟨c0, c1⟩, ⟨n0, n1, n2, n3, n4, n5, n6, n7, n8⟩, hz2, hB2⟩ := HBX.out w2 hb2
  cases hcv : Num.coversB p m y yd p.costs with
  | false =>
    have hf : res = false := H2.out hcv
    go_wp2_with fail
    go_ret
    exact ⟨ret_bool hf.symm, hB2⟩
  | true =>
  obtain ⟨hpt, _⟩ := Num.covers_of _ _ _ _ _ hcv
  obtain ⟨hym, _, hyw, _, _⟩ := Num.point_of _ _ _ hpt
  have HYB : Hid (∀ j : Nat, -1073741824 ≤ y[j]?.getD 0 ∧ y[j]?.getD 0 ≤ 1073741824) := Num.withinB_iff _ _ hyw (by omega)
  have hylm : yl = m := by have := HY.out.1; omega
  have hf := H3.out h1 hcv
  have hwt := H4.out h1
  clear hpt hyw hym hcv H1 H2 H3 H4 KG KC
  subst hylm
  obtain ⟨⟨u, v, ez⟩, hmk⟩ : ∃ t, Num.mk (Num.dotN p.costs x p.costs.length) xd = t := ⟨_, rfl⟩
  rw [hmk] at hwt hf
  have HWT : Hid _ := hwt
  have HF : Hid _ := hf
  clear hwt hf hmk
  go_wp2_with fail
  refine (worth_any _ _ _ _ _ _ p _ (Ints.below HC.out hB2 (Nat.le_refl _)) (by omega) (RowsAt.below HR.out hB2 (Nat.le_refl _)) (by omega) _ _ _ x xd (Ints.below HX.out hB2 (Nat.le_refl _)) hxl u v ez HWT.out).mono ?_
  rintro e w3 ⟨rfl, hk3⟩
  have hb3 := bstep hb2 hk3
  clear c0 c1 n0 n1 n2 n3 n4 n5 n6 n7 n8 hz2 hB2 hb2 hk3
  obtain ⟨⟨c0, c1⟩, ⟨n0, n1, n2, n3, n4, n5, n6, n7, n8⟩, hz3, hB3⟩ := HBX.out w3 hb3
  have hB3' := bstep hB3 (balloc w3 (.cells #[.int .i64 u, .int .i64 v] 36))
  by_cases e1 : ¬ ez = 0
  · have e1' : (ez == 0) = false := by simpa using e1
    have hf : res = false := by rw [HF.out]; simp [e1]
    go_wp2_with fail
    go_ret
    exact ⟨ret_bool hf.symm, hB3'⟩
  obtain rfl : ez = 0 := by omega
  by_cases e2 : ¬ u = wn
  · have hf : res = false := by rw [HF.out]; simp [e2]
    go_wp2_with fail
    go_ret
    exact ⟨ret_bool hf.symm, hB3'⟩
  obtain rfl : u = wn := by omega
  by_cases e3 : ¬ v = wd
  · have hf : res = false := by rw [HF.out]; simp [e3]
    go_wp2_with fail
    go_ret
    exact ⟨ret_bool hf.symm, hB3'⟩
  obtain rfl : v = wd := by omega
  clear e1 e2 e3
  obtain ⟨⟨u2, v2, z2⟩, hmk2⟩ : ∃ t, Num.mk (Num.pricedN p yl y) yd = t := ⟨_, rfl⟩
  have HF2 : Hid (res = decide ((u2, v2, z2) = (u, v, (0 : Int)))) := by show res = _; rw [HF.out, ← hmk2]; simp
  have HMK : Hid _ := hmk2
  clear hmk2 HF HWT
  go_wp2_with fail
  have hbW := bstep hb3 (balloc w3 (.cells #[.int .i64 u, .int .i64 v] 36))
  clear c0 c1 n0 n1 n2 n3 n4 n5 n6 n7 n8 hz3 hB3 hb3 hB3'
  generalize w3.alloc (.cells #[.int .i64 u, .int .i64 v] 36) = W at *
  obtain ⟨⟨c0, c1⟩, ⟨n0, n1, n2, n3, n4, n5, n6, n7, n8⟩, hzW, hBW⟩ := HBX.out W hbW
  have HBW : Hid (∀ w', Below W.heap.size W w' → Below w.heap.size w w') := fun w' h => bstep hBW h
  have q0 : ∀ w', Below W.heap.size W w' → w'.cell? ⟨w.heap.size, 0, none⟩ = some (.slice ca cl cc) := fun w' h => (HBX.out w' (bstep hbW h)).1.1
  have q1 : ∀ w', Below W.heap.size W w' → w'.cell? ⟨w.heap.size, 1, none⟩ = some (.slice ra yl rc) := fun w' h => (HBX.out w' (bstep hbW h)).1.2
  have q3 : ∀ w', Below W.heap.size W w' → w'.cell? ⟨w.heap.size + 1, 3, none⟩ = some (.slice ya yl yc) := fun w' h => (HBX.out w' (bstep hbW h)).2.1.n3
  have q4 : ∀ w', Below W.heap.size W w' → w'.cell? ⟨w.heap.size + 1, 4, none⟩ = some (.int .i64 yd) := fun w' h => (HBX.out w' (bstep hbW h)).2.1.n4
  have HQ7 : Hid (∀ w', Below W.heap.size W w' → w'.cell? ⟨w.heap.size + 1, 7, none⟩ = some (.int .i64 u) ∧ w'.cell? ⟨w.heap.size + 1, 8, none⟩ = some (.int .i64 v)) := fun w' h => ⟨(HBX.out w' (bstep hbW h)).2.1.n7, (HBX.out w' (bstep hbW h)).2.1.n8⟩
  have KP : Hid (∀ w', Below W.heap.size W w' → Calls Tryz.prog 93 #[.agg #[.slice ca cl cc, .slice ra yl rc], .agg #[.slice ya yl yc, .int .i64 yd]] w' fun e w'' => e = .returned (.int .i64 (Num.pricedN p yl y)) ∧ Below W.heap.size W w'' ∧ Below w'.heap.size w' w'') := by
    intro w' h
    exact (priced_any _ _ _ _ _ _ p w' (RowsAt.below HR.out (HBW.out w' h) (Nat.le_refl _)) HM.out _ _ y yd (Ints.below HY.out (HBW.out w' h) (Nat.le_refl _)) HYB.out).mono fun _ _ k => ⟨k.1, bstep h k.2, k.2⟩
  have KM : Hid (∀ w', Below W.heap.size W w' → Calls Tryz.prog 40 #[.int .i64 (Num.pricedN p yl y), .int .i64 yd] w' fun e w'' => e = .returned (.tuple #[.agg #[.int .i64 u2, .int .i64 v2], .int .i64 z2]) ∧ Below W.heap.size W w'' ∧ Below w'.heap.size w' w'') := by
    intro w' h
    exact (make_any _ _ w' _ _ _ HMK.out).mono fun _ _ k => ⟨k.1, bstep h k.2, k.2⟩
  clear c0 c1 n0 n1 n2 n3 n4 n5 n6 n7 n8
  go_region_held3 (fun w' => Below W.heap.size W w') (first | assumption | exact (Below.refl _ _).drew | exact ((Below.refl _ _).alloc (Nat.le_refl _) _).drew | (refine Below.alloc ?_ ?_ _ <;> first | assumption | (apply Below.size; assumption)) | (refine Below.setCell (Below.setCell ?_ ?_ _) ?_ _ <;> first | assumption | exact Nat.le_refl _ | (apply Below.size; assumption)))
    (first | (go_at_call 93; refine (KP.out _ ?_).mono ?_; assumption; rintro e v1 ⟨rfl, hb1, hk1⟩; (try (have hz2 := kept2d hk1)))
           | (go_at_call 40; refine (KM.out _ ?_).mono ?_; assumption; rintro e v2' ⟨rfl, hb2, hk2⟩; (first | (have hz2 := carry2 hk2 hz2) | (have hz2 := kept2 hk2) | (have hz2 := kept2d hk2) | skip)))
  · rename_i hfin
    obtain ⟨p0, p1⟩ := HQ7.out v2' hb2
    have hlt : w.heap.size + 1 < v2'.heap.size := by have := hb2.size; omega
    clear q0 q1 q3 q4 KP KM
    have HFIN : Hid _ := HBW.out _ hfin
    by_cases e1 : ¬ z2 = 0
    · have e1' : (z2 == 0) = false := by simpa using e1
      have hf : res = false := by rw [HF2.out]; simp [e1]
      go_wp2_with fail
      go_ret
      (first | exact ⟨ret_bool hf.symm, HFIN.out⟩ | exact ⟨rfl, HFIN.out⟩)
    obtain rfl : z2 = 0 := by omega
    by_cases e2 : ¬ u2 = u
    · have hf : res = false := by rw [HF2.out]; simp [e2]
      go_wp2_with fail
      go_ret
      (first | exact ⟨ret_bool hf.symm, HFIN.out⟩ | exact ⟨rfl, HFIN.out⟩)
    obtain rfl : u2 = u := by omega
    by_cases e3 : ¬ v2 = v
    · have hf : res = false := by rw [HF2.out]; simp [e3]
      go_wp2_with fail
      go_ret
      (first | exact ⟨ret_bool hf.symm, HFIN.out⟩ | exact ⟨rfl, HFIN.out⟩)
    obtain rfl : v2 = v := by omega
    have hf : res = true := by rw [HF2.out]; simp
    go_wp2_with fail
    go_ret
    (first | exact ⟨ret_bool hf.symm, HFIN.out⟩ | exact ⟨rfl, HFIN.out⟩)
  · rename_i hfin
    obtain ⟨p0, p1⟩ := HQ7.out v2' hb2
    have hne : ¬ w.heap.size + 1 = v1.heap.size := by have := hb1.size; omega
    clear q0 q1 q3 q4 KP KM
    obtain ⟨⟨y0, y1⟩, _, _⟩ := hz2
    have HFIN : Hid _ := HBW.out _ hfin
    by_cases e1 : ¬ z2 = 0
    · have e1' : (z2 == 0) = false := by simpa using e1
      have hf : res = false := by rw [HF2.out]; simp [e1]
      go_wp2_with fail
      go_ret
      (first | exact ⟨ret_bool hf.symm, HFIN.out⟩ | exact ⟨rfl, HFIN.out⟩)
    obtain rfl : z2 = 0 := by omega
    by_cases e2 : ¬ u2 = u
    · have hf : res = false := by rw [HF2.out]; simp [e2]
      go_wp2_with fail
      go_ret
      (first | exact ⟨ret_bool hf.symm, HFIN.out⟩ | exact ⟨rfl, HFIN.out⟩)
    obtain rfl : u2 = u := by omega
    by_cases e3 : ¬ v2 = v
    · have hf : res = false := by rw [HF2.out]; simp [e3]
      go_wp2_with fail
      go_ret
      (first | exact ⟨ret_bool hf.symm, HFIN.out⟩ | exact ⟨rfl, HFIN.out⟩)
    obtain rfl : v2 = v := by omega
    have hf : res = true := by rw [HF2.out]; simp
    go_wp2_with fail
    go_ret
    (first | exact ⟨ret_bool hf.symm, HFIN.out⟩ | exact ⟨rfl, HFIN.out⟩)
  · rename_i hfin
    obtain ⟨p0, p1⟩ := HQ7.out v2' hb2
    have hne : ¬ w.heap.size + 1 = W.heap.size := by omega
    clear q0 q1 q3 q4 KP KM
    obtain ⟨⟨y0, y1⟩, _, _⟩ := hz2
    have HFIN : Hid _ := HBW.out _ hfin
    by_cases e1 : ¬ z2 = 0
    · have e1' : (z2 == 0) = false := by simpa using e1
      have hf : res = false := by rw [HF2.out]; simp [e1]
      go_wp2_with fail
      go_ret
      (first | exact ⟨ret_bool hf.symm, HFIN.out⟩ | exact ⟨rfl, HFIN.out⟩)
    obtain rfl : z2 = 0 := by omega
    by_cases e2 : ¬ u2 = u
    · have hf : res = false := by rw [HF2.out]; simp [e2]
      go_wp2_with fail
      go_ret
      (first | exact ⟨ret_bool hf.symm, HFIN.out⟩ | exact ⟨rfl, HFIN.out⟩)
    obtain rfl : u2 = u := by omega
    by_cases e3 : ¬ v2 = v
    · have hf : res = false := by rw [HF2.out]; simp [e3]
      go_wp2_with fail
      go_ret
      (first | exact ⟨ret_bool hf.symm, HFIN.out⟩ | exact ⟨rfl, HFIN.out⟩)
    obtain rfl : v2 = v := by omega
    have hf : res = true := by rw [HF2.out]; simp
    go_wp2_with fail
    go_ret
    (first | exact ⟨ret_bool hf.symm, HFIN.out⟩ | exact ⟨rfl, HFIN.out⟩)

end Go.Proofs.YtipcbhodlgoflabGreat

/- What proof.Holds does. -/
namespace Go.Proofs.YtipcbhodlgoflabGreat
open Go.RowKit

theorem Num.holds_b (p : Num.Lp) (a : Num.Ans) (h : p.may = true) (hk : a.kind = 1) : Num.holds p a = ((Num.thereB a.x a.xd && Num.thereB a.y a.yd && !Num.thereB a.r a.rd && !Num.zeroW a.wn a.wd) && Num.bestB p a) := by
  rw [Num.holds_best p a h hk]
  cases hb : Num.bestB p a with
  | false => simp
  | true => obtain ⟨h1, h2, h3⟩ := Num.best_parts p a hb; rw [h1, h2, h3]; simp

theorem Num.holds_e (p : Num.Lp) (a : Num.Ans) (h : p.may = true) (hk : a.kind = 2) : Num.holds p a = ((Num.thereB a.x a.xd && !Num.thereB a.y a.yd && Num.thereB a.r a.rd && Num.zeroW a.wn a.wd) && Num.endlessB p a) := by
  rw [Num.holds_endless p a h hk]
  cases hb : Num.endlessB p a with
  | false => simp
  | true => obtain ⟨h1, h2⟩ := Num.endless_parts p a hb; rw [h1, h2]; simp

theorem Num.holds_n (p : Num.Lp) (a : Num.Ans) (h : p.may = true) (hk : a.kind = 3) : Num.holds p a = ((!Num.thereB a.x a.xd && Num.thereB a.y a.yd && !Num.thereB a.r a.rd && Num.zeroW a.wn a.wd) && Num.nothingB p a) := by
  rw [Num.holds_nothing p a h hk]
  cases hb : Num.nothingB p a with
  | false => simp
  | true => have h1 := Num.nothing_parts p h a hb; rw [h1]; simp

theorem parts_eq (b0 b1 b2 b3 c0 c1 c2 c3 : Bool) (w : World) : (Op.equalIn 10000 121 (.agg #[.bool b0, .bool b1, .bool b2, .bool b3]) (.agg #[.bool c0, .bool c1, .bool c2, .bool c3])).run Tryz.prog w = .ok ((b0 == c0) && (b1 == c1) && (b2 == c2) && (b3 == c3)) w := by
  cases b0 <;> cases b1 <;> cases b2 <;> cases b3 <;> cases c0 <;> cases c1 <;> cases c2 <;> cases c3 <;> kernel_rfl

set_option maxHeartbeats 3200000 in
theorem holds_any (ca : Option Addr) (cl cc : Nat) (ra : Option Addr) (m rc : Nat) (p : Num.Lp) (w : World) (hc : Ints w ca cl p.costs) (hcl : cl ≤ 9223372036854775807) (hr : RowsAt w ra m p.rows) (hrl : m ≤ 9223372036854775807) (a : Num.Ans)
    (xa : Option Addr) (xl xc : Nat) (ya : Option Addr) (yl yc : Nat) (za : Option Addr) (zl zc : Nat) (hx : Ints w xa xl a.x) (hxl : xl ≤ 9223372036854775807) (hy : Ints w ya yl a.y) (hyl : yl ≤ 9223372036854775807) (hz : Ints w za zl a.r) (hzl : zl ≤ 9223372036854775807) :
    Calls Tryz.prog 36 #[.agg #[.slice ca cl cc, .slice ra m rc], .agg #[.int .i64 a.kind, .slice xa xl xc, .int .i64 a.xd, .slice ya yl yc, .int .i64 a.yd, .slice za zl zc, .int .i64 a.rd, .int .i64 a.wn, .int .i64 a.wd]] w fun e w' =>
      e = .returned (.bool (Num.holds p a)) ∧ Below w.heap.size w w' := by
  have HC : Hid (Ints w ca cl p.costs) := hc
  have HR : Hid (RowsAt w ra m p.rows) := hr
  have HX : Hid (Ints w xa xl a.x) := hx
  have HY : Hid (Ints w ya yl a.y) := hy
  have HZ : Hid (Ints w za zl a.r) := hz
  have HXL : Hid (xl = a.x.length) := hx.1
  have HYL : Hid (yl = a.y.length) := hy.1
  have HZL : Hid (zl = a.r.length) := hz.1
  clear hr hx hy hz hc
  have hL0 : Below ((w.alloc (.cells #[.slice ca cl cc, .slice ra m rc] 25)).alloc (.cells #[.int .i64 a.kind, .slice xa xl xc, .int .i64 a.xd, .slice ya yl yc, .int .i64 a.yd, .slice za zl zc, .int .i64 a.rd, .int .i64 a.wn, .int .i64 a.wd] 38)).heap.size ((w.alloc (.cells #[.slice ca cl cc, .slice ra m rc] 25)).alloc (.cells #[.int .i64 a.kind, .slice xa xl xc, .int .i64 a.xd, .slice ya yl yc, .int .i64 a.yd, .slice za zl zc, .int .i64 a.rd, .int .i64 a.wn, .int .i64 a.wd] 38)) ((w.alloc (.cells #[.slice ca cl cc, .slice ra m rc] 25)).alloc (.cells #[.int .i64 a.kind, .slice xa xl xc, .int .i64 a.xd, .slice ya yl yc, .int .i64 a.yd, .slice za zl zc, .int .i64 a.rd, .int .i64 a.wn, .int .i64 a.wd] 38)) := Below.refl _ _
  have HH1 : Hid _ := Num.holds_no p a
  have HH2 : Hid _ := Num.holds_b p a
  have HH3 : Hid _ := Num.holds_e p a
  have HH4 : Hid _ := Num.holds_n p a
  have HH5 : Hid _ := Num.holds_none p a
  generalize Num.holds p a = res at *
  go_enter Tryz.func36, Tryz.ntmps36
  go_wp2_with fail
  generalize hV : (w.alloc (.cells #[.slice ca cl cc, .slice ra m rc] 25)).alloc (.cells #[.int .i64 a.kind, .slice xa xl xc, .int .i64 a.xd, .slice ya yl yc, .int .i64 a.yd, .slice za zl zc, .int .i64 a.rd, .int .i64 a.wn, .int .i64 a.wd] 38) = V at *
  have HBX : Hid (∀ w', Below V.heap.size V w' → (w'.cell? ⟨w.heap.size, 0, none⟩ = some (.slice ca cl cc) ∧ w'.cell? ⟨w.heap.size, 1, none⟩ = some (.slice ra m rc)) ∧ Nine (w.heap.size + 1) (.int .i64 a.kind) (.slice xa xl xc) (.int .i64 a.xd) (.slice ya yl yc) (.int .i64 a.yd) (.slice za zl zc) (.int .i64 a.rd) (.int .i64 a.wn) (.int .i64 a.wd) w' ∧ w.heap.size + 1 < w'.heap.size ∧ Below w.heap.size w w') := by
    intro w' h; rw [← hV] at h; exact box29 h
  clear hV
  have hB0 := (HBX.out V hL0).2.2.2
  refine (lmay_any _ _ _ _ _ _ p _ (Ints.below HC.out hB0 (Nat.le_refl _)) hcl (RowsAt.below HR.out hB0 (Nat.le_refl _)) hrl).mono ?_
  rintro e w1 ⟨rfl, hk1⟩
  have hb1 := bstep hL0 hk1
  clear hB0 hk1
  obtain ⟨⟨c0, c1⟩, ⟨n0, n1, n2, n3, n4, n5, n6, n7, n8⟩, hz1, hB1⟩ := HBX.out w1 hb1
  cases hm : p.may with
  | false =>
    have hf : res = false := HH1.out hm
    go_wp2_with fail
    go_ret
    (first | exact ⟨ret_bool hf.symm, hB1⟩ | exact ⟨rfl, hB1⟩)
  | true =>
  have KP : Hid (∀ w', Below V.heap.size V w' → Calls Tryz.prog 62 #[.agg #[.int .i64 a.kind, .slice xa xl xc, .int .i64 a.xd, .slice ya yl yc, .int .i64 a.yd, .slice za zl zc, .int .i64 a.rd, .int .i64 a.wn, .int .i64 a.wd]] w' fun e w'' => e = .returned (.agg #[.bool (Num.thereB a.x a.xd), .bool (Num.thereB a.y a.yd), .bool (Num.thereB a.r a.rd), .bool (!Num.zeroW a.wn a.wd)]) ∧ Below V.heap.size V w'') := by
    intro w' h
    exact (parts_any a.kind xa xl xc a.xd ya yl yc a.yd za zl zc a.rd a.wn a.wd a.x a.y a.r w' HXL.out HYL.out HZL.out).mono fun _ _ k => ⟨k.1, bstep h k.2⟩
  have HK : Hid (∀ w', Below V.heap.size V w' → Ints w' ca cl p.costs ∧ RowsAt w' ra m p.rows ∧ Ints w' xa xl a.x ∧ Ints w' ya yl a.y ∧ Ints w' za zl a.r) := fun w' h =>
    ⟨Ints.below HC.out (HBX.out w' h).2.2.2 (Nat.le_refl _), RowsAt.below HR.out (HBX.out w' h).2.2.2 (Nat.le_refl _), Ints.below HX.out (HBX.out w' h).2.2.2 (Nat.le_refl _), Ints.below HY.out (HBX.out w' h).2.2.2 (Nat.le_refl _), Ints.below HZ.out (HBX.out w' h).2.2.2 (Nat.le_refl _)⟩
  have KB : Hid (∀ w', Below V.heap.size V w' → Calls Tryz.prog 63 #[.agg #[.slice ca cl cc, .slice ra m rc], .agg #[.int .i64 a.kind, .slice xa xl xc, .int .i64 a.xd, .slice ya yl yc, .int .i64 a.yd, .slice za zl zc, .int .i64 a.rd, .int .i64 a.wn, .int .i64 a.wd]] w' fun e w'' => e = .returned (.bool (Num.bestB p a)) ∧ Below V.heap.size V w'') := by
    intro w' h
    obtain ⟨k1, k2, k3, k4, k5⟩ := HK.out w' h
    exact (best_any _ _ _ _ _ _ p w' k1 k2 hm a _ _ _ _ _ _ _ _ _ k3 hxl k4 hyl).mono fun _ _ k => ⟨k.1, bstep h k.2⟩
  have KE : Hid (∀ w', Below V.heap.size V w' → Calls Tryz.prog 64 #[.agg #[.slice ca cl cc, .slice ra m rc], .agg #[.int .i64 a.kind, .slice xa xl xc, .int .i64 a.xd, .slice ya yl yc, .int .i64 a.yd, .slice za zl zc, .int .i64 a.rd, .int .i64 a.wn, .int .i64 a.wd]] w' fun e w'' => e = .returned (.bool (Num.endlessB p a)) ∧ Below V.heap.size V w'') := by
    intro w' h
    obtain ⟨k1, k2, k3, k4, k5⟩ := HK.out w' h
    exact (endless_any _ _ _ _ _ _ p w' k1 k2 hm a _ _ _ _ _ _ _ _ _ k3 hxl k5 hzl).mono fun _ _ k => ⟨k.1, bstep h k.2⟩
  have KN : Hid (∀ w', Below V.heap.size V w' → Calls Tryz.prog 65 #[.agg #[.slice ca cl cc, .slice ra m rc], .agg #[.int .i64 a.kind, .slice xa xl xc, .int .i64 a.xd, .slice ya yl yc, .int .i64 a.yd, .slice za zl zc, .int .i64 a.rd, .int .i64 a.wn, .int .i64 a.wd]] w' fun e w'' => e = .returned (.bool (Num.nothingB p a)) ∧ Below V.heap.size V w'') := by
    intro w' h
    obtain ⟨k1, k2, k3, k4, k5⟩ := HK.out w' h
    exact (nothing_any _ _ _ _ _ _ p w' k1 k2 hm a _ _ _ _ _ _ _ _ _ k4 hyl).mono fun _ _ k => ⟨k.1, bstep h k.2⟩
  clear HK HXL HYL HZL HX HY HZ HC HR HH1 hL0
  have hcmp := parts_eq (Num.thereB a.x a.xd) (Num.thereB a.y a.yd) (Num.thereB a.r a.rd) (!Num.zeroW a.wn a.wd)
  generalize hb0 : Num.thereB a.x a.xd = b0 at *
  generalize hb1' : Num.thereB a.y a.yd = b1 at *
  generalize hb2' : Num.thereB a.r a.rd = b2 at *
  generalize hb3' : Num.zeroW a.wn a.wd = b3 at *
  clear hb0 hb1' hb2' hb3'
  generalize Num.bestB p a = rb at *
  generalize Num.endlessB p a = re at *
  generalize Num.nothingB p a = rn at *
  obtain ⟨kd, x, xd, y, yd, z, zd, wn, wd⟩ := a
  dsimp only at *
  by_cases k1 : kd = 1
  · subst k1
    have hf := HH2.out hm rfl
    have hc' := hcmp true true false true
    clear HH2 HH3 HH4 HH5 KE KN hcmp
    cases hp : (b0 && b1 && !b2 && !b3) with
    | false =>
      have hq : (((b0 == true) && (b1 == true) && (b2 == false) && ((!b3) == true))) = false := by revert hp; cases b0 <;> cases b1 <;> cases b2 <;> cases b3 <;> simp
      rw [hq] at hc'
      rw [hp] at hf
      have hf' : res = false := hf
      clear hf hq
      go_wp2_with fail
      refine (KP.out _ hb1).mono ?_
      rintro e w2 ⟨rfl, hb2⟩
      have hB2 := (HBX.out w2 hb2).2.2.2
      go_wp2_with fail
      go_ret
      (first | exact ⟨ret_bool hf'.symm, hB2⟩ | exact ⟨rfl, hB2⟩)
    | true =>
      have hq : (((b0 == true) && (b1 == true) && (b2 == false) && ((!b3) == true))) = true := by revert hp; cases b0 <;> cases b1 <;> cases b2 <;> cases b3 <;> simp
      rw [hq] at hc'
      rw [hp] at hf
      have HF' : Hid (res = rb) := hf
      clear hf hq
      go_wp2_with fail
      refine (KP.out _ hb1).mono ?_
      rintro e w2 ⟨rfl, hb2⟩
      clear c0 c1 n0 n1 n2 n3 n4 n5 n6 n7 n8 hz1 hB1
      obtain ⟨⟨c0, c1⟩, ⟨n0, n1, n2, n3, n4, n5, n6, n7, n8⟩, hz2, hB2⟩ := HBX.out w2 hb2
      go_wp2_with fail
      refine (KB.out _ hb2).mono ?_
      rintro e w3 ⟨rfl, hb3⟩
      have hB3 := (HBX.out w3 hb3).2.2.2
      go_wp2_with fail
      go_ret
      exact ⟨ret_bool HF'.out.symm, hB3⟩
  by_cases k2 : kd = 2
  · subst k2
    have hf := HH3.out hm rfl
    have hc' := hcmp true false true false
    clear HH2 HH3 HH4 HH5 KB KN hcmp
    cases hp : (b0 && !b1 && b2 && b3) with
    | false =>
      have hq : (((b0 == true) && (b1 == false) && (b2 == true) && ((!b3) == false))) = false := by revert hp; cases b0 <;> cases b1 <;> cases b2 <;> cases b3 <;> simp
      rw [hq] at hc'
      rw [hp] at hf
      have hf' : res = false := hf
      clear hf hq
      go_wp2_with fail
      refine (KP.out _ hb1).mono ?_
      rintro e w2 ⟨rfl, hb2⟩
      have hB2 := (HBX.out w2 hb2).2.2.2
      go_wp2_with fail
      go_ret
      (first | exact ⟨ret_bool hf'.symm, hB2⟩ | exact ⟨rfl, hB2⟩)
    | true =>
      have hq : (((b0 == true) && (b1 == false) && (b2 == true) && ((!b3) == false))) = true := by revert hp; cases b0 <;> cases b1 <;> cases b2 <;> cases b3 <;> simp
      rw [hq] at hc'
      rw [hp] at hf
      have HF' : Hid (res = re) := hf
      clear hf hq
      go_wp2_with fail
      refine (KP.out _ hb1).mono ?_
      rintro e w2 ⟨rfl, hb2⟩
      clear c0 c1 n0 n1 n2 n3 n4 n5 n6 n7 n8 hz1 hB1
      obtain ⟨⟨c0, c1⟩, ⟨n0, n1, n2, n3, n4, n5, n6, n7, n8⟩, hz2, hB2⟩ := HBX.out w2 hb2
      go_wp2_with fail
      refine (KE.out _ hb2).mono ?_
      rintro e w3 ⟨rfl, hb3⟩
      have hB3 := (HBX.out w3 hb3).2.2.2
      go_wp2_with fail
      go_ret
      exact ⟨ret_bool HF'.out.symm, hB3⟩
  by_cases k3 : kd = 3
  · subst k3
    have hf := HH4.out hm rfl
    have hc' := hcmp false true false false
    clear HH2 HH3 HH4 HH5 KB KE hcmp
    cases hp : (!b0 && b1 && !b2 && b3) with
    | false =>
      have hq : (((b0 == false) && (b1 == true) && (b2 == false) && ((!b3) == false))) = false := by revert hp; cases b0 <;> cases b1 <;> cases b2 <;> cases b3 <;> simp
      rw [hq] at hc'
      rw [hp] at hf
      have hf' : res = false := hf
      clear hf hq
      go_wp2_with fail
      refine (KP.out _ hb1).mono ?_
      rintro e w2 ⟨rfl, hb2⟩
      have hB2 := (HBX.out w2 hb2).2.2.2
      go_wp2_with fail
      go_ret
      (first | exact ⟨ret_bool hf'.symm, hB2⟩ | exact ⟨rfl, hB2⟩)
    | true =>
      have hq : (((b0 == false) && (b1 == true) && (b2 == false) && ((!b3) == false))) = true := by revert hp; cases b0 <;> cases b1 <;> cases b2 <;> cases b3 <;> simp
      rw [hq] at hc'
      rw [hp] at hf
      have HF' : Hid (res = rn) := hf
      clear hf hq
      go_wp2_with fail
      refine (KP.out _ hb1).mono ?_
      rintro e w2 ⟨rfl, hb2⟩
      clear c0 c1 n0 n1 n2 n3 n4 n5 n6 n7 n8 hz1 hB1
      obtain ⟨⟨c0, c1⟩, ⟨n0, n1, n2, n3, n4, n5, n6, n7, n8⟩, hz2, hB2⟩ := HBX.out w2 hb2
      go_wp2_with fail
      refine (KN.out _ hb2).mono ?_
      rintro e w3 ⟨rfl, hb3⟩
      have hB3 := (HBX.out w3 hb3).2.2.2
      go_wp2_with fail
      go_ret
      exact ⟨ret_bool HF'.out.symm, hB3⟩
  have hf : res = false := HH5.out k1 k2 k3
  have k1' : (kd == 1) = false := by simpa using k1
  have k2' : (kd == 2) = false := by simpa using k2
  have k3' : (kd == 3) = false := by simpa using k3
  clear HH2 HH3 HH4 HH5 KB KE KN KP hcmp
  go_wp2_with fail
  go_ret
  (first | exact ⟨ret_bool hf.symm, hB1⟩ | exact ⟨rfl, hB1⟩)

end Go.Proofs.YtipcbhodlgoflabGreat
