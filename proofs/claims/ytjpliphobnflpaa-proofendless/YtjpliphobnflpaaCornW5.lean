/- What corner.gains does. -/
import Derived.Test.YtjpliphobnflpaaCornW4
namespace Go.Proofs.Ytjpliphobnflpaa
open Go.RowKit

/-- Below B all is as in V; the row of the call's own is l, or has x at k already. -/
structure Rowed (V : World) (base g n k : Nat) (l : List Int) (x : Int) (w : World) : Prop where
  bel : Below V.heap.size V w
  row : ∃ l', Own w base g n l' ∧ (l' = l ∨ l' = l.set k x)

theorem Rowed.start {V : World} {base g n k : Nat} {l : List Int} {x : Int} {w : World} (h : Below V.heap.size V w) (ho : Own w base g n l) : Rowed V base g n k l x w := ⟨h, l, ho, Or.inl rfl⟩

theorem Rowed.drew {V : World} {base g n k : Nat} {l : List Int} {x : Int} {w : World} (h : Rowed V base g n k l x w) : Rowed V base g n k l x w.drew :=
  ⟨h.bel.drew, by obtain ⟨l', ho, hl⟩ := h.row; exact ⟨l', ho, hl⟩⟩

theorem Rowed.step {V : World} {base g n k : Nat} {l : List Int} {x : Int} {w w' : World} (h : Rowed V base g n k l x w) (hb : Below w.heap.size w w') : Rowed V base g n k l x w' :=
  ⟨bstep h.bel hb, by obtain ⟨l', ho, hl⟩ := h.row; exact ⟨l', ho.below hb ho.lt.2, hl⟩⟩

theorem Rowed.stored {V : World} {base g n k : Nat} {l : List Int} {x : Int} {w : World} (h : Rowed V base g n k l x w) : Own (w.setCell ⟨g, k, none⟩ (.int .i64 x)) base g n (l.set k x) := by
  obtain ⟨l', ho, hl⟩ := h.row
  have := ho.store k x
  rcases hl with rfl | rfl
  · exact this
  · rw [List.set_set] at this; exact this

theorem Rowed.set {V : World} {base g n k : Nat} {l : List Int} {x : Int} {w : World} (h : Rowed V base g n k l x w) (hg : V.heap.size ≤ g) : Rowed V base g n k l x (w.setCell ⟨g, k, none⟩ (.int .i64 x)) :=
  ⟨bset h.bel hg _, _, h.stored, Or.inr rfl⟩

theorem Rowed.cell {V : World} {base g n k : Nat} {l : List Int} {x : Int} (hk : k < n) : ∃ F : World → Value, (∀ w, Rowed V base g n k l x w → w.cell? ⟨g, k, none⟩ = some (F w)) ∧ (∀ w, Rowed V base g n k l x w → w.frozen? ⟨g, k, none⟩ = false) := by
  refine ⟨fun w => (w.cell? ⟨g, k, none⟩).getD undef, ?_, ?_⟩
  · intro w h
    obtain ⟨l', ho, _⟩ := h.row
    show w.cell? ⟨g, k, none⟩ = some ((w.cell? ⟨g, k, none⟩).getD undef)
    rw [(ho.cell k hk).1]; rfl
  · intro w h
    obtain ⟨l', ho, _⟩ := h.row
    exact (ho.cell k hk).2

def Num.gainF (p : Num.Lp) (y : List Int) (d : Int) (j : Nat) : Int := p.costs[j]?.getD 0 * d - Num.dotN ((List.range p.rows.length).map (Num.hasF p j)) y p.rows.length

set_option maxHeartbeats 800000 in
theorem gains_any (ca : Option Addr) (cl cc : Nat) (ra : Option Addr) (rl rc : Nat) (p : Num.Lp) (w : World) (hc : Ints w ca cl p.costs) (hr : RowsAt w ra rl p.rows) (hm : p.may = true) (ya : Option Addr) (yc : Nat) (y : List Int) (hy : Ints w ya rl y) (d : Int)
    (N : Nat) (hN : cl + rl = N) (hd : -6553600000000 ≤ d ∧ d ≤ 6553600000000) (hyb : ∀ j : Nat, -6553600000000 ≤ y[j]?.getD 0 ∧ y[j]?.getD 0 ≤ 6553600000000) :
    Calls Try.prog 59 #[.agg #[.slice ca cl cc, .slice ra rl rc], .slice ya rl yc, .int .i64 d] w fun e w' => ∃ g, e = .returned (.slice (some ⟨g, 0, none⟩) N N) ∧ w.heap.size ≤ g ∧
      Ints w' (some ⟨g, 0, none⟩) N ((List.range N).map (Num.gainF p y d)) ∧ Below w.heap.size w w' := by
  have HC : Hid (Ints w ca cl p.costs) := hc
  have HR : Hid (RowsAt w ra rl p.rows) := hr
  have HY : Hid (Ints w ya rl y) := hy
  have HM : Hid (p.may = true) := hm
  have HNN : Hid (cl + rl = N) := hN
  have HYB : Hid (∀ j : Nat, -6553600000000 ≤ y[j]?.getD 0 ∧ y[j]?.getD 0 ≤ 6553600000000) := hyb
  have h4 : rl ≤ 4 := by have := hr.1; have := (p.may_of hm).2.2.1.2; omega
  have h8 : N ≤ 8 := by have := hc.1; have := (p.may_of hm).1.2; omega
  have HRL : Hid (rl = p.rows.length) := hr.1
  have HCB : Hid (∀ j : Nat, -400 ≤ p.costs[j]?.getD 0 ∧ p.costs[j]?.getD 0 ≤ 400) := Num.withinB_iff _ _ (p.may_of hm).2.1 (by omega)
  clear hc hr hy hm hN hyb
  obtain ⟨i0, hif, hz0, hz1, hz2⟩ := info_parts Try.info64
  go_enter Try.func59, Try.ntmps59
  go_wp2_with fail
  refine (width_any _ _ _ _ _ _ _ N HNN.out h8).mono ?_
  rintro e w1 ⟨rfl, hb1⟩
  obtain ⟨⟨e0, e1⟩, _⟩ := kept2 hb1
  go_wp2_with (at_make; refine wpList_make_full _ rfl (.tmp 10) (.tmp 10) 22 rfl w1.heap.size 2 i0 (.int .i64 0) 1 Try.underlying22 hif hz0 hz1 .i64 .i64 _ _ N rfl rfl rfl rfl (by rw [hz2]; omega) (by unfold maxLen; omega) (Nat.le_refl _) ?_; intro w3 hown hgrow; have hb3 := made_below hgrow; have HO : Hid _ := hown; clear hown hgrow)
  have HO3 : Hid (Own w3 w1.heap.size w1.heap.size N (Num.fill (Num.gainF p y d) N 0)) := Own.made _ HO.out
  have hW : w.heap.size < w1.heap.size := by have := hb1.size; simp at this; omega
  generalize hV0 : w.alloc (.cells #[.slice ca cl cc, .slice ra rl rc] 40) = V0 at *
  have hs0 : V0.heap.size = w.heap.size + 1 := by rw [← hV0]; simp
  have hBV : Below w.heap.size w V0 := by rw [← hV0]; exact balloc _ _
  have hcv : V0.cell? ⟨w.heap.size, 0, none⟩ = some (.slice ca cl cc) ∧ V0.cell? ⟨w.heap.size, 1, none⟩ = some (.slice ra rl rc) := by rw [← hV0]; exact cell_new2 rfl _ _ _
  have hb13 : Below V0.heap.size V0 w3 := bstep hb1 hb3
  clear HO hb1 hb3 e0 e1 hV0
  go_loopw [14] (fun i wr => ∃ k : Nat, k ≤ N ∧ i = .int .i64 k ∧ Own wr w1.heap.size w1.heap.size N (Num.fill (Num.gainF p y d) N k) ∧ Below V0.heap.size V0 wr) (fun i _ => N - (intOf i).toNat)
  case atStart => exact ⟨0, Nat.zero_le _, rfl, HO3.out, hb13⟩
  case round =>
    obtain ⟨k, hk, rfl, hO, hB⟩ := hrel
    have HO : Hid _ := hO
    clear HO3 hb13
    by_cases hlt : k < N
    · have HX : Hid (Num.gainF p y d k = p.costs[k]?.getD 0 * d - Num.dotN ((List.range rl).map (Num.hasF p k)) y rl) := by have := HRL.out; rw [this]; exact rfl
      have hcb := HCB.out k
      have hq := Num.mul_bd2 _ _ _ _ hcb hd
      have hD := Num.dotN_bd ((List.range rl).map (Num.hasF p k)) y 12 6553600000000 (fun j => by rw [Num.range_getD]; split; exact Num.hasF_bd p HM.out k j; omega) HYB.out rl
      have hD' : -314572800000000 ≤ Num.dotN ((List.range rl).map (Num.hasF p k)) y rl ∧ Num.dotN ((List.range rl).map (Num.hasF p k)) y rl ≤ 314572800000000 := by omega
      have KW : Hid (∀ w', Rowed V0 w1.heap.size w1.heap.size N k (Num.fill (Num.gainF p y d) N k) (Num.gainF p y d k) w' → Calls Try.prog 87 #[.agg #[.slice ca cl cc, .slice ra rl rc], .int .i64 k] w' fun e w'' => e = .returned (.int .i64 (p.costs[k]?.getD 0)) ∧
          Rowed V0 w1.heap.size w1.heap.size N k (Num.fill (Num.gainF p y d) N k) (Num.gainF p y d k) w'' ∧ Below w'.heap.size w' w'') := by
        intro w' h
        exact (worthC_any _ _ _ _ _ _ p.costs w' (Ints.below HC.out (hBV.trans (h.bel.mono (by omega))) (Nat.le_refl _)) k).mono fun _ _ q => ⟨q.1, h.step q.2, q.2⟩
      have KC : Hid (∀ w', Rowed V0 w1.heap.size w1.heap.size N k (Num.fill (Num.gainF p y d) N k) (Num.gainF p y d k) w' → Calls Try.prog 84 #[.agg #[.slice ca cl cc, .slice ra rl rc], .int .i64 k] w' fun e w'' => ∃ g2, e = .returned (.slice (some ⟨g2, 0, none⟩) rl rl) ∧
          Rowed V0 w1.heap.size w1.heap.size N k (Num.fill (Num.gainF p y d) N k) (Num.gainF p y d k) w'' ∧ Ints w'' (some ⟨g2, 0, none⟩) rl ((List.range rl).map (Num.hasF p k))) := by
        intro w' h
        refine (column_any _ _ _ _ _ _ p w' (RowsAt.below HR.out (hBV.trans (h.bel.mono (by omega))) (Nat.le_refl _)) HM.out k (by omega)).mono ?_
        rintro e w'' ⟨g2, rfl, _, hi, hb⟩
        exact ⟨g2, rfl, h.step hb, hi⟩
      have KT : Hid (∀ w' g2, Rowed V0 w1.heap.size w1.heap.size N k (Num.fill (Num.gainF p y d) N k) (Num.gainF p y d k) w' → Ints w' (some ⟨g2, 0, none⟩) rl ((List.range rl).map (Num.hasF p k)) → Calls Try.prog 50 #[.slice (some ⟨g2, 0, none⟩) rl rl, .slice ya rl yc] w' fun e w'' => e = .returned (.int .i64 (Num.dotN ((List.range rl).map (Num.hasF p k)) y rl)) ∧
          Rowed V0 w1.heap.size w1.heap.size N k (Num.fill (Num.gainF p y d) N k) (Num.gainF p y d k) w'') := by
        intro w' g2 h hi
        exact (below_of_drew (together_any _ _ _ _ _ _ ((List.range rl).map (Num.hasF p k)) y w' 12 6553600000000 hi (Ints.below HY.out (hBV.trans (h.bel.mono (by omega))) (Nat.le_refl _)) rfl (by omega) (fun j => by rw [Num.range_getD]; split; exact Num.hasF_bd p HM.out k j; omega) HYB.out (by omega))).mono fun _ _ q => ⟨q.1, h.step q.2⟩
      obtain ⟨F, qF, qZ⟩ := Rowed.cell (V := V0) (base := w1.heap.size) (g := w1.heap.size) (l := Num.fill (Num.gainF p y d) N k) (x := Num.gainF p y d k) hlt
      have hR := Rowed.drew (Rowed.start (k := k) (x := Num.gainF p y d k) hB hO)
      have HST : Hid (∀ w', Rowed V0 w1.heap.size w1.heap.size N k (Num.fill (Num.gainF p y d) N k) (Num.gainF p y d k) w' → Own (w'.setCell ⟨w1.heap.size, k, none⟩ (.int .i64 (Num.gainF p y d k))) w1.heap.size w1.heap.size N (Num.fill (Num.gainF p y d) N (k + 1)) ∧ Below V0.heap.size V0 (w'.setCell ⟨w1.heap.size, k, none⟩ (.int .i64 (Num.gainF p y d k)))) := by
        intro w' h
        refine ⟨?_, bset h.bel (by omega) _⟩
        rw [← Num.fill_set _ _ _ (Num.gainF p y d k) hlt rfl]
        exact h.stored
      have HSS : Hid (∀ w', Rowed V0 w1.heap.size w1.heap.size N k (Num.fill (Num.gainF p y d) N k) (Num.gainF p y d k) w' → Rowed V0 w1.heap.size w1.heap.size N k (Num.fill (Num.gainF p y d) N k) (Num.gainF p y d k) (w'.setCell ⟨w1.heap.size, k, none⟩ (.int .i64 (Num.gainF p y d k)))) := fun w' h => h.set (by omega)
      have q0 : ∀ w', Rowed V0 w1.heap.size w1.heap.size N k (Num.fill (Num.gainF p y d) N k) (Num.gainF p y d k) w' → w'.cell? ⟨w.heap.size, 0, none⟩ = some (.slice ca cl cc) := fun w' h => by rw [h.bel.cell (by show w.heap.size < _; omega)]; exact hcv.1
      have q1 : ∀ w', Rowed V0 w1.heap.size w1.heap.size N k (Num.fill (Num.gainF p y d) N k) (Num.gainF p y d k) w' → w'.cell? ⟨w.heap.size, 1, none⟩ = some (.slice ra rl rc) := fun w' h => by rw [h.bel.cell (by show w.heap.size < _; omega)]; exact hcv.2
      clear hO
      generalize Num.gainF p y d k = x at *
      generalize Num.fill (Num.gainF p y d) N k = l0 at *
      generalize Num.dotN ((List.range rl).map (Num.hasF p k)) y rl = D at *
      generalize p.costs[k]?.getD 0 = c at HX hcb hq KW
      have e1 : wrap64 (c * d) = c * d := IntWalk.wrap64_in _ (by omega)
      have e2 : wrap64 (c * d - D) = x := by rw [HX.out]; exact IntWalk.wrap64_in _ (by omega)
      have e3 : IntKind.i64.wrap (IntKind.i64.wrap (c * d) - D) = x := by rw [IntWalk.i64_left, IntWalk.i64_left, e1, e2]
      have E3 : Hid _ := e3
      clear hcb hD hcv e1 e2 e3
      go_wp2_with fail
      go_region_held3 (fun w' => Rowed V0 w1.heap.size w1.heap.size N k l0 x w') (first | assumption | (rw [E3.out]; apply HSS.out; assumption))
        (first | (go_at_call 87; refine (KW.out _ ?_).mono ?_; assumption; rintro e v1 ⟨rfl, hb1, hk1⟩; (try (have hI := Ints.below hI hk1 (Nat.le_refl _))))
               | (go_at_call 84; refine (KC.out _ ?_).mono ?_; assumption; rintro e v2 ⟨g2, rfl, hb2, hI⟩)
               | (go_at_call 50; refine (KT.out _ _ ?_ hI).mono ?_; assumption; rintro e v3 ⟨rfl, hb3⟩))
      all_goals
        rename_i hfin
        obtain ⟨r1, r2⟩ := HST.out v3 hb3
        have R1 : Hid _ := r1
        clear q0 q1 qF qZ KW KC KT r1 hfin
        rw [E3.out]
        go_wp2_with fail
        go_roundw
        case rel => exact ⟨k + 1, hlt, by go_num, R1.out, r2⟩
        case measure => simp [intOf]; omega
    · have hke : k = N := by omega
      subst hke
      clear hO
      go_wp2_with fail
      go_ret
      exact ⟨w1.heap.size, rfl, by omega, by rw [← Num.fill_all]; exact Own.ints HO.out, hBV.trans (hB.mono (by omega))⟩

end Go.Proofs.Ytjpliphobnflpaa
