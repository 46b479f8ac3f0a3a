/- Package text's writing: Print. -/
import Derived.Test.YtipcbhodlgoflabDoorTxE
import Derived.Test.YtipcbhodlgoflabDoorSixA
namespace Go.Proofs.YtipcbhodlgoflabDoor
open Go.RowKit

theorem dig_len (n : Int) (h : -999999 ≤ n ∧ n ≤ 999999) : (Num.digI n).length ≤ 7 := by
  have := Num.digN_len 5 n.natAbs (by omega)
  unfold Num.digI
  split
  · rw [List.length_cons]; omega
  · omega

theorem flat_len : ∀ (o : List Int), (∀ n ∈ o, -999999 ≤ n ∧ n ≤ 999999) → (Num.flatW o).length ≤ 8 * o.length := by
  intro o
  induction o with
  | nil => intro _; exact Nat.le_refl _
  | cons n o ih =>
    intro h
    have h1 := ih (fun x hx => h x (by simp [hx]))
    have h2 := dig_len n (h n (by simp))
    rw [Num.flat_cons, List.length_cons, List.length_append, List.length_cons]
    omega

theorem back_len : ∀ (o : List Int), (∀ n ∈ o, -999999 ≤ n ∧ n ≤ 999999) → (Num.backW o).length ≤ 8 * o.length := by
  intro o
  induction o with
  | nil => intro _; exact Nat.le_refl _
  | cons n o ih =>
    intro h
    have h1 := ih (fun x hx => h x (by simp [hx]))
    have h2 := dig_len n (h n (by simp))
    show ((Num.digI n ++ [32]) ++ Num.backW o).length ≤ _
    rw [List.length_append, List.length_append, List.length_cons (a := n)]
    show (Num.digI n).length + 1 + _ ≤ _
    omega

/-- The text of the first k rows, and of what is ahead of them. -/
def upTo (p : Num.Lp) (k : Nat) : List UInt8 := (Num.joinW 32 (Num.headW p.costs) ++ [10]) ++ ((p.rows.take k).map fun r => Num.joinW 32 (Num.rowW r) ++ [10]).flatten

theorem upTo_zero (p : Num.Lp) : upTo p 0 = Num.joinW 32 (Num.headW p.costs) ++ [10] := List.append_nil _

theorem upTo_all (p : Num.Lp) : upTo p p.rows.length = Num.textW p := by
  rw [upTo, List.take_length, Num.text_lines]

theorem upTo_succ (p : Num.Lp) (k : Nat) (h : k < p.rows.length) : upTo p (k + 1) = upTo p k ++ (Num.joinW 32 (Num.rowW (p.rows[k]?.getD ([], 0))) ++ [10]) := by
  unfold upTo
  rw [List.take_succ_eq_append_getElem h, List.map_append, List.flatten_append, List.getElem?_eq_getElem h, ← List.append_assoc]
  simp

/-- Numbers of a program that may be are small. -/
theorem may_costs (p : Num.Lp) (h : p.may = true) : ∀ n ∈ p.costs, -400 ≤ n ∧ n ≤ 400 := (Num.withinB_mem 400 _).1 (p.may_of h).2.1

theorem may_row (p : Num.Lp) (h : p.may = true) : ∀ r ∈ p.rows, r.1.length = p.costs.length ∧ (∀ n ∈ r.1, -12 ≤ n ∧ n ≤ 12) ∧ -12 ≤ r.2 ∧ r.2 ≤ 12 := by
  intro r hr
  have := List.all_eq_true.1 (p.may_of h).2.2.2 r hr
  unfold Num.rowB at this
  simp only [Bool.and_eq_true, beq_iff_eq] at this
  exact ⟨this.1.1, (Num.withinB_mem 12 _).1 this.1.2, (Num.withinB_mem 12 _).1 this.2 r.2 (by simp)⟩

theorem head_len (p : Num.Lp) (h : p.may = true) : (Num.joinW 32 (Num.headW p.costs)).length ≤ 100 := by
  have h1 := flat_len p.costs (fun n hn => by have := may_costs p h n hn; omega)
  have h2 := (p.may_of h).1
  rw [Num.join_head, List.length_append]
  have : Num.mostW.length = 4 := rfl
  omega

theorem row_len (p : Num.Lp) (h : p.may = true) (r : List Int × Int) (hr : r ∈ p.rows) : (Num.joinW 32 (Num.rowW r)).length ≤ 100 := by
  obtain ⟨e, h1, h2⟩ := may_row p h r hr
  have h3 := back_len r.1 (fun n hn => by have := h1 n hn; omega)
  have h4 := dig_len r.2 (by omega)
  have h5 := (p.may_of h).1
  rw [show r = (r.1, r.2) from rfl, Num.join_row, List.length_append, List.length_append, List.length_cons]
  have : Num.leW.length = 2 := rfl
  show _ ≤ 100
  omega

theorem upTo_len (p : Num.Lp) (h : p.may = true) : ∀ k, k ≤ p.rows.length → (upTo p k).length ≤ 101 + 101 * k := by
  intro k
  induction k with
  | zero =>
    intro _
    rw [upTo_zero, List.length_append, List.length_singleton]
    have := head_len p h
    omega
  | succ k ih =>
    intro hk
    have h1 := ih (by omega)
    have h2 := row_len p h (p.rows[k]?.getD ([], 0)) (by rw [List.getElem?_eq_getElem (by omega)]; exact List.getElem_mem _)
    rw [upTo_succ p k (by omega), List.length_append, List.length_append, List.length_singleton]
    omega

theorem ownsRow_new {w : World} {k : Nat} (hk : k = w.heap.size) (x : List UInt8) {B : Nat} (hB : B ≤ k) : (w.alloc (.cells #[.string (B8 x)] 9)).ownsRow B 9 1 (.slice (some ⟨k, 0, none⟩) 1 1) 1 (strs [x]) :=
  ⟨rfl, Or.inr ⟨k, 1, #[.string (B8 x)], rfl, hB, heap_new hk _, Nat.le_refl _, by unfold maxLen; omega, rfl, rfl⟩⟩

/-- What stands while a row's line is written: what lay below b, and the row's own box rb. -/
def SPt (b : Nat) (V : World) (rb : Nat) (cs : Array Value) (w : World) : Prop := Below b V w ∧ b ≤ V.heap.size ∧ w.heap[rb]? = some (.cells cs 51 (0, 0))

theorem SPt.drew {b rb : Nat} {V w : World} {cs : Array Value} (h : SPt b V rb cs w) : SPt b V rb cs w.drew := ⟨h.1.drew, h.2.1, h.2.2⟩
theorem SPt.alloc {b rb : Nat} {V w : World} {cs : Array Value} (h : SPt b V rb cs w) (o : Obj) : SPt b V rb cs (w.alloc o) :=
  ⟨h.1.alloc (Nat.le_trans h.2.1 h.1.size) o, h.2.1, by rw [Lib.alloc_old w o rb (Array.getElem?_eq_some_iff.1 h.2.2).1]; exact h.2.2⟩
theorem SPt.below {b rb : Nat} {V w w' : World} {cs : Array Value} (h : SPt b V rb cs w) (hb : Below w.heap.size w w') : SPt b V rb cs w' :=
  ⟨h.1.trans (hb.mono (Nat.le_trans h.2.1 h.1.size)), h.2.1, by rw [hb.block rb (Array.getElem?_eq_some_iff.1 h.2.2).1]; exact h.2.2⟩
theorem SPt.cell {b rb : Nat} {V w : World} {u v : Value} (h : SPt b V rb #[u, v] w) : w.cell? ⟨rb, 1, none⟩ = some v := by
  rw [Lib.cell_of_heap h.2.2]; rfl

theorem news_le2 {w : World} {u v : Value} {t t' : TypeId} : ∀ (j : Nat) (x : Value), [u][j]? = some x → ((w.alloc (.cells #[u] t)).alloc (.cells #[v] t')).drew.cell? (Addr.add ⟨w.heap.size, 0, none⟩ j) = some x := by
  intro j x hj
  match j, hj with
  | 0, hj =>
    simp at hj; subst hj
    show ((w.alloc (.cells #[u] t)).alloc (.cells #[v] t')).cell? ⟨w.heap.size, 0, none⟩ = some u
    rw [(balloc (w.alloc (.cells #[u] t)) (.cells #[v] t')).cell (by simp)]
    exact cell_new1 rfl _ _

theorem news_le3 {w : World} {u v : Value} {t t' : TypeId} : ∀ (j : Nat) (x : Value), [u][j]? = some x → ((w.alloc (.cells #[v] t')).alloc (.cells #[u] t)).drew.cell? (Addr.add ⟨w.heap.size + 1, 0, none⟩ j) = some x := by
  intro j x hj
  match j, hj with
  | 0, hj =>
    simp at hj; subst hj
    exact cell_new1 (w := w.alloc (.cells #[v] t')) (by simp) u t

theorem ints_two2 {w : World} {u : Value} {m : Int} {t t' : TypeId} : Ints ((w.alloc (.cells #[u] t)).alloc (.cells #[.int .i64 m] t')).drew (some ⟨w.heap.size + 1, 0, none⟩) 1 [m] := by
  have := Ints.newAt (w := w.alloc (.cells #[u] t)) (k := w.heap.size + 1) (by simp) m t'
  exact this

theorem ints_two3 {w : World} {u : Value} {m : Int} {t t' : TypeId} : Ints ((w.alloc (.cells #[.int .i64 m] t')).alloc (.cells #[u] t)).drew (some ⟨w.heap.size, 0, none⟩) 1 [m] :=
  (Ints.newAt (w := w) rfl m t').below (balloc (w.alloc (.cells #[.int .i64 m] t')) (.cells #[u] t)).drew (Nat.le_refl _)

/-- Words that are ready to be put. -/
def Ready (b : Nat) (V : World) (rb : Nat) (cs : Array Value) (base : Nat) (t : List UInt8) (ws : List (List UInt8)) (n : Nat) (va : Option Addr) (vc : Nat) (w : World) : Prop :=
  w.ownsRow base 9 1 (.slice va n vc) n (strs ws) ∧ Lib.IsBuilderF 40 5 b b (Lib.byteCells t) w ∧ SPt b V rb cs w

set_option maxRecDepth 8000 in
set_option maxHeartbeats 3200000 in
theorem print_may (ca : Option Addr) (cl cc : Nat) (ra : Option Addr) (rl rc : Nat) (p : Num.Lp) (w : World) (hc : Ints w ca cl p.costs) (hcl : cl ≤ 9223372036854775807) (hr : RowsAt w ra rl p.rows) (hrl : rl ≤ 9223372036854775807) (hm : p.may = true)
    (ht : Lib.TabIs Tryd.prog w "internal/strconv.uint64pow10" .u64 Lib.pow10Tab) :
    Calls Tryd.prog 7 #[.agg #[.slice ca cl cc, .slice ra rl rc]] w fun e w' => e = .returned (.tuple #[.string (B8 (Num.textW p)), .int .i64 0]) ∧ Below w.heap.size w w' := by
  have HC : Hid (Ints w ca cl p.costs) := hc
  have HR : Hid (RowsAt w ra rl p.rows) := hr
  have HM : Hid (p.may = true) := hm
  have HT : Hid (Lib.TabIs Tryd.prog w "internal/strconv.uint64pow10" .u64 Lib.pow10Tab) := ht
  have HCL : Hid (cl = p.costs.length) := hc.1
  have HRL : Hid (rl = p.rows.length) := hr.1
  have hc4 : cl ≤ 4 := by have := hc.1; have := (p.may_of hm).1; omega
  have hr4 : rl ≤ 4 := by have := hr.1; have := (p.may_of hm).2.2.1; omega
  obtain ⟨i0, hif, hz0, hz1, hz2⟩ := info_parts Tryd.infoStr
  clear hc hr ht
  go_enter Tryd.func7, Tryd.ntmps7
  go_wp2_with fail
  refine (lmay_any ca cl cc ra rl rc p _ (HC.out.below (balloc _ _) (Nat.le_refl _)) hcl (HR.out.below (balloc _ _) (Nat.le_refl _)) hrl).mono ?_
  rintro e w1 ⟨rfl, hb1⟩
  rw [hm]
  clear hm
  have k0 : w1.cell? ⟨w.heap.size, 0, none⟩ = some (.slice ca cl cc) := by rw [(bkept hb1 0).1]; go_simp
  have k1 : w1.cell? ⟨w.heap.size, 1, none⟩ = some (.slice ra rl rc) := by rw [(bkept hb1 1).1]; go_simp
  have hz : w.heap.size < w1.heap.size := by have := hb1.size; simp at this; omega
  have hB1 : Below w.heap.size w w1 := binto hb1
  clear hb1
  go_wp2_with fail
  have HI0 : Hid (Lib.IsBuilderF 40 5 w1.heap.size w1.heap.size (Lib.byteCells []) (w1.alloc (.cells #[.pointer none, .slice none 0 0] 40))) := Lib.IsBuilderF.of (Lib.fresh_isBuilder _ _ w1)
  have hs1 : (w1.alloc (.cells #[.pointer none, .slice none 0 0] 40)).heap.size = w1.heap.size + 1 := by simp
  have hBb : Below w1.heap.size w1 (w1.alloc (.cells #[.pointer none, .slice none 0 0] 40)) := balloc _ _
  generalize w1.alloc (.cells #[.pointer none, .slice none 0 0] 40) = V1 at *
  have hbV : Below V1.heap.size V1 (V1.alloc (.cells #[.string (B8 Num.mostW)] 9)) := balloc _ _
  have hBV : Below w.heap.size w V1 := hB1.trans (hBb.mono (by omega))
  have hbW : Below w.heap.size w (V1.alloc (.cells #[.string (B8 Num.mostW)] 9)) := hBV.trans (hbV.mono (by omega))
  refine (written_any (w1.heap.size + 1) (some ⟨w1.heap.size + 1, 0, none⟩) 1 1 [Num.mostW] ca cl cc p.costs _ (ownsRow_new hs1.symm Num.mostW (by omega)) (by simp; omega) (HC.out.below hbW (Nat.le_refl _)) (by
      intro b off h1 e h
      rcases HC.out.2 with h0 | ⟨b2, off2, e2, hb2, _⟩
      · omega
      · rw [e] at e2
        have := Option.some.inj e2
        simp only [Addr.mk.injEq] at this
        have h : b = w1.heap.size + 1 := by simpa [Value.ownBlock] using h
        omega) (by omega) (by omega) (by
      intro j hj
      have := may_costs p HM.out (p.costs[j]?.getD 0) (by rw [List.getElem?_eq_getElem (by have := HCL.out; omega)]; exact List.getElem_mem _)
      omega) (fun w' h => tab_later HT.out (hbW.trans (h.mono (by omega))))).mono ?_
  rintro e w2 ⟨va, vc, rfl, ho2, _, hb2⟩
  have hbV2 : Below V1.heap.size V1 w2 := hbV.trans (by rw [hs1]; exact hb2)
  have HO2 : Hid (w2.ownsRow (w1.heap.size + 1) 9 1 (.slice va (1 + cl) vc) (1 + cl) (strs (Num.headW p.costs))) := ho2
  have HI2 : Hid (Lib.IsBuilderF 40 5 w1.heap.size w1.heap.size (Lib.byteCells []) w2) := builder_later HI0.out hbV2
  have HB2 : Hid (Below w1.heap.size w1 w2) := hBb.trans (hbV2.mono (by omega))
  clear ho2 hb2 hbW hbV
  go_wp2_with fail
  refine (tput_any w1.heap.size w1.heap.size [] va (1 + cl) vc (Num.headW p.costs) _ w2 HI2.out (by have := HB2.out.size; omega) HO2.out (by omega) (by omega) (by simp) (by have := head_len p HM.out; omega)).mono ?_
  rintro e w3 ⟨rfl, hI3, hb3, _⟩
  have HI3 : Hid (Lib.IsBuilderF 40 5 w1.heap.size w1.heap.size (Lib.byteCells (upTo p 0)) w3) := by rw [upTo_zero]; exact hI3
  have HB3 : Hid (Below w1.heap.size w1 w3) := HB2.out.trans hb3
  have r0 : w3.cell? ⟨w.heap.size, 1, none⟩ = some (.slice ra rl rc) := carry HB3.out k1
  clear hI3 hb3 hbV2 hBV
  go_wp2_with fail
  go_loopw [22] (fun i wr => ∃ k : Nat, k ≤ rl ∧ i = .int .i64 k ∧ Lib.IsBuilderF 40 5 w1.heap.size w1.heap.size (Lib.byteCells (upTo p k)) wr ∧ Below w1.heap.size w1 wr) (fun i _ => rl - (intOf i).toNat)
  case atStart => exact ⟨0, Nat.zero_le _, rfl, HI3.out, HB3.out⟩
  case round =>
    obtain ⟨k, hk, rfl, hI, hbl⟩ := hrel
    have HI : Hid (Lib.IsBuilderF 40 5 w1.heap.size w1.heap.size (Lib.byteCells (upTo p k)) wr) := hI
    clear hI
    have hbw : Below w.heap.size w wr := hB1.trans (hbl.mono (by omega))
    by_cases hlt : k < rl
    · rcases HR.out.2 with h0 | ⟨b, off, hra, hbs, hrc⟩
      · omega
      obtain ⟨xa, xl, xc, c0, c1, hxi, hxl⟩ := hrc k hlt
      rw [← (bcell hbw).1 b _ hbs] at c0 c1
      have HXI : Hid (Ints wr xa xl (p.rows[k]?.getD ([], 0)).1) := hxi.below hbw (Nat.le_refl _)
      have hmem : p.rows[k]?.getD ([], 0) ∈ p.rows := by rw [List.getElem?_eq_getElem (by have := HRL.out; omega)]; exact List.getElem_mem _
      obtain ⟨hl1, hl2, hl3⟩ := may_row p HM.out _ hmem
      have HRLN : Hid ((Num.joinW 32 (Num.rowW (p.rows[k]?.getD ([], 0)))).length ≤ 100) := row_len p HM.out _ hmem
      generalize hrow : p.rows[k]?.getD ([], 0) = row at *
      have HROW : Hid (p.rows[k]?.getD ([], 0) = row) := hrow
      obtain ⟨o, m⟩ := row
      have HXLO : Hid (xl = o.length) := HXI.out.1
      have hl1' : o.length = p.costs.length := hl1
      have hx4 : xl ≤ 4 := by have := HCL.out; have := HXLO.out; omega
      clear hl1'
      have HL2 : Hid (∀ n ∈ o, -12 ≤ n ∧ n ≤ 12) := hl2
      have HM2 : Hid (-12 ≤ m ∧ m ≤ 12) := hl3
      subst hra
      have hxw : xl = 0 ∨ ∃ b2 off2, xa = some ⟨b2, off2, none⟩ ∧ b2 < w.heap.size := by
        rcases hxi.2 with h | ⟨b2, off2, e2, hb2, _⟩
        · exact Or.inl h
        · exact Or.inr ⟨b2, off2, e2, hb2⟩
      have HXW : Hid (xl = 0 ∨ ∃ b2 off2, xa = some ⟨b2, off2, none⟩ ∧ b2 < w.heap.size) := hxw
      have hbr : b < wr.heap.size := by have := hbw.size; omega
      clear hrc hmem hl1 hl2 hl3 hrow hxi hxw k0 k1 r0
      have hsr : (wr.alloc (.cells #[.slice xa xl xc, .int .i64 m] 51)).heap.size = wr.heap.size + 1 := by simp
      have hbr1 : Below wr.heap.size wr (wr.alloc (.cells #[.slice xa xl xc, .int .i64 m] 51)) := balloc _ _
      go_wp2_with fail
      have q1 : (wr.alloc (.cells #[.slice xa xl xc, .int .i64 m] 51)).cell? ⟨wr.heap.size, 1, none⟩ = some (.int .i64 m) := (cell_new2 rfl _ _ _).2
      have hq0 : (wr.alloc (.cells #[.slice xa xl xc, .int .i64 m] 51)).heap[wr.heap.size]? = some (.cells #[.slice xa xl xc, .int .i64 m] 51 (0, 0)) := heap_new rfl _
      generalize wr.alloc (.cells #[.slice xa xl xc, .int .i64 m] 51) = V at *
      have hbV : Below w.heap.size w V := hbw.trans (hbr1.mono (by have := hbw.size; omega))
      refine (written_any (wr.heap.size + 1) none 0 0 [] xa xl xc o V (World.ownsRow_nil _ _ _ _) (by omega) (HXI.out.below hbr1 (Nat.le_refl _)) (by intro b off _ _ h; cases h) (by omega) (by omega) (by
        intro j hj
        have := HL2.out (o[j]?.getD 0) (by rw [List.getElem?_eq_getElem (by have := HXLO.out; omega)]; exact List.getElem_mem _)
        omega) (fun w' h => tab_later HT.out (hbV.trans (h.mono (by have := hbw.size; omega))))).mono ?_
      rintro e w4 ⟨oa, oc, rfl, ho4, _, hb4⟩
      simp only [Nat.zero_add, List.nil_append] at ho4 ⊢
      have HO4 : Hid (w4.ownsRow (wr.heap.size + 1) 9 1 (.slice oa xl oc) xl (strs (o.map Num.digI))) := ho4
      have hbV4 : Below V.heap.size V w4 := by rw [hsr]; exact hb4
      have q4 : w4.cell? ⟨wr.heap.size, 1, none⟩ = some (.int .i64 m) := carry hbV4 q1
      have hs4 : wr.heap.size < w4.heap.size := by have := hbV4.size; omega
      have HI4 : Hid (Lib.IsBuilderF 40 5 w1.heap.size w1.heap.size (Lib.byteCells (upTo p k)) w4) := builder_later (builder_later HI.out hbr1) hbV4
      have hSP : SPt w1.heap.size w1 wr.heap.size #[.slice xa xl xc, .int .i64 m] w4 := SPt.below ⟨hbl.trans (hbr1.mono hbl.size), Nat.le_refl _, hq0⟩ hbV4
      have q5 : ∀ w', SPt w1.heap.size w1 wr.heap.size #[.slice xa xl xc, .int .i64 m] w' → w'.cell? ⟨wr.heap.size, 1, none⟩ = some (.int .i64 m) := fun w' h => h.cell
      have HOV : Hid (∀ W, Below w4.heap.size w4 W → W.ownsRow (wr.heap.size + 1) 9 1 (.slice oa xl oc) xl (strs (o.map Num.digI))) := fun W h => World.ownsRow.kept (row := none) HO4.out ⟨h.os, h.tape, h.output, h.size, fun k hk _ => h.block k hk⟩ (by cases (Value.slice oa xl oc).ownBlock <;> simp)
      have HONE : Hid (∀ u ∈ [Value.string (B8 Num.leW)], u.oneCell' = true) := by intro u hu; simp at hu; subst hu; rfl
      have hwrs : w1.heap.size < wr.heap.size := by rcases HI.out with h | h <;> exact h.lt
      have HW : Hid (∀ W w5 g cap, Below w4.heap.size w4 W → W.grownBy w5 (Value.slice oa xl oc).ownBlock → w5.ownsRow (wr.heap.size + 1) 9 1 (.slice (some ⟨g, 0, none⟩) (xl + 1) cap) (xl + 1) (strs (o.map Num.digI) ++ [.string (B8 Num.leW)]) →
          SPt w1.heap.size w1 wr.heap.size #[.slice xa xl xc, .int .i64 m] w5 ∧ (∀ nb, w4.heap.size ≤ nb → nb < W.heap.size → Ints W (some ⟨nb, 0, none⟩) 1 [m] → Ints w5 (some ⟨nb, 0, none⟩) 1 [m]) ∧
          (∀ W' nb, Below w5.heap.size w5 W' → Ints W' (some ⟨nb, 0, none⟩) 1 [m] → nb ≠ g → Calls Tryd.prog 18 #[.slice (some ⟨g, 0, none⟩) (xl + 1) cap, .slice (some ⟨nb, 0, none⟩) 1 1] W' fun e w6 => ∃ va' vc', e = .returned (.slice va' (xl + 1 + 1) vc') ∧ Ready w1.heap.size w1 wr.heap.size #[.slice xa xl xc, .int .i64 m] (wr.heap.size + 1) (upTo p k) (Num.rowW (o, m)) (xl + 1 + 1) va' vc' w6)) := by
        intro W w5 g cap hW hg ho
        have hfar : ∀ j, (Value.slice oa xl oc).ownBlock = some j → wr.heap.size + 1 ≤ j ∧ j < w4.heap.size := fun j hj => World.ownsRow.lt HO4.out j hj
        have hWs := hW.size
        have hBW : Below w4.heap.size w4 W := hW
        have hb5 : Below (wr.heap.size + 1) V w5 := Below.grown ((hbV4.mono (by omega)).trans (hW.mono (by omega))) hg (by omega) (fun j hj => (hfar j hj).1)
        have hb5' : Below V.heap.size V w5 := by rw [hsr]; exact hb5
        have hSP5 : SPt w1.heap.size w1 wr.heap.size #[.slice xa xl xc, .int .i64 m] w5 := SPt.below ⟨hbl.trans (hbr1.mono hbl.size), Nat.le_refl _, hq0⟩ hb5'
        have hI5 := builder_later (builder_later HI.out hbr1) hb5'
        refine ⟨hSP5, fun nb h1 h2 hi => hi.grownAny hg (fun b off e h => ?_), fun W' nb hW' hi hnb => ?_⟩
        · have e := Option.some.inj e
          simp only [Addr.mk.injEq] at e
          have := hfar b h.symm
          omega
        · refine (written_any (wr.heap.size + 1) (some ⟨g, 0, none⟩) (xl + 1) cap (o.map Num.digI ++ [Num.leW]) (some ⟨nb, 0, none⟩) 1 1 [m] W' (by
              rw [strs_append]
              exact World.ownsRow.kept (row := none) ho ⟨hW'.os, hW'.tape, hW'.output, hW'.size, fun k hk _ => hW'.block k hk⟩ (by simp [Value.ownBlock])) (by have := hW'.size; have := hb5.size; omega) hi (by
              intro b off _ e h
              have e := Option.some.inj e
              simp only [Addr.mk.injEq] at e
              have h : b = g := by simpa [Value.ownBlock] using h
              omega) (by omega) (by omega) (by
              intro j hj
              have : j = 0 := by omega
              subst this
              have := HM2.out
              show -1000000 ≤ m ∧ m ≤ 1000000
              omega) (fun w' h => tab_later HT.out ((hbV.trans (hb5'.mono (by omega))).trans ((hW'.mono (by have := hb5.size; omega)).trans (h.mono (by omega)))))).mono ?_
          rintro e w6 ⟨va', vc', rfl, ho6, _, hb6⟩
          have hb6' : Below V.heap.size V w6 := hb5'.trans ((hW'.mono hb5'.size).trans (by rw [hsr]; exact hb6))
          refine ⟨va', vc', rfl, ?_, builder_later (builder_later HI.out hbr1) hb6', SPt.below ⟨hbl.trans (hbr1.mono hbl.size), Nat.le_refl _, hq0⟩ hb6'⟩
          have e : Num.rowW (o, m) = o.map Num.digI ++ [Num.leW] ++ [m].map Num.digI := by unfold Num.rowW; simp
          rw [e]
          exact ho6
      have HP : Hid (∀ w6 va' vc', Ready w1.heap.size w1 wr.heap.size #[.slice xa xl xc, .int .i64 m] (wr.heap.size + 1) (upTo p k) (Num.rowW (o, m)) (xl + 1 + 1) va' vc' w6 → Calls Tryd.prog 14 #[.slice va' (xl + 1 + 1) vc', .pointer (some ⟨w1.heap.size, 0, none⟩)] w6 fun e w7 => e = .returned (.tuple #[]) ∧ SPt w1.heap.size w1 wr.heap.size #[.slice xa xl xc, .int .i64 m] w7 ∧ Lib.IsBuilderF 40 5 w1.heap.size w1.heap.size (Lib.byteCells (upTo p (k + 1))) w7) := by
        intro w6 va' vc' ⟨ho6, hI6, hS6⟩
        refine (tput_any w1.heap.size w1.heap.size (upTo p k) va' (xl + 1 + 1) vc' (Num.rowW (o, m)) _ w6 hI6 hS6.1.size ho6 (by omega) (by omega) (by have := upTo_len p HM.out k (by have := HRL.out; omega); omega) (by have := HRLN.out; omega)).mono ?_
        rintro e w7 ⟨rfl, hI7, hb7, hk7⟩
        refine ⟨rfl, ⟨hS6.1.trans hb7, hS6.2.1, hk7 _ _ hS6.2.2 (by intro e; have := Option.some.inj e; omega) (by intro c fz e; cases e)⟩, ?_⟩
        rw [upTo_succ p k (by have := HRL.out; omega), HROW.out]
        exact hI7
      clear ho4 hb4 c0 c1 q1 q4
      go_wp2_with fail
      go_region_held3 (fun w' => SPt w1.heap.size w1 wr.heap.size #[.slice xa xl xc, .int .i64 m] w') (first | (with_reducible assumption) | (with_reducible exact SPt.drew hSP) | (with_reducible exact SPt.alloc (SPt.drew hSP) _) | (repeat (first | (with_reducible assumption) | apply SPt.drew | apply SPt.alloc)))
        (first
          | (refine step_append_lies _ (by rfl) (.tmp 30) (.tmp 31) 41 (by rfl) (wr.heap.size + 1) 9 i0 (.string ⟨#[]⟩) 1 16 Tryd.underlying41 hif hz0 hz1 hz2 (by rfl) (by decide) (.slice oa xl oc) xl (strs (o.map Num.digI)) (by rfl) (HOV.out _ (balloc _ _).drew) ⟨w4.heap.size, 0, none⟩ 1 1 [.string (B8 Num.leW)] (by rfl) (by rfl) (news_one rfl _ _) HONE.out (by decide) (by unfold maxLen; omega) (by omega) (by simp; omega) (w4.heap.size + 1) (by simp) ?_; intro g cap w5 ho5 hg5 hat5 hlt5; obtain ⟨hS5, KI, KW0⟩ := HW.out _ w5 g cap (balloc _ _).drew hg5 ho5; have KW := Lib.hid KW0; clear ho5 hg5 KW0 KI)
          | (refine step_append_lies _ (by rfl) (.tmp 30) (.tmp 31) 41 (by rfl) (wr.heap.size + 1) 9 i0 (.string ⟨#[]⟩) 1 16 Tryd.underlying41 hif hz0 hz1 hz2 (by rfl) (by decide) (.slice oa xl oc) xl (strs (o.map Num.digI)) (by rfl) (HOV.out _ ((balloc _ _).alloc (by simp) _).drew) ⟨w4.heap.size, 0, none⟩ 1 1 [.string (B8 Num.leW)] (by rfl) (by rfl) news_le2 HONE.out (by decide) (by unfold maxLen; omega) (by omega) (by simp; omega) (w4.heap.size + 1 + 1) (by simp) ?_; intro g cap w5 ho5 hg5 hat5 hlt5; obtain ⟨hS5, KI, KW0⟩ := HW.out _ w5 g cap ((balloc _ _).alloc (by simp) _).drew hg5 ho5; have KW := Lib.hid KW0; have hng : w4.heap.size + 1 ≠ g := (by rcases hat5 with h | h; (have := (World.ownsRow.lt HO4.out g h).2; omega); omega); have I5 := KI (w4.heap.size + 1) (by omega) (by simp) ints_two2; clear ho5 hg5 KW0 KI)
          | (refine step_append_lies _ (by rfl) (.tmp 30) (.tmp 31) 41 (by rfl) (wr.heap.size + 1) 9 i0 (.string ⟨#[]⟩) 1 16 Tryd.underlying41 hif hz0 hz1 hz2 (by rfl) (by decide) (.slice oa xl oc) xl (strs (o.map Num.digI)) (by rfl) (HOV.out _ ((balloc _ _).alloc (by simp) _).drew) ⟨w4.heap.size + 1, 0, none⟩ 1 1 [.string (B8 Num.leW)] (by rfl) (by rfl) news_le3 HONE.out (by decide) (by unfold maxLen; omega) (by omega) (by simp; omega) (w4.heap.size + 1 + 1) (by simp) ?_; intro g cap w5 ho5 hg5 hat5 hlt5; obtain ⟨hS5, KI, KW0⟩ := HW.out _ w5 g cap ((balloc _ _).alloc (by simp) _).drew hg5 ho5; have KW := Lib.hid KW0; have hng : w4.heap.size ≠ g := (by rcases hat5 with h | h; (have := (World.ownsRow.lt HO4.out g h).2; omega); omega); have I5 := KI (w4.heap.size) (by omega) (by simp; omega) ints_two3; clear ho5 hg5 KW0 KI)
          | (go_at_call 18; refine (KW.out _ _ (by first | (with_reducible exact Below.refl _ _) | (with_reducible exact balloc _ _)) (by first | (with_reducible assumption) | (with_reducible exact Ints.newAt rfl _ _)) (by first | (with_reducible assumption) | omega)).mono ?_; rintro e w6 ⟨va', vc', rfl, hR6⟩; have hS6 := hR6.2.2)
          | (go_at_call 14; refine (HP.out _ _ _ (by assumption)).mono ?_; rintro e w7 ⟨rfl, hS7, hI7⟩))
      all_goals (clear q5)
      all_goals go_wp2_with fail
      all_goals go_roundw
      all_goals first
        | (simp [intOf]; omega)
        | exact ⟨k + 1, by omega, by go_num, hI7, hS7.1⟩
    · have hke : k = rl := by omega
      subst hke
      go_wp2_with fail
      refine (Tryd.Builder_String_any_k w1.heap.size w1.heap.size (upTo p k) wr HI.out hbl.size).mono ?_
      rintro e w5 ⟨rfl, _, hb5, _⟩
      have HB5 : Hid (Below w.heap.size w w5) := hbw.trans (hb5.mono (by omega))
      have E : Hid (upTo p k = Num.textW p) := show _ = _ by rw [HRL.out]; exact upTo_all p
      clear hb5
      go_wp2_with fail
      go_ret2
      refine ⟨?_, HB5.out⟩
      rw [← E.out]
      rfl

theorem print_not (ca : Option Addr) (cl cc : Nat) (ra : Option Addr) (rl rc : Nat) (p : Num.Lp) (w : World) (hc : Ints w ca cl p.costs) (hcl : cl ≤ 9223372036854775807) (hr : RowsAt w ra rl p.rows) (hrl : rl ≤ 9223372036854775807) (hm : p.may = false) :
    Calls Tryd.prog 7 #[.agg #[.slice ca cl cc, .slice ra rl rc]] w fun e w' => e = .returned (.tuple #[.string (B8 []), .int .i64 2]) ∧ Below w.heap.size w w' := by
  have HC : Hid (Ints w ca cl p.costs) := hc
  have HR : Hid (RowsAt w ra rl p.rows) := hr
  clear hc hr
  go_enter Tryd.func7, Tryd.ntmps7
  go_wp2_with fail
  refine (lmay_any ca cl cc ra rl rc p _ (HC.out.below (balloc _ _) (Nat.le_refl _)) hcl (HR.out.below (balloc _ _) (Nat.le_refl _)) hrl).mono ?_
  rintro e w1 ⟨rfl, hb1⟩
  rw [hm]
  have hB1 : Below w.heap.size w w1 := binto hb1
  clear hb1
  go_wp2_with fail
  go_ret2
  exact ⟨rfl, hB1⟩

end Go.Proofs.YtipcbhodlgoflabDoor
