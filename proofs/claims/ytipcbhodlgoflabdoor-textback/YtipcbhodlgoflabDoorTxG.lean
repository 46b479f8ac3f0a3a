/- The document's Digits and Text (chapter 9). -/
import Derived.Test.YtipcbhodlgoflabDoorTxF
import Derived.Test.YtipcbhodlgoflabDoorTxB
import Derived.Laws.IdiomStrings
namespace Go.Proofs.YtipcbhodlgoflabDoor
open Go.RowKit

theorem convert_one (w : World) (c : UInt8) (x : Int) (hx : x = (c.toNat : Int)) :
    (convert 38 9 (.slice (some ⟨w.heap.size, 0, none⟩) 1 1)).run Tryd.prog (w.alloc (.cells #[.int .u8 x] 5)) = .ok (.string (B8 [c])) (w.alloc (.cells #[.int .u8 x] 5)) :=
  run_convert_bytes_back (P := Tryd.prog) (w.alloc (.cells #[.int .u8 x] 5)) 38 9 5 ⟨w.heap.size, 0, none⟩ 1 [c] Tryd.underlying38 Tryd.underlying5 Tryd.underlying9 (fun j hj => by
    have : j = 0 := by simp at hj; omega
    subst this
    subst hx
    exact cell_new1 rfl _ _)

set_option maxRecDepth 8000 in
set_option maxHeartbeats 800000 in
theorem digitsN_any : ∀ (k n : Nat), n < k → n ≤ 9223372036854775807 → ∀ w : World,
    Calls Tryd.prog 20 #[.int .i64 n] w fun e w' => e = .returned (.string (B8 (Num.digN n))) ∧ Below w.heap.size w w' := by
  intro k
  induction k with
  | zero => intro n h; omega
  | succ k ih =>
    intro n hk hn w
    have h0 : ¬ ((n : Int) < 0) := by omega
    have hc : (48 : Int) + (n : Int) % 10 = ((UInt8.ofNat (48 + n % 10)).toNat : Int) := by rw [Num.of_dig _ (by omega)]; omega
    have hcv := convert_one w (UInt8.ofNat (48 + n % 10)) _ hc
    have HIH : Hid _ := ih
    clear hc ih
    by_cases h10 : n < 10
    · have h10' : (n : Int) < 10 := by omega
      have E : Hid (B8 [UInt8.ofNat (48 + n % 10)] = B8 (Num.digN n)) := show _ = _ by rw [Num.digN_small n h10, Nat.mod_eq_of_lt h10]
      generalize B8 [UInt8.ofNat (48 + n % 10)] = S at hcv E
      go_enter Tryd.func20, Tryd.ntmps20
      go_wp2_with fail
      go_ret
      exact ⟨by rw [← E.out]; rfl, balloc _ _⟩
    · have h10' : ¬ ((n : Int) < 10) := by omega
      have E : Hid (B8 (Num.digN (n / 10)) ++ B8 [UInt8.ofNat (48 + n % 10)] = B8 (Num.digN n)) := show _ = _ by rw [append_B8, ← Num.digN_step n (by omega)]
      have hs1 : (B8 (Num.digN (n / 10))).size ≤ 19 := by rw [B8_size]; exact Num.digN_len 18 (n / 10) (by omega)
      have hs2 : (B8 [UInt8.ofNat (48 + n % 10)]).size = 1 := by rw [B8_size]; rfl
      have hq : ((n : Int)).tdiv 10 = ((n / 10 : Nat) : Int) := by rw [Int.tdiv_eq_ediv_of_nonneg (by omega)]; omega
      generalize B8 [UInt8.ofNat (48 + n % 10)] = S at hcv E hs2
      go_enter Tryd.func20, Tryd.ntmps20
      go_wp2_with fail
      rw [show (n : Int) / 10 = ((n / 10 : Nat) : Int) by omega]
      refine (HIH.out (n / 10) (by omega) (by omega) _).mono ?_
      rintro e w2 ⟨rfl, hb2⟩
      have hb : Below w.heap.size w w2 := binto hb2
      clear hb2 hcv HIH
      generalize B8 (Num.digN (n / 10)) = T at hs1 E
      go_wp2_with fail
      go_ret
      exact ⟨by rw [← E.out]; rfl, hb⟩

set_option maxRecDepth 8000 in
set_option maxHeartbeats 800000 in
theorem digits_any (n : Int) (hn : -1099511627776 ≤ n ∧ n ≤ 1099511627776) (w : World) :
    Calls Tryd.prog 20 #[.int .i64 n] w fun e w' => e = .returned (.string (B8 (Num.digI n))) ∧ Below w.heap.size w w' := by
  by_cases h : n < 0
  · have E : Hid (B8 [45] ++ B8 (Num.digN n.natAbs) = B8 (Num.digI n)) := show _ = _ by rw [append_B8]; unfold Num.digI; rw [if_pos h]; rfl
    have hs1 : (B8 (Num.digN n.natAbs)).size ≤ 19 := by rw [B8_size]; exact Num.digN_len 18 n.natAbs (by omega)
    go_enter Tryd.func20, Tryd.ntmps20
    go_wp2_with fail
    rw [show -n = ((n.natAbs : Nat) : Int) by omega]
    refine (digitsN_any (n.natAbs + 1) n.natAbs (by omega) (by omega) w).mono ?_
    rintro e w2 ⟨rfl, hb2⟩
    generalize B8 (Num.digN n.natAbs) = T at hs1 E
    go_wp2_with fail
    go_ret
    exact ⟨by rw [← E.out]; rfl, hb2⟩
  · have := digitsN_any (n.toNat + 1) n.toNat (by omega) (by omega) w
    rw [show ((n.toNat : Nat) : Int) = n by omega] at this
    have e : Num.digI n = Num.digN n.toNat := by unfold Num.digI; rw [if_neg h]; congr 1; omega
    rw [e]
    exact this

set_option maxRecDepth 8000 in
set_option maxHeartbeats 3200000 in
theorem rtext_may (ca : Option Addr) (cl cc : Nat) (ra : Option Addr) (rl rc : Nat) (p : Num.Lp) (w : World) (hc : Ints w ca cl p.costs) (hr : RowsAt w ra rl p.rows) (hm : p.may = true) :
    Calls Tryd.prog 9 #[.agg #[.slice ca cl cc, .slice ra rl rc]] w fun e w' => e = .returned (.string (B8 (Num.textW p))) ∧ Below w.heap.size w w' := by
  have HC : Hid (Ints w ca cl p.costs) := hc
  have HR : Hid (RowsAt w ra rl p.rows) := hr
  have HM : Hid (p.may = true) := hm
  have HCL : Hid (cl = p.costs.length) := hc.1
  have HRL : Hid (rl = p.rows.length) := hr.1
  have hc4 : cl ≤ 4 := by have := hc.1; have := (p.may_of hm).1; omega
  have hr4 : rl ≤ 4 := by have := hr.1; have := (p.may_of hm).2.2.1; omega
  clear hc hr hm
  go_enter Tryd.func9, Tryd.ntmps9
  go_wp2_with fail
  have hsV : (w.alloc (.cells #[.slice ca cl cc, .slice ra rl rc] 25)).heap.size = w.heap.size + 1 := by simp
  have hbV : Below w.heap.size w (w.alloc (.cells #[.slice ca cl cc, .slice ra rl rc] 25)) := balloc _ _
  have k0 := (cell_new2 (w := w) rfl (.slice ca cl cc) (.slice ra rl rc) 25).1
  have k1 := (cell_new2 (w := w) rfl (.slice ca cl cc) (.slice ra rl rc) 25).2
  generalize w.alloc (.cells #[.slice ca cl cc, .slice ra rl rc] 25) = V at *
  have HV : Hid (∀ wr, Below V.heap.size V wr → wr.cell? ⟨w.heap.size, 0, none⟩ = some (.slice ca cl cc) ∧ wr.cell? ⟨w.heap.size, 1, none⟩ = some (.slice ra rl rc) ∧ Below w.heap.size w wr ∧ w.heap.size < wr.heap.size) := fun wr h => ⟨carry h k0, carry h k1, hbV.trans (h.mono (by omega)), by have := h.size; omega⟩
  clear k0 k1 hbV
  go_loopw [3, 4] (fun s i wr => ∃ (k : Nat) (t : List UInt8), k ≤ cl ∧ i = .int .i64 k ∧ s = .string (B8 t) ∧ t = Num.mostW ++ Num.flatW (p.costs.take k) ∧ t.length ≤ 4 + 8 * k ∧ Below V.heap.size V wr) (fun _ i _ => cl - (intOf i).toNat)
  case atStart => exact ⟨0, Num.mostW, Nat.zero_le _, rfl, rfl, rfl, Nat.le_refl _, Below.refl _ _⟩
  case round =>
    obtain ⟨k, t, hk, rfl, rfl, ht, htl, hbl⟩ := hrel
    have HTT : Hid (t = Num.mostW ++ Num.flatW (p.costs.take k)) := ht
    have HTL : Hid (t.length ≤ 4 + 8 * k) := htl
    have hS : (B8 t).size ≤ 4 + 8 * k := by rw [B8_size]; exact htl
    obtain ⟨c0, c1, hB, hlt1⟩ := HV.out wr hbl
    clear ht htl
    by_cases hlt : k < cl
    · have hkl : k < p.costs.length := by have := HCL.out; omega
      have hcell : ∃ b off, ca = some ⟨b, off, none⟩ ∧ b < w.heap.size ∧ wr.cell? ⟨b, off + k, none⟩ = some (.int .i64 (p.costs[k]?.getD 0)) := by
        rcases HC.out.2 with h | ⟨b, off, e, hb, hc⟩
        · omega
        · exact ⟨b, off, e, hb, by rw [(bcell hB).1 b _ hb]; exact hc k hlt⟩
      obtain ⟨b, off, rfl, hbs, ck⟩ := hcell
      have hx := may_costs p HM.out (p.costs[k]?.getD 0) (by rw [List.getElem?_eq_getElem hkl]; exact List.getElem_mem _)
      have HFT : Hid (Num.flatW (p.costs.take (k + 1)) = Num.flatW (p.costs.take k) ++ (32 :: Num.digI (p.costs[k]?.getD 0))) := Num.flat_take p.costs k hkl
      generalize p.costs[k]?.getD 0 = x at ck hx HFT
      have HX : Hid (-400 ≤ x ∧ x ≤ 400) := hx
      have hdl := dig_len x (by omega)
      clear hx
      have hap : B8 t ++ (ByteArray.mk #[32]) = B8 (t ++ [32]) := append_B8 t [32]
      have hS1 : (B8 (t ++ [32])).size ≤ 5 + 8 * k := by rw [B8_size, List.length_append]; have := HTL.out; show _ + 1 ≤ _; omega
      go_wp2_with fail
      refine (digits_any x (by have := HX.out; omega) wr).mono ?_
      rintro e w2 ⟨rfl, hb2⟩
      have hbl2 : Below V.heap.size V w2 := hbl.trans (hb2.mono hbl.size)
      have hs2 : (B8 (Num.digI x)).size ≤ 7 := by rw [B8_size]; exact hdl
      have hap2 : B8 (t ++ [32]) ++ B8 (Num.digI x) = B8 (t ++ (32 :: Num.digI x)) := by rw [append_B8]; simp
      clear hap hb2
      go_wp2_with fail
      go_roundw
      case rel => exact ⟨k + 1, t ++ (32 :: Num.digI x), by omega, by go_num, rfl, by rw [HFT.out, HTT.out, List.append_assoc], by rw [List.length_append, List.length_cons]; have := HTL.out; omega, hbl2⟩
      case measure => simp [intOf]; omega
    · have hke : k = cl := by omega
      subst hke
      have hap : B8 t ++ (ByteArray.mk #[10]) = B8 (t ++ [10]) := append_B8 t [10]
      have HT0 : Hid (t ++ [10] = upTo p 0) := show _ = _ by rw [upTo_zero, Num.join_head, HTT.out, HCL.out, List.take_length]
      have HB0 : Hid (Below V.heap.size V wr) := hbl
      go_wp2_with fail
      rw [HT0.out]
      clear hap hS c0 c1 HTT HTL HT0
      go_loopw [3, 5] (fun s i wr => ∃ (j : Nat) (t : List UInt8), j ≤ rl ∧ i = .int .i64 j ∧ s = .string (B8 t) ∧ t = upTo p j ∧ Below V.heap.size V wr) (fun _ i _ => rl - (intOf i).toNat)
      case atStart => exact ⟨0, _, Nat.zero_le _, rfl, rfl, rfl, HB0.out⟩
      case round =>
        clear hbl hB hlt1
        obtain ⟨j, t, hj, rfl, rfl, ht, hbl⟩ := hrel
        have HTT : Hid (t = upTo p j) := ht
        have htl : t.length ≤ 101 + 101 * j := by rw [ht]; exact upTo_len p HM.out j (by have := HRL.out; omega)
        have HBL : Hid (Below V.heap.size V wr) := hbl
        obtain ⟨c0, c1, hB, hlt1⟩ := HV.out wr hbl
        clear ht c0
        by_cases hjl : j < rl
        · have hjr : j < p.rows.length := by have := HRL.out; omega
          have hmem : p.rows[j]?.getD ([], 0) ∈ p.rows := by rw [List.getElem?_eq_getElem hjr]; exact List.getElem_mem _
          obtain ⟨hl1, hl2, hl3⟩ := may_row p HM.out _ hmem
          have HUP : Hid (upTo p (j + 1) = upTo p j ++ (Num.joinW 32 (Num.rowW (p.rows[j]?.getD ([], 0))) ++ [10])) := upTo_succ p j hjr
          rcases HR.out.2 with h0 | ⟨b, off, hra, hbs, hrc⟩
          · omega
          obtain ⟨xa, xl, xc, q0, q1, hxi, hxl⟩ := hrc j hjl
          generalize p.rows[j]?.getD ([], 0) = row at *
          obtain ⟨o, m⟩ := row
          have hl1' : o.length = p.costs.length := hl1
          have HXLO : Hid (xl = o.length) := hxi.1
          have hx4 : xl ≤ 4 := by have := HCL.out; have := hxi.1; omega
          have HL2 : Hid (∀ n ∈ o, -12 ≤ n ∧ n ≤ 12) := hl2
          have HM2 : Hid (-12 ≤ m ∧ m ≤ 12) := hl3
          have HXI : Hid (Ints w xa xl o) := hxi
          subst hra
          have HW : Hid (∀ W, Below V.heap.size V W → W.cell? ⟨w.heap.size, 1, none⟩ = some (.slice (some ⟨b, off, none⟩) rl rc) ∧ W.cell? ⟨b, off + j * 2, none⟩ = some (.slice xa xl xc) ∧ W.cell? ⟨b, off + j * 2 + 1, none⟩ = some (.int .i64 m) ∧ Below w.heap.size w W ∧ b < W.heap.size ∧ w.heap.size < W.heap.size) := by
            intro W h
            obtain ⟨_, d1, hBW, hlt⟩ := HV.out W h
            exact ⟨d1, by rw [(bcell hBW).1 b _ hbs]; exact q0, by rw [(bcell hBW).1 b _ hbs]; exact q1, hBW, by omega, hlt⟩
          clear hrc hmem hl1 hl1' hl2 hl3 hxi hxl q0 q1
          have htl2 : t.length ≤ 600 := by omega
          have HTL2 : Hid (t.length ≤ 600) := htl2
          clear htl htl2
          go_wp2_with fail
          go_loopw [3, 6] (fun s i wr => ∃ (e : Nat) (u : List UInt8), e ≤ xl ∧ i = .int .i64 e ∧ s = .string (B8 u) ∧ u = t ++ Num.backW (o.take e) ∧ u.length ≤ 600 + 8 * e ∧ Below V.heap.size V wr) (fun _ i _ => xl - (intOf i).toNat)
          case atStart => exact ⟨0, t, Nat.zero_le _, rfl, rfl, by simp [Num.backW], by have := HTL2.out; omega, HBL.out⟩
          case round =>
            clear hbl hB hlt1 c1
            obtain ⟨e, u, he, rfl, rfl, hu, hul, hbl⟩ := hrel
            have HUU : Hid (u = t ++ Num.backW (o.take e)) := hu
            have HUL : Hid (u.length ≤ 600 + 8 * e) := hul
            have hS : (B8 u).size ≤ 600 + 8 * e := by rw [B8_size]; exact hul
            obtain ⟨c1, d0, d1, hB, hbx, hlt1⟩ := HW.out wr hbl
            clear hu hul
            by_cases hel : e < xl
            · have hcell : ∃ b2 off2, xa = some ⟨b2, off2, none⟩ ∧ b2 < w.heap.size ∧ wr.cell? ⟨b2, off2 + e, none⟩ = some (.int .i64 (o[e]?.getD 0)) := by
                rcases HXI.out.2 with h | ⟨b2, off2, e2, hb2, hc2⟩
                · omega
                · exact ⟨b2, off2, e2, hb2, by rw [(bcell hB).1 b2 _ hb2]; exact hc2 e hel⟩
              obtain ⟨b2, off2, rfl, hb2, ck⟩ := hcell
              have heo : e < o.length := by have := HXLO.out; omega
              have hx := HL2.out (o[e]?.getD 0) (by rw [List.getElem?_eq_getElem heo]; exact List.getElem_mem _)
              have HFT : Hid (Num.backW (o.take (e + 1)) = Num.backW (o.take e) ++ (Num.digI (o[e]?.getD 0) ++ [32])) := Num.back_take o e heo
              generalize o[e]?.getD 0 = x at ck hx HFT
              have HX : Hid (-12 ≤ x ∧ x ≤ 12) := hx
              have hdl := dig_len x (by omega)
              have hb2r : b2 < wr.heap.size := by omega
              clear hx
              go_wp2_with fail
              refine (digits_any x (by have := HX.out; omega) wr).mono ?_
              rintro e' w2 ⟨rfl, hb3⟩
              have hbl2 : Below V.heap.size V w2 := hbl.trans (hb3.mono hbl.size)
              have hs2 : (B8 (Num.digI x)).size ≤ 7 := by rw [B8_size]; exact hdl
              have hap : B8 u ++ B8 (Num.digI x) = B8 (u ++ Num.digI x) := append_B8 _ _
              have hS1 : (B8 (u ++ Num.digI x)).size ≤ 607 + 8 * e := by rw [B8_size, List.length_append]; have := HUL.out; omega
              have hap2 : B8 (u ++ Num.digI x) ++ (ByteArray.mk #[32]) = B8 (u ++ (Num.digI x ++ [32])) := by
                show B8 (u ++ Num.digI x) ++ B8 [32] = _
                rw [append_B8, List.append_assoc]
              clear hb3 c1 d0 d1 ck
              go_wp2_with fail
              go_roundw
              case rel => exact ⟨e + 1, u ++ (Num.digI x ++ [32]), by omega, by go_num, rfl, by rw [HFT.out, HUU.out, List.append_assoc], by rw [List.length_append, List.length_append]; have := HUL.out; show _ + (_ + 1) ≤ _; omega, hbl2⟩
              case measure => simp [intOf]; omega
            · have hee : e = xl := by omega
              subst hee
              obtain ⟨t1, ht1⟩ : ∃ t1, u ++ [60, 61, 32] = t1 := ⟨_, rfl⟩
              have HT1 : Hid (u ++ [60, 61, 32] = t1) := ht1
              have hap : B8 u ++ (ByteArray.mk #[60, 61, 32]) = B8 t1 := by rw [← ht1]; exact append_B8 u [60, 61, 32]
              have htl1 : t1.length ≤ 700 := by rw [← ht1, List.length_append]; have := HUL.out; show _ + 3 ≤ _; omega
              have hS1 : (B8 t1).size ≤ 700 := by rw [B8_size]; exact htl1
              have hdl := dig_len m (by have := HM2.out; omega)
              clear ht1
              go_wp2_with fail
              refine (digits_any m (by have := HM2.out; omega) wr).mono ?_
              rintro e' w2 ⟨rfl, hb3⟩
              have hbl2 : Below V.heap.size V w2 := hbl.trans (hb3.mono hbl.size)
              have hs2 : (B8 (Num.digI m)).size ≤ 7 := by rw [B8_size]; exact hdl
              obtain ⟨t2, ht2⟩ : ∃ t2, t1 ++ Num.digI m = t2 := ⟨_, rfl⟩
              have hap2 : B8 t1 ++ B8 (Num.digI m) = B8 t2 := by rw [← ht2]; exact append_B8 _ _
              have hS2 : (B8 t2).size ≤ 710 := by rw [B8_size, ← ht2, List.length_append]; omega
              have hap3 : B8 t2 ++ (ByteArray.mk #[10]) = B8 (upTo p (j + 1)) := by
                show B8 t2 ++ B8 [10] = _
                rw [append_B8, HUP.out, Num.join_row, ← ht2, ← HT1.out, HUU.out, HXLO.out, List.take_length, HTT.out]
                simp [Num.leW]
              clear ht2
              clear hap hb3 c1 d0 d1
              go_wp2_with fail
              go_roundw
              case rel => exact ⟨j + 1, upTo p (j + 1), by omega, by go_num, rfl, rfl, hbl2⟩
              case measure => simp [intOf]; omega
        · have hje : j = rl := by omega
          subst hje
          have E : Hid (t = Num.textW p) := show _ = _ by rw [HTT.out, HRL.out]; exact upTo_all p
          go_wp2_with fail
          go_ret
          exact ⟨by rw [← E.out]; rfl, hB⟩

end Go.Proofs.YtipcbhodlgoflabDoor
