/- What the document's Below (chapter 3) does. -/
import Derived.Test.YtipcbhodlgoflaaGreatPlnB
import Derived.Test.YtipcbhodlgoflaaGreatLayH
import Derived.Test.YtipcbhodlgoflaaGreatLinesO
import Derived.Test.YtipcbhodlgoflaaGreatRef5A
namespace Go.Proofs.YtipcbhodlgoflaaGreat
open Go.RowKit

theorem Num.anyPos_take_succ (l : List Int) (k : Nat) (h : k < l.length) : Num.anyPos (l.take (k + 1)) = (Num.anyPos (l.take k) || decide (0 < l[k]?.getD 0)) := by
  unfold Num.anyPos
  rw [List.take_add_one, List.any_append, List.getElem?_eq_getElem h]
  simp

theorem Num.anyPos_of (l : List Int) (k : Nat) (h : k < l.length) (hn : 0 < l[k]?.getD 0) : Num.anyPos l = true := by
  rw [List.getElem?_eq_getElem h] at hn
  simp only [Option.getD_some] at hn
  unfold Num.anyPos
  rw [List.any_eq_true]
  exact ⟨_, List.getElem_mem h, by simpa using hn⟩

set_option maxHeartbeats 800000 in
theorem below3_any (a : Option Addr) (len cap : Nat) (l : List Int) (d : Int) (w : World) (hi : Ints w a len l) (hlen : len ≤ 9223372036854775807) :
    Calls Tryz.prog 23 #[.agg #[.slice a len cap, .int .i64 d]] w fun e w' => e = .returned (.bool (!Num.anyPos l)) ∧ Below w.heap.size w w' := by
  have HI : Hid (Ints w a len l) := hi
  have HL : Hid (len = l.length) := hi.1
  clear hi
  go_enter Tryz.func23, Tryz.ntmps23
  go_wp2
  have hb := balloc w (.cells #[.slice a len cap, .int .i64 d] 27)
  have e0 : (w.alloc (.cells #[.slice a len cap, .int .i64 d] 27)).cell? ⟨w.heap.size, 0, none⟩ = some (.slice a len cap) := (cell_new2 rfl _ _ _).1
  have HI2 : Hid (Ints (w.alloc (.cells #[.slice a len cap, .int .i64 d] 27)) a len l) := Ints.below HI.out hb (Nat.le_refl _)
  generalize w.alloc (.cells #[.slice a len cap, .int .i64 d] 27) = W at *
  go_loop [3] (fun i => ∃ k : Nat, k ≤ len ∧ i = .int .i64 k ∧ Num.anyPos (l.take k) = false) (fun i => len - (intOf i).toNat)
  case atStart => exact ⟨0, Nat.zero_le _, rfl, rfl⟩
  case round =>
    obtain ⟨k, hk, rfl, hw⟩ := hrel
    have HW : Hid (Num.anyPos (l.take k) = false) := hw
    clear hw
    by_cases hlt : k < len
    · rcases HI2.out.2 with h | ⟨b, off, ha, hbs, hc⟩
      · omega
      have hck := hc k hlt
      clear hc
      have hs := Num.anyPos_take_succ l k (by have := HL.out; omega)
      have hf := Num.anyPos_of l k (by have := HL.out; omega)
      generalize l[k]?.getD 0 = x at hck hs hf
      have HS : Hid _ := hs
      have HF : Hid _ := hf
      clear hs hf
      subst ha
      by_cases hx1 : 0 < x
      · go_wp2
        go_ret
        exact ⟨ret_bool (by rw [HF.out hx1]; rfl), hb⟩
      go_wp2
      go_round
      case rel => exact ⟨k + 1, by omega, by go_num, by rw [HS.out, HW.out]; simp; omega⟩
      case measure => simp [intOf]; omega
    · go_wp2
      go_ret
      have hke : k = l.length := by have := HL.out; omega
      refine ⟨ret_bool ?_, hb⟩
      have h := HW.out
      rw [hke, List.take_length] at h
      rw [h]; rfl

end Go.Proofs.YtipcbhodlgoflaaGreat

/- What the document's Below and next (chapter 3) do. -/
namespace Go.Proofs.YtipcbhodlgoflaaGreat
open Go.RowKit

set_option maxRecDepth 4000 in
set_option maxHeartbeats 3200000 in
theorem next3_any (aa : Option Addr) (m ac N : Nat) (at' : List Int) (w : World) (ha : Ints w aa m at') (h1 : 1 ≤ m) (h4 : m ≤ 4) (h8 : N ≤ 8) (hr : Num.rightB at' m N = true) :
    Calls Tryz.prog 39 #[.slice aa m ac, .int .i64 N] w fun e w' => ∃ ra rl rc, e = .returned (.slice ra rl rc) ∧ Ints w' ra rl (Num.nextC at' N) ∧ (rl = 0 ∨ ∃ g, ra = some ⟨g, 0, none⟩ ∧ w.heap.size ≤ g) ∧ Below w.heap.size w w' := by
  rcases ha.2 with h0 | ⟨b, off, hae, hb, hc⟩
  · omega
  subst hae
  have HV : Hid ((at'.map (Value.int .i64)).length = m) := by rw [List.length_map]; exact ha.1.symm
  have HC : Hid (∀ j, j < m → w.cell? ⟨b, off + j, none⟩ = (at'.map (Value.int .i64))[j]?) := by
    intro j hj
    rw [hc j hj, List.getElem?_map, List.getElem?_eq_getElem (by have := ha.1; omega)]; rfl
  have HN : Hid (m = at'.length) := ha.1
  have HAT : Hid (∀ k, k < m → 0 ≤ at'[k]?.getD 0 ∧ at'[k]?.getD 0 < N) := (Num.right_all at' m N hr).2
  have HB : Hid (∀ j : Nat, 0 ≤ at'[j]?.getD 0 ∧ at'[j]?.getD 0 ≤ 8) := by
    intro j
    by_cases hj : j < m
    · have := HAT.out j hj; omega
    · rw [List.getElem?_eq_none (by have := HN.out; omega)]; simp
  clear ha hc hr
  obtain ⟨i0, hif, hz0, hz1, hz2⟩ := info_parts Tryz.infoInt
  go_enter Tryz.func39, Tryz.ntmps39
  go_wp2_with (at_builtin; refine wpList_append_own _ rfl (.tmp 8) (.tmp 9) 41 rfl w.heap.size 3 i0 (.int .i64 0) 1 8 Tryz.underlying41 hif hz0 hz1 hz2 rfl (by decide) _ 0 [] rfl ?o1 ⟨b, off, none⟩ m ac (at'.map (Value.int .i64)) rfl ?o2 ?o3 ?o4 ?o5 ?o6 ?o7 ?_)
  case o1 => exact World.ownsRow_made w #[] 0 (Nat.le_refl _) (Nat.zero_le _) rfl
  case o2 => rw [HV.out, Nat.mul_one]
  case o3 => exact news_at (balloc _ _) hb HV.out HC.out
  case o4 => exact one_ints at'
  case o5 => unfold maxLen; omega
  case o6 => omega
  case o7 => simp
  intro v' w1 hown hgrow _
  obtain ⟨g, c, hv, hg, hn⟩ := own_some hown h1
  subst hv
  have HO : Hid (OwnI w1 w.heap.size g m c at') := hown
  have hB : Below w.heap.size w w1 := Below.grown (balloc _ _) hgrow (by simp) (fun j hj => by simp [Value.ownBlock] at hj; omega)
  clear hown hgrow
  go_wp2_with fail
  go_loopw [6] (fun i wr => ∃ k : Nat, k ≤ m ∧ i = .int .i64 ((k : Int) - 1) ∧ Num.nextC at' N = Num.nextGo at' N k ∧ OwnI wr w.heap.size g m c at' ∧ Below w.heap.size w wr) (fun i _ => (intOf i + 1).toNat)
  case atStart => exact ⟨m, Nat.le_refl _, by first | rfl | go_num, by unfold Num.nextC; rw [← HN.out], HO.out, hB⟩
  case round =>
    obtain ⟨k, hk, rfl, hnx, hO, hbl⟩ := hrel
    have HNX : Hid (Num.nextC at' N = Num.nextGo at' N k) := hnx
    have HO1 : Hid (OwnI wr w.heap.size g m c at') := hO
    clear hO hnx hB HO
    cases k with
    | zero =>
      rw [show ((0 : Nat) : Int) - 1 = -1 from rfl]
      go_wp2_with fail
      go_ret
      exact ⟨none, 0, 0, rfl, by rw [HNX.out]; exact Ints.empty _, Or.inl rfl, hbl⟩
    | succ q =>
      rw [show ((q + 1 : Nat) : Int) - 1 = (q : Int) by omega]
      have hqm : q < m := by omega
      obtain ⟨c0, f0⟩ := OwnI.cell HO1.out q hqm
      have hgl := (OwnI.lt HO1.out).2
      have hxb := HB.out q
      have HBS : Hid (at'.set q (at'[q]?.getD 0 + 1) = Num.bumpTo at' q (q + 1)) := Num.bump_start at' q (by have := HN.out; omega)
      have HGO : Hid (Num.nextGo at' N (q + 1) = if at'[q]?.getD 0 < (N : Int) - ((m : Int) - q) then Num.bumpL at' q else Num.nextGo at' N q) := by
        show Num.nextGo at' N (q + 1) = _
        rw [HN.out]; rfl
      generalize at'[q]?.getD 0 = x at *
      have hqI : (q : Int) < (m : Int) := by omega
      have w1' : wrap64 ((m : Int) - q) = (m : Int) - q := IntWalk.wrap64_in _ (by omega)
      have w2' : wrap64 ((N : Int) - ((m : Int) - q)) = (N : Int) - ((m : Int) - q) := IntWalk.wrap64_in _ (by omega)
      have w3' : wrap64 (x + 1) = x + 1 := IntWalk.wrap64_in _ (by omega)
      by_cases hcm : x < (N : Int) - ((m : Int) - q)
      · have hcd : decide (x < (N : Int) - ((m : Int) - q)) = true := decide_eq_true hcm
        have HGO2 : Hid (Num.nextC at' N = Num.bumpL at' q) := by show _ = _; rw [HNX.out, HGO.out, if_pos hcm]
        have HOS : Hid (OwnI (wr.setCell ⟨g, q, none⟩ (.int .i64 (x + 1))) w.heap.size g m c (Num.bumpTo at' q (q + 1))) := by
          have := OwnI.store HO1.out q (x + 1)
          rw [HBS.out] at this
          exact this
        have hblS : Below w.heap.size w (wr.setCell ⟨g, q, none⟩ (.int .i64 (x + 1))) := bset hbl hg _
        clear hcm HNX HGO hbl HO1
        go_wp2_with fail
        generalize wr.setCell ⟨g, q, none⟩ (.int .i64 (x + 1)) = W1 at *
        clear c0 f0 hgl
        go_loopw [7] (fun i wr => ∃ j : Nat, q + 1 ≤ j ∧ j ≤ m ∧ i = .int .i64 j ∧ OwnI wr w.heap.size g m c (Num.bumpTo at' q j) ∧ Below w.heap.size w wr) (fun i _ => m - (intOf i).toNat)
        case atStart => exact ⟨q + 1, Nat.le_refl _, by omega, by first | rfl | go_num, HOS.out, hblS⟩
        case round =>
          obtain ⟨j, hj1, hj2, rfl, hO, hbl⟩ := hrel
          have HO2 : Hid (OwnI wr w.heap.size g m c (Num.bumpTo at' q j)) := hO
          clear hO HOS hblS
          by_cases hjm : j < m
          · obtain ⟨r, rfl⟩ : ∃ r, j = r + 1 := ⟨j - 1, by omega⟩
            obtain ⟨c0, f0⟩ := OwnI.cell HO2.out r (by omega)
            obtain ⟨c1, f1⟩ := OwnI.cell HO2.out (r + 1) hjm
            have hgl := (OwnI.lt HO2.out).2
            have hyb := Num.bumpTo_bd at' q (r + 1) HB.out (by have := HN.out; omega) r
            have HST : Hid ((Num.bumpTo at' q (r + 1)).set (r + 1) ((Num.bumpTo at' q (r + 1))[r]?.getD 0 + 1) = Num.bumpTo at' q (r + 1 + 1)) := Num.bump_step at' q (r + 1) (by omega) (by have := HN.out; omega)
            generalize (Num.bumpTo at' q (r + 1))[r]?.getD 0 = y at *
            generalize (Num.bumpTo at' q (r + 1))[r + 1]?.getD 0 = z at *
            have w4' : wrap64 (y + 1) = y + 1 := IntWalk.wrap64_in _ (by omega)
            have hrI : (r : Int) < (m : Int) := by omega
            have hrI2 : (r : Int) + 1 < (m : Int) := by omega
            have HOS : Hid (OwnI (wr.setCell ⟨g, r + 1, none⟩ (.int .i64 (y + 1))) w.heap.size g m c (Num.bumpTo at' q (r + 1 + 1))) := by
              have := OwnI.store HO2.out (r + 1) (y + 1)
              rw [HST.out] at this
              exact this
            go_wp2_with fail
            go_roundw
            case rel => exact ⟨r + 1 + 1, by omega, hjm, by first | rfl | go_num | (simp; omega), HOS.out, bset hbl hg _⟩
            case measure => simp [intOf]; omega
          · have hje : j = m := by omega
            subst hje
            go_wp2_with fail
            go_ret
            refine ⟨some ⟨g, 0, none⟩, j, c, rfl, ?_, Or.inr ⟨g, rfl, hg⟩, hbl⟩
            rw [HGO2.out, ← Num.bump_end, ← HN.out]
            exact OwnI.ints HO2.out
      · have hcd : decide (x < (N : Int) - ((m : Int) - q)) = false := decide_eq_false hcm
        have HGO2 : Hid (Num.nextC at' N = Num.nextGo at' N q) := by show _ = _; rw [HNX.out, HGO.out, if_neg hcm]
        clear hcm HNX HGO
        go_wp2_with fail
        go_roundw
        case rel => exact ⟨q, by omega, by first | rfl | go_num, HGO2.out, HO1.out, hbl⟩
        case measure => simp [intOf]

end Go.Proofs.YtipcbhodlgoflaaGreat

/- What the document's All (chapter 3) does. -/
namespace Go.Proofs.YtipcbhodlgoflaaGreat
open Go.RowKit

theorem Num.firstC_succ (k : Nat) : Num.firstC (k + 1) = Num.firstC k ++ [(k : Int)] := by
  unfold Num.firstC
  rw [List.range_succ, List.map_append]
  rfl

theorem Num.firstC_len (k : Nat) : (Num.firstC k).length = k := by simp [Num.firstC]

set_option maxRecDepth 4000 in
set_option maxHeartbeats 3200000 in
theorem all3_any (ca : Option Addr) (cl cc : Nat) (ra : Option Addr) (rl rc : Nat) (w : World) (hc4 : cl ≤ 4 ∧ 1 ≤ cl) (hr4 : rl ≤ 4 ∧ 1 ≤ rl) :
    Calls Tryz.prog 20 #[.agg #[.slice ca cl cc, .slice ra rl rc]] w fun e w' => ∃ la ll lc, e = .returned (.slice la ll lc) ∧ LinesN w' la ll (Num.allC rl (cl + rl)) ∧ ll ≤ 70 ∧ Below w.heap.size w w' := by
  obtain ⟨hA70, hAr⟩ := Num.all_len rl cl hr4.2 hr4.1 hc4.2 hc4.1
  have HST : Hid ((Num.allC rl (cl + rl))[0]?.getD [] = Num.firstC rl) := Num.all_start rl cl hr4.2 hr4.1 hc4.2 hc4.1
  have HNX : Hid (∀ q, q < (Num.allC rl (cl + rl)).length → (Num.allC rl (cl + rl))[q]?.getD [] ≠ [] ∧ Num.nextC ((Num.allC rl (cl + rl))[q]?.getD []) (cl + rl) = (Num.allC rl (cl + rl))[q + 1]?.getD []) := Num.all_next rl cl hr4.2 hr4.1 hc4.2 hc4.1
  have HRT : Hid (∀ q, q < (Num.allC rl (cl + rl)).length → Num.rightB ((Num.allC rl (cl + rl))[q]?.getD []) rl (cl + rl) = true) := fun q hq => by
    rw [List.getElem?_eq_getElem hq]
    exact hAr _ (List.getElem_mem _)
  clear hAr
  generalize Num.allC rl (cl + rl) = A at *
  obtain ⟨i0, hif, hz0, hz1, hz2⟩ := info_parts Tryz.infoInt
  obtain ⟨j0, hjf, hy0, hy1, hy2⟩ := info_parts Tryz.infoSlI
  have HBV : Hid (∀ w', Below (w.alloc (.cells #[.slice ca cl cc, .slice ra rl rc] 25)).heap.size (w.alloc (.cells #[.slice ca cl cc, .slice ra rl rc] 25)) w' → (w'.cell? ⟨w.heap.size, 0, none⟩ = some (.slice ca cl cc) ∧ w'.cell? ⟨w.heap.size, 1, none⟩ = some (.slice ra rl rc)) ∧ Below w.heap.size w w' ∧ w.heap.size < w'.heap.size) := fun w' h => ⟨(kept2 h).1, binto h, by have := h.size; simp at this; omega⟩
  go_enter Tryz.func20, Tryz.ntmps20
  go_wp2_with fail
  generalize hV : w.alloc (.cells #[.slice ca cl cc, .slice ra rl rc] 25) = V at *
  clear hV
  go_loopw [4, 5] (fun v i wr => ∃ k : Nat, k ≤ rl ∧ i = .int .i64 k ∧ RowI wr V.heap.size v (Num.firstC k) ∧ Below V.heap.size V wr) (fun _ i _ => rl - (intOf i).toNat)
  case atStart => exact ⟨0, Nat.zero_le _, rfl, RowI.nil _ _, Below.refl _ _⟩
  case round =>
    obtain ⟨k, hk, rfl, hR, hbl⟩ := hrel
    obtain ⟨⟨b0, b1⟩, hB, hz⟩ := HBV.out wr hbl
    have HR : Hid (RowI wr V.heap.size _ (Num.firstC k)) := hR
    obtain ⟨va, vc, hv, hvc, hiv, hfv⟩ := hR.ints
    have hlen := Num.firstC_len k
    have hVs : V.heap.size ≤ wr.heap.size := hbl.size
    clear hR
    subst hv
    by_cases hlt : k < rl
    · have HR0 : Hid (RowI (wr.alloc (.cells #[.int .i64 k] 3)) V.heap.size _ (Num.firstC k)) := RowI.kept HR.out (balloc _ _)
      clear hiv hfv hvc
      have hlen4 : (Num.firstC k).length ≤ 4 := by omega
      clear hlen
      go_wp2_with (at_builtin; refine wpList_append_own _ rfl (.tmp 13) (.tmp 15) 41 rfl V.heap.size 3 i0 (.int .i64 0) 1 8 Tryz.underlying41 hif hz0 hz1 hz2 rfl (by decide) _ (Num.firstC k).length ((Num.firstC k).map (Value.int .i64)) rfl HR0.out ⟨wr.heap.size, 0, none⟩ 1 1 [.int .i64 k] rfl rfl ?o3 ?o4 ?o5 ?o6 ?o7 ?_)
      try (case o3 => first | exact news_one rfl _ _ | exact news_one' rfl _ _)
      try (case o4 => first | rfl | (intro u hu; simp at hu; subst hu; rfl))
      try (case o5 => unfold maxLen; omega)
      try (case o6 => omega)
      try (case o7 => first | omega | (simp; done) | (simp; omega))
      intro v1 w1 ho hg _
      have HR1 : Hid (RowI w1 V.heap.size v1 (Num.firstC (k + 1))) := by rw [Num.firstC_succ]; exact RowI.push (by simpa using ho)
      have hB1 : Below V.heap.size V w1 := Below.grown (bstep hbl (balloc _ _)) hg (by simp; omega) (fun j hj => (own_lt HR0.out j (by simpa using hj)).1)
      clear ho hg HR0
      obtain ⟨ta, tc, hte, _⟩ := HR1.out.ints
      subst hte
      go_wp2_with fail
      go_roundw
      case rel => exact ⟨k + 1, hlt, by go_num, HR1.out, hB1⟩
      case measure => simp [intOf]; omega
    · have hke : k = rl := by omega
      subst hke
      rw [hlen] at hiv hfv ⊢
      have HIV : Hid (Ints wr va k (A[0]?.getD [])) := by show Ints wr va k (A[0]?.getD []); rw [HST.out]; exact hiv
      have HOV : Hid (Off wr (.slice none 0 0) va k) := by
        rcases hiv.2 with h | ⟨b, off, h1, h2, _⟩
        · exact Or.inl h
        · exact Or.inr ⟨b, off, h1, h2, by simp [Value.ownBlock]⟩
      clear hiv hfv HR hlen
      go_wp2_with fail
      generalize wr = W0 at *
      go_loopw [3, 4] (fun v t wr => ∃ q na nl nc, q ≤ A.length ∧ t = .slice na nl nc ∧ Ints wr na nl (A[q]?.getD []) ∧ LinesO wr V.heap.size v (A.take q) ∧ Off wr v na nl ∧ Below V.heap.size V wr) (fun v _ _ => 71 - lenOf v)
      case atStart => exact ⟨0, va, k, vc, Nat.zero_le _, rfl, HIV.out, LinesO.nil _ _, HOV.out, hbl⟩
      case round =>
        obtain ⟨q, na, nl, nc, hq, rfl, hin, hlo, hoff, hbl2⟩ := hrel
        clear HIV HOV b0 b1 hB hz hVs hbl
        obtain ⟨⟨b0, b1⟩, hB, hz⟩ := HBV.out wr hbl2
        have HIN : Hid (Ints wr na nl (A[q]?.getD [])) := hin
        have HLO : Hid (LinesO wr V.heap.size _ (A.take q)) := hlo
        have HOF : Hid (Off wr _ na nl) := hoff
        obtain ⟨la, lc, hv, hli⟩ := hlo.lines
        have htl : (A.take q).length = q := by rw [List.length_take]; omega
        rw [htl] at hv hli
        have HLI : Hid (LinesN wr la q (A.take q)) := hli
        clear hin hlo hoff hli
        subst hv
        by_cases hlt2 : q < A.length
        · have hnl : nl = k := by have := HIN.out.1; have := (Num.right_all _ _ _ (HRT.out q hlt2)).1; omega
          subst hnl
          have hnp : (0 : Int) < (nl : Int) := by omega
          have hL : LinesO (wr.alloc (.cells #[.slice na nl nc] 41)) V.heap.size _ (A.take q) := LinesO.below HLO.out (balloc _ _)
          have HIC : Hid (Ints (wr.alloc (.cells #[.slice na nl nc] 41)) na nl (A[q]?.getD [])) := Ints.below HIN.out (balloc _ _) (Nat.le_refl _)
          have HOFF : Hid (Off (wr.alloc (.cells #[.slice na nl nc] 41)) _ na nl) := Off.below HOF.out (balloc _ _)
          obtain ⟨vs, hov, hvin⟩ := hL
          have hov' : (wr.alloc (.cells #[.slice na nl nc] 41)).ownsRow V.heap.size 41 1 (.slice la q lc) q vs := by rw [htl] at hov; exact hov
          have HOV : Hid _ := hov
          have HOV' : Hid ((wr.alloc (.cells #[.slice na nl nc] 41)).ownsRow V.heap.size 41 1 (.slice la q lc) q vs) := hov'
          have HVIN : Hid _ := hvin
          have hVs : V.heap.size ≤ wr.heap.size := hbl2.size
          have hVa : V.heap.size ≤ (wr.alloc (.cells #[.slice na nl nc] 41)).heap.size := by simp; omega
          clear hov hvin hov'
          go_wp2_with (at_builtin; refine wpList_append_own_at _ rfl (.tmp 20) (.tmp 22) 58 rfl V.heap.size 41 j0 (.slice none 0 0) 1 24 Tryz.underlying58 hjf hy0 hy1 hy2 rfl (by decide) _ q vs rfl HOV'.out ⟨wr.heap.size, 0, none⟩ 1 1 [.slice na nl nc] rfl rfl ?p3 ?p4 ?p5 ?p6 hVa ?_)
          case p3 => first | exact news_one rfl _ _ | exact news_one' rfl _ _
          case p4 => first | rfl | (intro u hu; simp at hu; subst hu; rfl)
          case p5 => unfold maxLen; omega
          case p6 => omega
          intro v' w5 ho5 hg5 _ hat5
          have hpush : LinesO w5 V.heap.size v' (A.take q ++ [A[q]?.getD []]) := LinesO.push HOV.out HVIN.out HIC.out HOFF.out (by rw [htl]; exact ho5) hg5 (by simpa using hat5)
          have hbl5 : Below V.heap.size V w5 := Below.grown (bstep hbl2 (balloc _ _)) hg5 hVa (fun j hj => (own_lt HOV'.out j hj).1)
          have HIN5 : Hid (Ints w5 na nl (A[q]?.getD [])) := HIC.out.grown HOFF.out hg5
          have htake : A.take q ++ [A[q]?.getD []] = A.take (q + 1) := by
            rw [List.getElem?_eq_getElem hlt2, Option.getD_some, List.take_succ_eq_append_getElem hlt2]
          rw [htake] at hpush
          have HL5 : Hid (LinesO w5 V.heap.size v' (A.take (q + 1))) := hpush
          obtain ⟨⟨c0, c1⟩, hB5, hz5⟩ := HBV.out w5 hbl5
          obtain ⟨la2, lc2, hve, _⟩ := HL5.out.lines
          have htl2 : (A.take (q + 1)).length = q + 1 := by rw [List.length_take]; omega
          rw [htl2] at hve
          subst hve
          have KN : Hid (Calls Tryz.prog 39 #[.slice na nl nc, .int .i64 ((cl + nl : Nat) : Int)] w5 fun e w' => ∃ ra rl rc, e = .returned (.slice ra rl rc) ∧ Ints w' ra rl (Num.nextC (A[q]?.getD []) (cl + nl)) ∧ (rl = 0 ∨ ∃ g, ra = some ⟨g, 0, none⟩ ∧ w5.heap.size ≤ g) ∧ Below w5.heap.size w5 w') :=
            next3_any na nl nc (cl + nl) (A[q]?.getD []) w5 HIN5.out (by omega) (by omega) (by omega) (HRT.out q hlt2)
          rw [(HNX.out q hlt2).2] at KN
          have hsum : (cl : Int) + (nl : Int) = ((cl + nl : Nat) : Int) := by simp
          have HSUM : Hid _ := hsum
          clear hsum ho5 hg5 hat5 hpush htake HOV HOV' HVIN b0 b1 hB hz htl2
          go_wp2_with fail
          rw [HSUM.out]
          refine KN.out.mono ?_
          rintro e w6 ⟨ra', rl', rc', rfl, hix, hfx, hb6⟩
          have HIX : Hid (Ints w6 ra' rl' (A[q + 1]?.getD [])) := hix
          have HL6 : Hid (LinesO w6 V.heap.size (.slice la2 (q + 1) lc2) (A.take (q + 1))) := LinesO.below HL5.out hb6
          have HOX : Hid (Off w6 (.slice la2 (q + 1) lc2) ra' rl') := by
            obtain ⟨vs5, ho5, _⟩ := HL5.out
            exact Off.fresh ho5 hfx hix
          have hbl6 := bstep hbl5 hb6
          clear hix hfx KN
          go_wp2_with fail
          go_roundw
          case rel => exact ⟨q + 1, ra', rl', rc', hlt2, rfl, HIX.out, HL6.out, HOX.out, hbl6⟩
          case measure => simp [lenOf]; omega
        · have hqe : q = A.length := by omega
          have hnl : nl = 0 := by have := HIN.out.1; rw [List.getElem?_eq_none (by omega)] at this; simpa using this
          subst hnl
          have HLA : Hid (LinesN wr la q A) := by
            have := HLI.out
            rw [hqe, List.take_length] at this
            rw [hqe]
            exact this
          go_wp2_with fail
          go_ret
          exact ⟨la, q, lc, rfl, HLA.out, by omega, hB⟩

end Go.Proofs.YtipcbhodlgoflaaGreat
