/- What the document's Below and next (chapter 3) do. -/
import Derived.Test.YtloncgmgcnaalaaGreatAllA
import Derived.Test.YtloncgmgcnaalaaGreatBlw3
import Derived.Test.YtloncgmgcnaalaaGreatLinesO
namespace Go.Proofs.YtloncgmgcnaalaaGreat
open Go.RowKit

set_option maxRecDepth 4000 in
set_option maxHeartbeats 3200000 in
theorem next3_any (aa : Option Addr) (m ac N : Nat) (at' : List Int) (w : World) (ha : Ints w aa m at') (h1 : 1 ≤ m) (h4 : m ≤ 4) (h8 : N ≤ 8) (hr : Num.rightB at' m N = true) :
    Calls Tryz.prog 39 #[.slice aa m ac, .int .i64 N] w fun e w' => ∃ ra rl rc, e = .returned (.slice ra rl rc) ∧ Ints w' ra rl (Num.nextC at' N) ∧ (rl = 0 ∨ ∃ g, ra = some ⟨g, 0, none⟩ ∧ w.heap.size ≤ g) ∧ Below w.heap.size w w' := by
  rcases ha.2 with h0 | ⟨b, off, hae, hb, hc⟩
  · omega
  subst hae
  have HV : Hid ((at'.map (Value.int .i64)).length = m) := by rw [List.length_map]; exact ha.1.symm
  have HC : Hid (∀ j, j < m → w.cell? ⟨b, off + j, none⟩ = (at'.map (Value.int .i64))[j]?) := by
    intro j hj
    rw [hc j hj, List.getElem?_map, List.getElem?_eq_getElem (by have := ha.1; omega)]; rfl
  have HN : Hid (m = at'.length) := ha.1
  have HAT : Hid (∀ k, k < m → 0 ≤ at'[k]?.getD 0 ∧ at'[k]?.getD 0 < N) := (Num.right_all at' m N hr).2
  have HB : Hid (∀ j : Nat, 0 ≤ at'[j]?.getD 0 ∧ at'[j]?.getD 0 ≤ 8) := by
    intro j
    by_cases hj : j < m
    · have := HAT.out j hj; omega
    · rw [List.getElem?_eq_none (by have := HN.out; omega)]; simp
  clear ha hc hr
  obtain ⟨i0, hif, hz0, hz1, hz2⟩ := info_parts Tryz.infoInt
  go_enter Tryz.func39, Tryz.ntmps39
  go_wp2_with (at_builtin; refine wpList_append_own _ rfl (.tmp 8) (.tmp 9) 41 rfl w.heap.size 3 i0 (.int .i64 0) 1 8 Tryz.underlying41 hif hz0 hz1 hz2 rfl (by decide) _ 0 [] rfl ?o1 ⟨b, off, none⟩ m ac (at'.map (Value.int .i64)) rfl ?o2 ?o3 ?o4 ?o5 ?o6 ?o7 ?_)
  case o1 => exact World.ownsRow_made w #[] 0 (Nat.le_refl _) (Nat.zero_le _) rfl
  case o2 => rw [HV.out, Nat.mul_one]
  case o3 => exact news_at (balloc _ _) hb HV.out HC.out
  case o4 => exact one_ints at'
  case o5 => unfold maxLen; omega
  case o6 => omega
  case o7 => simp
  intro v' w1 hown hgrow _
  obtain ⟨g, c, hv, hg, hn⟩ := own_some hown h1
  subst hv
  have HO : Hid (OwnI w1 w.heap.size g m c at') := hown
  have hB : Below w.heap.size w w1 := Below.grown (balloc _ _) hgrow (by simp) (fun j hj => by simp [Value.ownBlock] at hj; omega)
  clear hown hgrow
  go_wp2_with fail
  go_loopw [6] (fun i wr => ∃ k : Nat, k ≤ m ∧ i = .int .i64 ((k : Int) - 1) ∧ Num.nextC at' N = Num.nextGo at' N k ∧ OwnI wr w.heap.size g m c at' ∧ Below w.heap.size w wr) (fun i _ => (intOf i + 1).toNat)
  case atStart => exact ⟨m, Nat.le_refl _, by first | rfl | go_num, by unfold Num.nextC; rw [← HN.out], HO.out, hB⟩
  case round =>
    obtain ⟨k, hk, rfl, hnx, hO, hbl⟩ := hrel
    have HNX : Hid (Num.nextC at' N = Num.nextGo at' N k) := hnx
    have HO1 : Hid (OwnI wr w.heap.size g m c at') := hO
    clear hO hnx hB HO
    cases k with
    | zero =>
      rw [show ((0 : Nat) : Int) - 1 = -1 from rfl]
      go_wp2_with fail
      go_ret
      exact ⟨none, 0, 0, rfl, by rw [HNX.out]; exact Ints.empty _, Or.inl rfl, hbl⟩
    | succ q =>
      rw [show ((q + 1 : Nat) : Int) - 1 = (q : Int) by omega]
      have hqm : q < m := by omega
      obtain ⟨c0, f0⟩ := OwnI.cell HO1.out q hqm
      have hgl := (OwnI.lt HO1.out).2
      have hxb := HB.out q
      have HBS : Hid (at'.set q (at'[q]?.getD 0 + 1) = Num.bumpTo at' q (q + 1)) := Num.bump_start at' q (by have := HN.out; omega)
      have HGO : Hid (Num.nextGo at' N (q + 1) = if at'[q]?.getD 0 < (N : Int) - ((m : Int) - q) then Num.bumpL at' q else Num.nextGo at' N q) := by
        show Num.nextGo at' N (q + 1) = _
        rw [HN.out]; rfl
      generalize at'[q]?.getD 0 = x at *
      have hqI : (q : Int) < (m : Int) := by omega
      have w1' : wrap64 ((m : Int) - q) = (m : Int) - q := IntWalk.wrap64_in _ (by omega)
      have w2' : wrap64 ((N : Int) - ((m : Int) - q)) = (N : Int) - ((m : Int) - q) := IntWalk.wrap64_in _ (by omega)
      have w3' : wrap64 (x + 1) = x + 1 := IntWalk.wrap64_in _ (by omega)
      by_cases hcm : x < (N : Int) - ((m : Int) - q)
      · have hcd : decide (x < (N : Int) - ((m : Int) - q)) = true := decide_eq_true hcm
        have HGO2 : Hid (Num.nextC at' N = Num.bumpL at' q) := by show _ = _; rw [HNX.out, HGO.out, if_pos hcm]
        have HOS : Hid (OwnI (wr.setCell ⟨g, q, none⟩ (.int .i64 (x + 1))) w.heap.size g m c (Num.bumpTo at' q (q + 1))) := by
          have := OwnI.store HO1.out q (x + 1)
          rw [HBS.out] at this
          exact this
        have hblS : Below w.heap.size w (wr.setCell ⟨g, q, none⟩ (.int .i64 (x + 1))) := bset hbl hg _
        clear hcm HNX HGO hbl HO1
        go_wp2_with fail
        generalize wr.setCell ⟨g, q, none⟩ (.int .i64 (x + 1)) = W1 at *
        clear c0 f0 hgl
        go_loopw [7] (fun i wr => ∃ j : Nat, q + 1 ≤ j ∧ j ≤ m ∧ i = .int .i64 j ∧ OwnI wr w.heap.size g m c (Num.bumpTo at' q j) ∧ Below w.heap.size w wr) (fun i _ => m - (intOf i).toNat)
        case atStart => exact ⟨q + 1, Nat.le_refl _, by omega, by first | rfl | go_num, HOS.out, hblS⟩
        case round =>
          obtain ⟨j, hj1, hj2, rfl, hO, hbl⟩ := hrel
          have HO2 : Hid (OwnI wr w.heap.size g m c (Num.bumpTo at' q j)) := hO
          clear hO HOS hblS
          by_cases hjm : j < m
          · obtain ⟨r, rfl⟩ : ∃ r, j = r + 1 := ⟨j - 1, by omega⟩
            obtain ⟨c0, f0⟩ := OwnI.cell HO2.out r (by omega)
            obtain ⟨c1, f1⟩ := OwnI.cell HO2.out (r + 1) hjm
            have hgl := (OwnI.lt HO2.out).2
            have hyb := Num.bumpTo_bd at' q (r + 1) HB.out (by have := HN.out; omega) r
            have HST : Hid ((Num.bumpTo at' q (r + 1)).set (r + 1) ((Num.bumpTo at' q (r + 1))[r]?.getD 0 + 1) = Num.bumpTo at' q (r + 1 + 1)) := Num.bump_step at' q (r + 1) (by omega) (by have := HN.out; omega)
            generalize (Num.bumpTo at' q (r + 1))[r]?.getD 0 = y at *
            generalize (Num.bumpTo at' q (r + 1))[r + 1]?.getD 0 = z at *
            have w4' : wrap64 (y + 1) = y + 1 := IntWalk.wrap64_in _ (by omega)
            have hrI : (r : Int) < (m : Int) := by omega
            have hrI2 : (r : Int) + 1 < (m : Int) := by omega
            have HOS : Hid (OwnI (wr.setCell ⟨g, r + 1, none⟩ (.int .i64 (y + 1))) w.heap.size g m c (Num.bumpTo at' q (r + 1 + 1))) := by
              have := OwnI.store HO2.out (r + 1) (y + 1)
              rw [HST.out] at this
              exact this
            go_wp2_with fail
            go_roundw
            case rel => exact ⟨r + 1 + 1, by omega, hjm, by first | rfl | go_num | (simp; omega), HOS.out, bset hbl hg _⟩
            case measure => simp [intOf]; omega
          · have hje : j = m := by omega
            subst hje
            go_wp2_with fail
            go_ret
            refine ⟨some ⟨g, 0, none⟩, j, c, rfl, ?_, Or.inr ⟨g, rfl, hg⟩, hbl⟩
            rw [HGO2.out, ← Num.bump_end, ← HN.out]
            exact OwnI.ints HO2.out
      · have hcd : decide (x < (N : Int) - ((m : Int) - q)) = false := decide_eq_false hcm
        have HGO2 : Hid (Num.nextC at' N = Num.nextGo at' N q) := by show _ = _; rw [HNX.out, HGO.out, if_neg hcm]
        clear hcm HNX HGO
        go_wp2_with fail
        go_roundw
        case rel => exact ⟨q, by omega, by first | rfl | go_num, HGO2.out, HO1.out, hbl⟩
        case measure => simp [intOf]

end Go.Proofs.YtloncgmgcnaalaaGreat
