/- What solve.valuing and solve.ray do. -/
import Derived.Test.YtipcbhodlgoflabPlnA
import Derived.Test.YtipcbhodlgoflabWlkC
namespace Go.Proofs.Ytipcbhodlgoflab
open Go.RowKit

end Go.Proofs.Ytipcbhodlgoflab

/- What solve.members does. -/
namespace Go.Proofs.Ytipcbhodlgoflab
open Go.RowKit

/-- The places of the bits of a number. -/
def Num.membersTo (s k : Nat) : List Int := ((List.range k).filter fun j => s / 2 ^ j % 2 == 1).map fun (j : Nat) => (j : Int)

theorem Num.membersTo_succ (s k : Nat) : Num.membersTo s (k + 1) = if s / 2 ^ k % 2 == 1 then Num.membersTo s k ++ [(k : Int)] else Num.membersTo s k := by
  unfold Num.membersTo
  rw [List.range_succ, List.filter_append, List.map_append]
  split
  · rename_i h; rw [List.filter_cons, if_pos h]; rfl
  · rename_i h; rw [List.filter_cons, if_neg h]; simp

theorem Num.bit_small : ∀ s : Fin 256, (bits BinOp.and IntKind.i64 ((s.val : Nat) : Int) 1 == 1) = (s.val % 2 == 1) := by decide +kernel

/-- Behind the last bit there is none. -/
theorem Num.members_end (s k : Nat) (hk : k ≤ 8) (h : s / 2 ^ k = 0) : Num.membersTo s 8 = Num.membersTo s k := by
  have key : ∀ d, Num.membersTo s (k + d) = Num.membersTo s k := by
    intro d
    induction d with
    | zero => rfl
    | succ d ih =>
      rw [← Nat.add_assoc, Num.membersTo_succ, if_neg, ih]
      have : s / 2 ^ (k + d) = 0 := by
        rw [Nat.pow_add, ← Nat.div_div_eq_div_mul, h, Nat.zero_div]
      rw [this]; decide
  have := key (8 - k)
  rw [show k + (8 - k) = 8 by omega] at this
  exact this

set_option maxRecDepth 4000 in
set_option maxHeartbeats 1600000 in
theorem members_any (s : Nat) (hs : s < 256) (w : World) :
    Calls Try.prog 85 #[.int .i64 s] w fun e w' => ∃ a n c, e = .returned (.slice a n c) ∧ Ints w' a n (Num.membersTo s 8) ∧ (n = 0 ∨ ∃ g, a = some ⟨g, 0, none⟩ ∧ w.heap.size ≤ g) ∧ n ≤ 8 ∧ Below w.heap.size w w' := by
  obtain ⟨i0, hif, hz0, hz1, hz2⟩ := info_parts Try.infoInt
  go_enter Try.func85, Try.ntmps85
  go_wp2_with fail
  go_loopw [3, 4] (fun v i wr => ∃ k : Nat, k ≤ 8 ∧ i = .int .i64 k ∧ wr.ownsRow w.heap.size 3 1 v (Num.membersTo s k).length ((Num.membersTo s k).map (Value.int .i64)) ∧ Below w.heap.size w wr) (fun _ i _ => 8 - (intOf i).toNat)
  case atStart => exact ⟨0, Nat.zero_le _, rfl, World.ownsRow_nil _ _ _ _, Below.refl _ _⟩
  case round =>
    obtain ⟨k, hk, rfl, hO, hbl⟩ := hrel
    obtain ⟨va, vc, hv⟩ := own_shape hO
    subst hv
    have HO : Hid (wr.ownsRow w.heap.size 3 1 (.slice va (Num.membersTo s k).length vc) (Num.membersTo s k).length ((Num.membersTo s k).map (Value.int .i64))) := hO
    have hlen : (Num.membersTo s k).length ≤ k := by unfold Num.membersTo; rw [List.length_map]; exact Nat.le_trans (List.length_filter_le _ _) (by simp)
    obtain ⟨sj, hsj⟩ : ∃ sj : Nat, sj = s / 2 ^ k := ⟨_, rfl⟩
    have hsh : ((s : Int) / 2 ^ k) = (sj : Int) := by rw [hsj]; simp
    have hsd : (s : Int) / 2 ^ min k 64 = (sj : Int) := by rw [Nat.min_eq_left (by omega)]; exact hsh
    have hs256 : sj < 256 := by rw [hsj]; exact Nat.lt_of_le_of_lt (Nat.div_le_self _ _) hs
    have HSJ : Hid (sj = s / 2 ^ k) := hsj
    have hbit := Num.bit_small ⟨sj, hs256⟩
    dsimp only at hbit
    clear hO hsj hs256
    by_cases h0 : sj = 0
    · have h0' : ((sj : Int) == 0) = true := by rw [h0]; rfl
      have HE : Hid (Num.membersTo s 8 = Num.membersTo s k) := Num.members_end s k hk (by rw [← HSJ.out]; exact h0)
      clear hbit
      go_wp2_with fail
      obtain ⟨a', c', hv, hints, hfar⟩ := Ints.ofOwnAny HO.out rfl
      go_ret
      refine ⟨va, _, vc, rfl, ?_, ?_, by omega, hbl⟩
      · rw [HE.out]; injection hv with h1 h2 h3; rw [h1]; exact hints
      · injection hv with h1 h2 h3; rw [h1]; exact hfar
    · have h0' : ((sj : Int) == 0) = false := by simpa using h0
      have h0'' : ((sj : Int) != 0) = true := by simp [bne, h0']
      have hk8 : k < 8 := by
        rcases Nat.lt_or_ge k 8 with h | h
        · exact h
        · exfalso
          apply h0
          rw [HSJ.out]
          exact Nat.div_eq_of_lt (Nat.lt_of_lt_of_le hs (Nat.le_trans (by decide : 256 ≤ 2 ^ 8) (Nat.pow_le_pow_right (by omega) h)))
      have HN : Hid (Num.membersTo s (k + 1) = if sj % 2 == 1 then Num.membersTo s k ++ [(k : Int)] else Num.membersTo s k) := by rw [HSJ.out]; exact Num.membersTo_succ s k
      cases hb2 : (sj % 2 == 1) with
      | true =>
        have hbt : (bits BinOp.and IntKind.i64 (sj : Int) 1 == 1) = true := hbit.trans hb2
        have HN2 : Hid (Num.membersTo s (k + 1) = Num.membersTo s k ++ [(k : Int)]) := by rw [HN.out, hb2]; rfl
        clear hbit hb2 HN HSJ
        generalize Num.membersTo s k = l at *
        have hsz := hbl.size
        go_wp2_with (at_builtin; refine wpList_append_own _ rfl (.tmp 16) (.tmp 18) 26 rfl w.heap.size 3 i0 (.int .i64 0) 1 8 Try.underlying26 hif hz0 hz1 hz2 rfl (by decide) _ _ _ rfl (by exact World.ownsRow.alloc HO.out _) ⟨wr.heap.size, 0, none⟩ 1 1 [.int .i64 k] rfl rfl ?cn1 ?cn2 ?cn3 ?cn4 ?cn5 ?_)
        case cn1 => first | exact news_one rfl _ _ | exact news_one' rfl _ _
        case cn2 => first | rfl | (intro u hu; simp at hu; subst hu; rfl)
        case cn3 => unfold maxLen; omega
        case cn4 => omega
        case cn5 => first | omega | (simp; omega)
        intro v' w1 hown' hgrow _
        have hB : Below w.heap.size w w1 := Below.grown (bstep hbl (balloc _ _)) hgrow (by simp; omega) (fun j hj => (World.ownsRow.lt HO.out j hj).1)
        obtain ⟨a', c', hv'⟩ := own_shape hown'
        subst hv'
        have HW : Hid (w1.ownsRow w.heap.size 3 1 (.slice a' (l.length + 1) c') (l.length + 1) (l.map (Value.int .i64) ++ [.int .i64 k])) := hown'
        clear hown' hgrow
        go_wp2_with fail
        go_roundw
        case rel =>
          refine ⟨k + 1, by omega, by go_num, ?_, hB⟩
          rw [HN2.out, List.length_append, List.map_append]
          exact HW.out
        case measure => simp [intOf]; omega
      | false =>
        have hbt : (bits BinOp.and IntKind.i64 (sj : Int) 1 == 1) = false := hbit.trans hb2
        have HN2 : Hid (Num.membersTo s (k + 1) = Num.membersTo s k) := by rw [HN.out, hb2]; rfl
        clear hbit hb2 HN HSJ
        go_wp2_with fail
        go_roundw
        case rel => exact ⟨k + 1, by omega, by go_num, by rw [HN2.out]; exact HO.out, hbl⟩
        case measure => simp [intOf]; omega

end Go.Proofs.Ytipcbhodlgoflab
