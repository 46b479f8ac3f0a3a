/- What the document's Below (chapter 3) does. -/
import Derived.Test.YtloncgmgcnaalaaGreatAllA
import Derived.Test.YtloncgmgcnaalaaGreatLayG
namespace Go.Proofs.YtloncgmgcnaalaaGreat
open Go.RowKit

theorem Num.anyPos_take_succ (l : List Int) (k : Nat) (h : k < l.length) : Num.anyPos (l.take (k + 1)) = (Num.anyPos (l.take k) || decide (0 < l[k]?.getD 0)) := by
  unfold Num.anyPos
  rw [List.take_add_one, List.any_append, List.getElem?_eq_getElem h]
  simp

theorem Num.anyPos_of (l : List Int) (k : Nat) (h : k < l.length) (hn : 0 < l[k]?.getD 0) : Num.anyPos l = true := by
  rw [List.getElem?_eq_getElem h] at hn
  simp only [Option.getD_some] at hn
  unfold Num.anyPos
  rw [List.any_eq_true]
  exact ⟨_, List.getElem_mem h, by simpa using hn⟩

set_option maxHeartbeats 800000 in
theorem below3_any (a : Option Addr) (len cap : Nat) (l : List Int) (d : Int) (w : World) (hi : Ints w a len l) (hlen : len ≤ 9223372036854775807) :
    Calls Tryz.prog 23 #[.agg #[.slice a len cap, .int .i64 d]] w fun e w' => e = .returned (.bool (!Num.anyPos l)) ∧ Below w.heap.size w w' := by
  have HI : Hid (Ints w a len l) := hi
  have HL : Hid (len = l.length) := hi.1
  clear hi
  go_enter Tryz.func23, Tryz.ntmps23
  go_wp2
  have hb := balloc w (.cells #[.slice a len cap, .int .i64 d] 27)
  have e0 : (w.alloc (.cells #[.slice a len cap, .int .i64 d] 27)).cell? ⟨w.heap.size, 0, none⟩ = some (.slice a len cap) := (cell_new2 rfl _ _ _).1
  have HI2 : Hid (Ints (w.alloc (.cells #[.slice a len cap, .int .i64 d] 27)) a len l) := Ints.below HI.out hb (Nat.le_refl _)
  generalize w.alloc (.cells #[.slice a len cap, .int .i64 d] 27) = W at *
  go_loop [3] (fun i => ∃ k : Nat, k ≤ len ∧ i = .int .i64 k ∧ Num.anyPos (l.take k) = false) (fun i => len - (intOf i).toNat)
  case atStart => exact ⟨0, Nat.zero_le _, rfl, rfl⟩
  case round =>
    obtain ⟨k, hk, rfl, hw⟩ := hrel
    have HW : Hid (Num.anyPos (l.take k) = false) := hw
    clear hw
    by_cases hlt : k < len
    · rcases HI2.out.2 with h | ⟨b, off, ha, hbs, hc⟩
      · omega
      have hck := hc k hlt
      clear hc
      have hs := Num.anyPos_take_succ l k (by have := HL.out; omega)
      have hf := Num.anyPos_of l k (by have := HL.out; omega)
      generalize l[k]?.getD 0 = x at hck hs hf
      have HS : Hid _ := hs
      have HF : Hid _ := hf
      clear hs hf
      subst ha
      by_cases hx1 : 0 < x
      · go_wp2
        go_ret
        exact ⟨ret_bool (by rw [HF.out hx1]; rfl), hb⟩
      go_wp2
      go_round
      case rel => exact ⟨k + 1, by omega, by go_num, by rw [HS.out, HW.out]; simp; omega⟩
      case measure => simp [intOf]; omega
    · go_wp2
      go_ret
      have hke : k = l.length := by have := HL.out; omega
      refine ⟨ret_bool ?_, hb⟩
      have h := HW.out
      rw [hke, List.take_length] at h
      rw [h]; rfl

end Go.Proofs.YtloncgmgcnaalaaGreat
