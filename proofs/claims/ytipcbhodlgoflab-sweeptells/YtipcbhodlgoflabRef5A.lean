/- What the document's Swap does. -/
import Derived.Test.YtipcbhodlgoflabPlnA
import Derived.Test.YtipcbhodlgoflabLinesO
import Derived.Test.YtipcbhodlgoflabRef2A
import Derived.Test.YtipcbhodlgoflabSixA
import Derived.Test.YtipcbhodlgoflabBxs
namespace Go.Proofs.Ytipcbhodlgoflab
open Go.RowKit

/-- A row of ints of the call's own. -/
def RowI (w : World) (base : Nat) (v : Value) (l : List Int) : Prop := w.ownsRow base 3 1 v l.length (l.map (Value.int .i64))

theorem RowI.kept {w w' : World} {base : Nat} {v : Value} {l : List Int} (h : RowI w base v l) (hb : Below w.heap.size w w') : RowI w' base v l :=
  World.ownsRow.kept (row := none) h ⟨hb.os, hb.tape, hb.output, hb.size, fun k hk _ => hb.block k hk⟩ (by cases v.ownBlock <;> simp)

theorem RowI.nil (w : World) (base : Nat) : RowI w base (.slice none 0 0) [] := World.ownsRow_nil _ _ _ _

theorem RowI.push {w : World} {base : Nat} {v : Value} {l : List Int} {x : Int} (h : w.ownsRow base 3 1 v (l.length + 1) (l.map (Value.int .i64) ++ [.int .i64 x])) : RowI w base v (l ++ [x]) := by
  unfold RowI
  rw [List.length_append, List.length_singleton, List.map_append]
  exact h

theorem RowI.ints {w : World} {base : Nat} {v : Value} {l : List Int} (h : RowI w base v l) : ∃ a c, v = .slice a l.length c ∧ l.length ≤ c ∧ Ints w a l.length l ∧ (l.length = 0 ∨ ∃ g, a = some ⟨g, 0, none⟩ ∧ base ≤ g) := by
  have h' := h
  rcases h.2 with ⟨hv, h0⟩ | ⟨g, cap, cur, hv, hb, _, hc, _⟩
  · exact ⟨none, 0, by rw [h0]; exact hv, by omega, ⟨rfl, Or.inl h0⟩, Or.inl h0⟩
  · subst hv
    refine ⟨_, cap, rfl, hc, Ints.ofOwn h' rfl fun j hj => ?_, Or.inr ⟨g, rfl, hb⟩⟩
    rw [List.getElem?_map, List.getElem?_eq_getElem hj]
    simp

end Go.Proofs.Ytipcbhodlgoflab

/- What small functions of the document's chapters 1, 3 and 5 do: Ints, Above, Of, column, May. -/
namespace Go.Proofs.Ytipcbhodlgoflab
open Go.RowKit

set_option maxHeartbeats 800000 in
theorem above_any (a : Option Addr) (len cap : Nat) (l : List Int) (d : Int) (w : World) (hi : Ints w a len l) (hlen : len ≤ 9223372036854775807) :
    Calls Try.prog 54 #[.agg #[.slice a len cap, .int .i64 d]] w fun e w' => e = .returned (.bool (!Num.anyNeg l)) ∧ Below w.heap.size w w' := by
  have HI : Hid (Ints w a len l) := hi
  have HL : Hid (len = l.length) := hi.1
  clear hi
  go_enter Try.func54, Try.ntmps54
  go_wp2
  have hb := balloc w (.cells #[.slice a len cap, .int .i64 d] 37)
  have e0 : (w.alloc (.cells #[.slice a len cap, .int .i64 d] 37)).cell? ⟨w.heap.size, 0, none⟩ = some (.slice a len cap) := (cell_new2 rfl _ _ _).1
  have HI2 : Hid (Ints (w.alloc (.cells #[.slice a len cap, .int .i64 d] 37)) a len l) := Ints.below HI.out hb (Nat.le_refl _)
  generalize w.alloc (.cells #[.slice a len cap, .int .i64 d] 37) = W at *
  go_loop [3] (fun i => ∃ k : Nat, k ≤ len ∧ i = .int .i64 k ∧ Num.anyNeg (l.take k) = false) (fun i => len - (intOf i).toNat)
  case atStart => exact ⟨0, Nat.zero_le _, rfl, rfl⟩
  case round =>
    obtain ⟨k, hk, rfl, hw⟩ := hrel
    have HW : Hid (Num.anyNeg (l.take k) = false) := hw
    clear hw
    by_cases hlt : k < len
    · rcases HI2.out.2 with h | ⟨b, off, ha, hbs, hc⟩
      · omega
      have hck := hc k hlt
      clear hc
      have hs := Num.anyNeg_take_succ l k (by have := HL.out; omega)
      have hf := Num.anyNeg_of l k (by have := HL.out; omega)
      generalize l[k]?.getD 0 = x at hck hs hf
      have HS : Hid _ := hs
      have HF : Hid _ := hf
      clear hs hf
      subst ha
      by_cases hx1 : x < 0
      · go_wp2
        go_ret
        exact ⟨ret_bool (by rw [HF.out hx1]; rfl), hb⟩
      go_wp2
      go_round
      case rel => exact ⟨k + 1, by omega, by go_num, by rw [HS.out, HW.out]; simp; omega⟩
      case measure => simp [intOf]; omega
    · go_wp2
      go_ret
      have hke : k = l.length := by have := HL.out; omega
      refine ⟨ret_bool ?_, hb⟩
      have := HW.out
      rw [hke, List.take_length] at this
      rw [this]; rfl

end Go.Proofs.Ytipcbhodlgoflab
