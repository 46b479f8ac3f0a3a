/- What the document's Swap does. -/
import Derived.Test.YtipcbhodlgoflaaGreatPlnA
import Derived.Test.YtipcbhodlgoflaaGreatLinesO
import Derived.Test.YtipcbhodlgoflaaGreatRef2A
import Derived.Test.YtipcbhodlgoflaaGreatSixA
import Derived.Test.YtipcbhodlgoflaaGreatBxs
namespace Go.Proofs.YtipcbhodlgoflaaGreat
open Go.RowKit

/-- A row of ints of the call's own. -/
def RowI (w : World) (base : Nat) (v : Value) (l : List Int) : Prop := w.ownsRow base 3 1 v l.length (l.map (Value.int .i64))

theorem RowI.kept {w w' : World} {base : Nat} {v : Value} {l : List Int} (h : RowI w base v l) (hb : Below w.heap.size w w') : RowI w' base v l :=
  World.ownsRow.kept (row := none) h ⟨hb.os, hb.tape, hb.output, hb.size, fun k hk _ => hb.block k hk⟩ (by cases v.ownBlock <;> simp)

theorem RowI.nil (w : World) (base : Nat) : RowI w base (.slice none 0 0) [] := World.ownsRow_nil _ _ _ _

theorem RowI.push {w : World} {base : Nat} {v : Value} {l : List Int} {x : Int} (h : w.ownsRow base 3 1 v (l.length + 1) (l.map (Value.int .i64) ++ [.int .i64 x])) : RowI w base v (l ++ [x]) := by
  unfold RowI
  rw [List.length_append, List.length_singleton, List.map_append]
  exact h

theorem RowI.ints {w : World} {base : Nat} {v : Value} {l : List Int} (h : RowI w base v l) : ∃ a c, v = .slice a l.length c ∧ l.length ≤ c ∧ Ints w a l.length l ∧ (l.length = 0 ∨ ∃ g, a = some ⟨g, 0, none⟩ ∧ base ≤ g) := by
  have h' := h
  rcases h.2 with ⟨hv, h0⟩ | ⟨g, cap, cur, hv, hb, _, hc, _⟩
  · exact ⟨none, 0, by rw [h0]; exact hv, by omega, ⟨rfl, Or.inl h0⟩, Or.inl h0⟩
  · subst hv
    refine ⟨_, cap, rfl, hc, Ints.ofOwn h' rfl fun j hj => ?_, Or.inr ⟨g, rfl, hb⟩⟩
    rw [List.getElem?_map, List.getElem?_eq_getElem hj]
    simp

theorem Num.swapGo_len (at' : List Int) (out s : Int) : ∀ k, (Num.swapGo at' out s k).1.length ≤ 2 * k := by
  intro k
  induction k with
  | zero => simp [Num.swapGo]
  | succ k ih =>
    unfold Num.swapGo
    dsimp only
    split <;> split <;> (try simp only [List.length_append, List.length_singleton]) <;> omega

theorem Num.swapGo_succ (at' : List Int) (out s : Int) (k : Nat) : Num.swapGo at' out s (k + 1) = (if at'[k]?.getD 0 = out then (if s < at'[k]?.getD 0 ∧ (Num.swapGo at' out s k).2 = false then (Num.swapGo at' out s k).1 ++ [s] else (Num.swapGo at' out s k).1) else (if s < at'[k]?.getD 0 ∧ (Num.swapGo at' out s k).2 = false then (Num.swapGo at' out s k).1 ++ [s] else (Num.swapGo at' out s k).1) ++ [at'[k]?.getD 0],
      (Num.swapGo at' out s k).2 || decide (s < at'[k]?.getD 0)) := rfl

end Go.Proofs.YtipcbhodlgoflaaGreat

/- What small functions of the document's chapters 1, 3 and 5 do: Ints, Above, Of, column, May. -/
namespace Go.Proofs.YtipcbhodlgoflaaGreat
open Go.RowKit

/-- Numbers that are not too great have a fraction: their own, times one number. -/
theorem Num.mk_is (n d : Int) (hd : 1 ≤ d ∧ d ≤ 1073741824) (hn : -1073741824 ≤ n ∧ n ≤ 1073741824) : ∃ x y, Num.mk n d = (x, y, 0) ∧ n * y = x * d ∧ 1 ≤ y ∧ y ≤ d ∧ x.natAbs ≤ n.natAbs := by
  obtain ⟨g, g0, h0, _, h2, h3, h4, h5, h6⟩ := Num.pt_ok [n] d (by omega) (by omega) (fun j => by
    match j with
    | 0 => simpa using hn
    | j + 1 => simp) (by simp)
  have hlow : (Num.low d [n]).2 = 0 := by
    unfold Num.pt at h0
    by_cases h : (Num.low d [n]).2 = 0
    · exact h
    · rw [if_neg h] at h0; exact h0
  have hmk : Num.mk n d = (n.tdiv (Num.byOf d [n]), d.tdiv (Num.byOf d [n]), 0) := by unfold Num.mk; rw [if_pos hlow]
  have hpt : Num.pt [n] d = ([n.tdiv (Num.byOf d [n])], d.tdiv (Num.byOf d [n]), 0) := by unfold Num.pt; rw [if_pos hlow]; rfl
  rw [hpt] at h2 h3 h4 h5 h6
  have e2 := h2 0
  have e6 := h6 0
  simp only [List.getElem?_cons_zero, Option.getD_some] at e2 e6
  dsimp only at h3 h4 h5
  refine ⟨_, _, hmk, ?_, h4, by omega, e6⟩
  generalize n.tdiv (Num.byOf d [n]) = x at *
  generalize d.tdiv (Num.byOf d [n]) = y at *
  rw [e2, h3]; grind

set_option maxHeartbeats 800000 in
theorem above_any (a : Option Addr) (len cap : Nat) (l : List Int) (d : Int) (w : World) (hi : Ints w a len l) (hlen : len ≤ 9223372036854775807) :
    Calls Tryz.prog 22 #[.agg #[.slice a len cap, .int .i64 d]] w fun e w' => e = .returned (.bool (!Num.anyNeg l)) ∧ Below w.heap.size w w' := by
  have HI : Hid (Ints w a len l) := hi
  have HL : Hid (len = l.length) := hi.1
  clear hi
  go_enter Tryz.func22, Tryz.ntmps22
  go_wp2
  have hb := balloc w (.cells #[.slice a len cap, .int .i64 d] 27)
  have e0 : (w.alloc (.cells #[.slice a len cap, .int .i64 d] 27)).cell? ⟨w.heap.size, 0, none⟩ = some (.slice a len cap) := (cell_new2 rfl _ _ _).1
  have HI2 : Hid (Ints (w.alloc (.cells #[.slice a len cap, .int .i64 d] 27)) a len l) := Ints.below HI.out hb (Nat.le_refl _)
  generalize w.alloc (.cells #[.slice a len cap, .int .i64 d] 27) = W at *
  go_loop [3] (fun i => ∃ k : Nat, k ≤ len ∧ i = .int .i64 k ∧ Num.anyNeg (l.take k) = false) (fun i => len - (intOf i).toNat)
  case atStart => exact ⟨0, Nat.zero_le _, rfl, rfl⟩
  case round =>
    obtain ⟨k, hk, rfl, hw⟩ := hrel
    have HW : Hid (Num.anyNeg (l.take k) = false) := hw
    clear hw
    by_cases hlt : k < len
    · rcases HI2.out.2 with h | ⟨b, off, ha, hbs, hc⟩
      · omega
      have hck := hc k hlt
      clear hc
      have hs := Num.anyNeg_take_succ l k (by have := HL.out; omega)
      have hf := Num.anyNeg_of l k (by have := HL.out; omega)
      generalize l[k]?.getD 0 = x at hck hs hf
      have HS : Hid _ := hs
      have HF : Hid _ := hf
      clear hs hf
      subst ha
      by_cases hx1 : x < 0
      · go_wp2
        go_ret
        exact ⟨ret_bool (by rw [HF.out hx1]; rfl), hb⟩
      go_wp2
      go_round
      case rel => exact ⟨k + 1, by omega, by go_num, by rw [HS.out, HW.out]; simp; omega⟩
      case measure => simp [intOf]; omega
    · go_wp2
      go_ret
      have hke : k = l.length := by have := HL.out; omega
      refine ⟨ret_bool ?_, hb⟩
      have := HW.out
      rw [hke, List.take_length] at this
      rw [this]; rfl

end Go.Proofs.YtipcbhodlgoflaaGreat
