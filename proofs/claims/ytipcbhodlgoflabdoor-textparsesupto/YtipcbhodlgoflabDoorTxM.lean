/- The document's numbers (chapter 9). -/
import Derived.Test.YtipcbhodlgoflabDoorTxN
import Derived.Test.YtipcbhodlgoflabDoorTxH
namespace Go.Proofs.YtipcbhodlgoflabDoor
open Go.RowKit

theorem nums_snoc : ∀ (a : List (List UInt8)) (x : List UInt8), Num.numsW (a ++ [x]) = (Num.numsW a).bind fun l => (Num.numW x).map fun n => l ++ [n] := by
  intro a
  induction a with
  | nil =>
    intro x
    rw [List.nil_append, Num.nums_cons]
    show _ = (Num.numW x).map _
    cases Num.numW x <;> rfl
  | cons w r ih =>
    intro x
    rw [List.cons_append, Num.nums_cons, Num.nums_cons, ih x]
    cases Num.numW w with
    | none => rfl
    | some n =>
      cases Num.numsW r with
      | none => rfl
      | some l => cases Num.numW x <;> rfl

theorem nums_none : ∀ (ws : List (List UInt8)) (x : List UInt8), x ∈ ws → Num.numW x = none → Num.numsW ws = none := by
  intro ws
  induction ws with
  | nil => intro x h; cases h
  | cons w r ih =>
    intro x h hx
    rw [Num.nums_cons]
    rcases List.mem_cons.1 h with h | h
    · rw [← h, hx]; rfl
    · rw [ih x h hx]
      cases Num.numW w <;> rfl

/-- A slice of words. -/
def Strs (w : World) (a : Option Addr) (n : Nat) (ws : List (List UInt8)) : Prop :=
  n = ws.length ∧ (n = 0 ∨ ∃ b off, a = some ⟨b, off, none⟩ ∧ b < w.heap.size ∧ ∀ j, j < n → w.cell? ⟨b, off + j, none⟩ = some (.string (B8 (ws[j]?.getD []))))

theorem Strs.below {w w' : World} {B : Nat} {a : Option Addr} {n : Nat} {ws : List (List UInt8)} (h : Strs w a n ws) (hb : Below B w w') (hB : w.heap.size ≤ B) : Strs w' a n ws := by
  refine ⟨h.1, ?_⟩
  rcases h.2 with h0 | ⟨b, off, ha, hs, hc⟩
  · exact Or.inl h0
  · exact Or.inr ⟨b, off, ha, Nat.lt_of_lt_of_le hs hb.size, fun j hj => by rw [hb.cell (p := ⟨b, off + j, none⟩) (Nat.lt_of_lt_of_le hs hB)]; exact hc j hj⟩

theorem Strs.ofOwn {w : World} {base : Nat} {a : Option Addr} {n c : Nat} {ws : List (List UInt8)} (h : w.ownsRow base 9 1 (.slice a n c) n (strs ws)) : Strs w a n ws ∧ (n = 0 ∨ ∃ g, a = some ⟨g, 0, none⟩ ∧ base ≤ g ∧ n ≤ c) := by
  have hl : n = ws.length := by have := h.1; rw [strs_length] at this; omega
  have h' := h
  rcases h.2 with ⟨hv, h0⟩ | ⟨g, cap, cur, hv, hb, _, hcap, _⟩
  · exact ⟨⟨hl, Or.inl h0⟩, Or.inl h0⟩
  · simp only [Value.slice.injEq] at hv
    obtain ⟨rfl, _, rfl⟩ := hv
    refine ⟨⟨hl, Or.inr ⟨g, 0, rfl, (h'.lt g rfl).2, fun j hj => ?_⟩⟩, Or.inr ⟨g, rfl, hb, hcap⟩⟩
    rw [Nat.zero_add, h'.cellAt j (by omega)]
    unfold strs
    rw [List.getElem?_map, List.getElem?_eq_getElem (by omega)]
    rfl

set_option maxRecDepth 8000 in
set_option maxHeartbeats 1600000 in
theorem numbers_any (a : Option Addr) (n c : Nat) (ws : List (List UInt8)) (w : World) (hs : Strs w a n ws) (hn : n ≤ 2000001) (hlw : ∀ x ∈ ws, x.length ≤ 2000000) :
    Calls Tryd.prog 24 #[.slice a n c] w fun e w' => ∃ a' n' c', e = .returned (.tuple #[.slice a' n' c', .bool (Num.numsW ws).isSome]) ∧ Ints w' a' n' ((Num.numsW ws).getD []) ∧ n' ≤ 2000001 ∧ Below w.heap.size w w' ∧ (n' = 0 ∨ ∃ g, a' = some ⟨g, 0, none⟩ ∧ w.heap.size ≤ g) := by
  obtain ⟨i0, hif, hz0, hz1, hz2⟩ := info_parts Tryd.info64
  have HS : Hid (Strs w a n ws) := hs
  have HW : Hid (∀ x ∈ ws, x.length ≤ 2000000) := hlw
  have HN : Hid (n = ws.length) := hs.1
  clear hs hlw
  go_enter Tryd.func24, Tryd.ntmps24
  go_wp2_with fail
  go_loopw [4, 5] (fun vv iv wr => ∃ (k : Nat) (done : List Int) (xa : Option Addr) (xc : Nat), k ≤ n ∧ iv = .int .i64 k ∧ vv = .slice xa k xc ∧ Num.numsW (ws.take k) = some done ∧ done.length = k ∧ wr.ownsRow w.heap.size 2 1 (.slice xa k xc) k (done.map (Value.int .i64)) ∧ Below w.heap.size w wr) (fun _ iv _ => n - (intOf iv).toNat)
  case atStart => exact ⟨0, [], none, 0, Nat.zero_le _, rfl, rfl, rfl, rfl, World.ownsRow_nil _ _ _ _, Below.refl _ _⟩
  case round =>
    obtain ⟨k, done, xa, xc, hk, rfl, rfl, hnm, hdl, hown, hbl⟩ := hrel
    have HNM : Hid (Num.numsW (ws.take k) = some done) := hnm
    have HDL : Hid (done.length = k) := hdl
    have HO : Hid (wr.ownsRow w.heap.size 2 1 (.slice xa k xc) k (done.map (Value.int .i64))) := hown
    clear hnm hdl hown
    by_cases hlt : k < n
    · have hkw : k < ws.length := by have := HN.out; omega
      obtain ⟨b, off, rfl, hbs, ck⟩ : ∃ b off, a = some ⟨b, off, none⟩ ∧ b < w.heap.size ∧ wr.cell? ⟨b, off + k, none⟩ = some (.string (B8 (ws[k]?.getD []))) := by
        rcases HS.out.2 with h | ⟨b, off, e, hb, hc⟩
        · omega
        · exact ⟨b, off, e, hb, by rw [(bcell hbl).1 b _ hb]; exact hc k hlt⟩
      have hmem : ws[k]?.getD [] ∈ ws := by rw [List.getElem?_eq_getElem hkw]; exact List.getElem_mem _
      have HLX : Hid ((ws[k]?.getD []).length ≤ 2000000) := HW.out _ hmem
      have HNO : Hid (Num.numW (ws[k]?.getD []) = none → Num.numsW ws = none) := nums_none ws _ hmem
      have HYE : Hid (∀ m, Num.numW (ws[k]?.getD []) = some m → Num.numsW (ws.take (k + 1)) = some (done ++ [m])) := by
        intro m hm
        rw [List.take_succ_eq_append_getElem hkw, nums_snoc, HNM.out]
        rw [List.getElem?_eq_getElem hkw, Option.getD_some] at hm
        rw [hm]
        rfl
      generalize ws[k]?.getD [] = x at ck HLX HNO HYE
      clear hmem
      go_wp2_with fail
      refine (number_any x HLX.out wr).mono ?_
      rintro e w1 ⟨rfl, rfl⟩
      cases hx : Num.numW x with
      | none =>
        have E : Hid (Num.numsW ws = none) := HNO.out hx
        clear hx
        simp only [Option.getD_none, Option.isSome_none]
        go_wp2_with fail
        go_ret2
        rw [E.out]
        exact ⟨none, 0, 0, rfl, ⟨rfl, Or.inl rfl⟩, by omega, hbl, Or.inl rfl⟩
      | some m =>
        have HY2 : Hid (Num.numsW (ws.take (k + 1)) = some (done ++ [m])) := HYE.out m hx
        clear hx
        simp only [Option.getD_some, Option.isSome_some]
        go_wp2_with (at_builtin; refine wpList_append_own _ rfl (.tmp 24) (.tmp 26) 22 rfl w.heap.size 2 i0 (.int .i64 0) 1 8 Tryd.underlying22 hif hz0 hz1 hz2 rfl (by decide) _ _ _ rfl (by exact World.ownsRow.alloc HO.out _) ⟨w1.heap.size, 0, none⟩ 1 1 [.int .i64 m] rfl rfl ?cn1 ?cn2 ?cn3 ?cn4 ?cn5 ?_)
        case cn1 => first | exact news_one rfl _ _ | exact news_one' rfl _ _
        case cn2 => first | rfl | (intro u hu; simp at hu; subst hu; rfl)
        case cn3 => unfold maxLen; omega
        case cn4 => omega
        case cn5 => have := hbl.size; simp; omega
        intro v' w3 hown' hgrow _
        obtain ⟨a', c', hv'⟩ := own_shape hown'
        subst hv'
        have hB : Below w.heap.size w w3 := Below.grown (by exact hbl.alloc hbl.size _) hgrow (by have := hbl.size; simp; omega) (fun j hj => (World.ownsRow.lt HO.out j hj).1)
        have R : Hid (w3.ownsRow w.heap.size 2 1 (.slice a' (k + 1) c') (k + 1) ((done ++ [m]).map (Value.int .i64))) := by
          show w3.ownsRow _ _ _ _ _ _
          rw [List.map_append]
          exact hown'
        clear hown' hgrow
        go_wp2_with fail
        go_roundw
        case rel => exact ⟨k + 1, done ++ [m], a', c', by omega, by go_num, rfl, HY2.out, by rw [List.length_append, List.length_singleton, HDL.out], R.out, hB⟩
        case measure => simp [intOf]; omega
    · have hke : k = n := by omega
      subst hke
      have E : Hid (Num.numsW ws = some done) := show _ = _ by have := HNM.out; rw [HN.out, List.take_length] at this; exact this
      go_wp2_with fail
      go_ret2
      rw [E.out]
      obtain ⟨a', c', hv, hi, hfar⟩ := Ints.ofOwnAny HO.out HDL.out.symm
      simp only [Value.slice.injEq] at hv
      obtain ⟨rfl, _, rfl⟩ := hv
      exact ⟨xa, k, xc, rfl, hi, by omega, hbl, hfar⟩

end Go.Proofs.YtipcbhodlgoflabDoor
