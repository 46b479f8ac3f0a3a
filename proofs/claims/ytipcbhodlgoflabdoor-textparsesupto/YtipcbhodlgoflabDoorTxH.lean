/- The document's split (chapter 9). -/
import Derived.Test.YtipcbhodlgoflabDoorTxB
import Derived.Test.YtipcbhodlgoflabDoorTxE
namespace Go.Proofs.YtipcbhodlgoflabDoor
open Go.RowKit

/-- How far a text is split. -/
def Splits (c : UInt8) (l : List UInt8) (i f : Nat) (parts : List (List UInt8)) : Prop :=
  (i ≤ l.length ∧ f ≤ i ∧ Num.splitW c l = parts ++ Num.splitW c (l.drop f) ∧ c ∉ (l.drop f).take (i - f)) ∨ (i = l.length + 1 ∧ Num.splitW c l = parts)

theorem Splits.few {c : UInt8} {l : List UInt8} {i f : Nat} {parts : List (List UInt8)} (h : Splits c l i f parts) : parts.length ≤ l.length + 1 := by
  have key : ∀ s : List UInt8, (Num.splitW c s).length ≤ s.length + 1 := by
    intro s
    induction s with
    | nil => exact Nat.le_refl _
    | cons x s ih =>
      unfold Num.splitW
      split
      · rw [List.length_cons, List.length_cons]; omega
      · split
        · simp
        · rename_i w r e
          rw [e, List.length_cons] at ih
          rw [List.length_cons, List.length_cons]
          omega
  have hk := key l
  rcases h with ⟨_, _, h, _⟩ | ⟨_, h⟩
  · rw [h, List.length_append] at hk; omega
  · rw [h] at hk; exact hk

theorem splits_word {c : UInt8} {l : List UInt8} {i f : Nat} {parts : List (List UInt8)} (h : Splits c l i f parts) (hi : i < l.length) (hc : l[i]'hi ≠ c) : Splits c l (i + 1) f parts := by
  rcases h with ⟨h1, h2, h3, h4⟩ | ⟨h1, _⟩
  · refine Or.inl ⟨hi, by omega, h3, ?_⟩
    rw [show i + 1 - f = (i - f) + 1 by omega, List.take_add_one]
    intro hm
    rcases List.mem_append.1 hm with hm | hm
    · exact h4 hm
    · rw [List.getElem?_drop, show f + (i - f) = i by omega, List.getElem?_eq_getElem hi] at hm
      simp at hm
      exact hc hm.symm
  · omega

theorem splits_part {c : UInt8} {l : List UInt8} {i f : Nat} {parts : List (List UInt8)} (h : Splits c l i f parts) (hi : i < l.length) (hc : l[i]'hi = c) : Splits c l (i + 1) (i + 1) (parts ++ [(l.drop f).take (i - f)]) := by
  rcases h with ⟨h1, h2, h3, h4⟩ | ⟨h1, _⟩
  · refine Or.inl ⟨hi, Nat.le_refl _, ?_, by simp⟩
    have e : l.drop f = (l.drop f).take (i - f) ++ c :: l.drop (i + 1) := by
      have e1 : (l.drop f).drop (i - f) = c :: l.drop (i + 1) := by
        rw [List.drop_drop, show f + (i - f) = i by omega, List.drop_eq_getElem_cons hi, hc]
      rw [← e1, List.take_append_drop]
    have e2 : Num.splitW c (l.drop f) = (l.drop f).take (i - f) :: Num.splitW c (l.drop (i + 1)) := by
      have := Num.split_more c ((l.drop f).take (i - f)) (l.drop (i + 1)) h4
      rw [← e] at this
      exact this
    rw [h3, e2]
    simp
  · omega

theorem splits_end {c : UInt8} {l : List UInt8} {i f : Nat} {parts : List (List UInt8)} (h : Splits c l i f parts) (hi : i = l.length) : Splits c l (i + 1) (i + 1) (parts ++ [(l.drop f).take (i - f)]) := by
  rcases h with ⟨h1, h2, h3, h4⟩ | ⟨h1, _⟩
  · refine Or.inr ⟨by omega, ?_⟩
    have e : (l.drop f).take (i - f) = l.drop f := List.take_of_length_le (by rw [List.length_drop]; omega)
    rw [e] at h4 ⊢
    rw [h3, Num.split_word c _ h4]
  · omega

set_option maxRecDepth 8000 in
set_option maxHeartbeats 1600000 in
theorem split_any (c : UInt8) (x : Int) (hx : x = (c.toNat : Int)) (l : List UInt8) (hl : l.length ≤ 2000000) (w : World) :
    Calls Tryd.prog 23 #[.string (B8 l), .int .u8 x] w fun e w' => ∃ a n k, e = .returned (.slice a n k) ∧ w'.ownsRow w.heap.size 9 1 (.slice a n k) n (strs (Num.splitW c l)) ∧ Below w.heap.size w w' := by
  obtain ⟨i0, hif, hz0, hz1, hz2⟩ := info_parts Tryd.infoStr
  have HX : Hid (x = (c.toNat : Int)) := hx
  have hsz : (B8 l).size = l.length := B8_size l
  have HG : Hid (∀ (i : Nat) (h : i < (B8 l).size) (h' : i < l.length), (B8 l)[i]'h = l[i]'h') := fun i h h' => get_B8 l i h h'
  have HE : Hid (∀ i j, (B8 l).extract i j = B8 ((l.drop i).take (j - i))) := extract_B8 l
  generalize B8 l = S at hsz HG HE
  obtain ⟨n, hll⟩ : ∃ n, l.length = n := ⟨_, rfl⟩
  have HN : Hid (l.length = n) := hll
  rw [hll] at hsz hl
  have HLN : Hid (n ≤ 2000000) := hl
  clear hx hll hl
  go_enter Tryd.func23, Tryd.ntmps23
  go_wp2_with fail
  go_loopw [5, 6, 7] (fun v fv iv wr => ∃ (i f : Nat) (parts : List (List UInt8)) (a : Option Addr) (k : Nat), iv = .int .i64 i ∧ fv = .int .i64 f ∧ v = .slice a parts.length k ∧ i ≤ n + 1 ∧ Splits c l i f parts ∧ wr.ownsRow w.heap.size 9 1 (.slice a parts.length k) parts.length (strs parts) ∧ Below w.heap.size w wr) (fun _ _ iv _ => n + 1 - (intOf iv).toNat)
  case atStart => exact ⟨0, 0, [], none, 0, rfl, rfl, rfl, by omega, Or.inl ⟨Nat.zero_le _, Nat.le_refl _, by simp, by simp⟩, World.ownsRow_nil _ _ _ _, Below.refl _ _⟩
  case round =>
    obtain ⟨i, f, parts, a, k, rfl, rfl, rfl, hi, hsp, hown, hbl⟩ := hrel
    have HSP : Hid (Splits c l i f parts) := hsp
    have hfew := hsp.few
    rw [HN.out] at hfew
    have HFI : Hid (i ≤ n → f ≤ i) := fun h => by
      rcases hsp with ⟨_, h2, _⟩ | ⟨h1, _⟩
      · exact h2
      · have := HN.out; omega
    have HO : Hid (wr.ownsRow w.heap.size 9 1 (.slice a parts.length k) parts.length (strs parts)) := hown
    generalize hpl : parts.length = pl at *
    have HPL : Hid (parts.length = pl) := hpl
    clear hsp hown hpl
    by_cases h1 : (i : Int) ≤ n
    · have hfi := HFI.out (by omega)
      have hln := HLN.out
      have hex : S.extract f i = B8 ((l.drop f).take (i - f)) := HE.out f i
      have HAP : Hid (∀ W, Below wr.heap.size wr W → W.ownsRow w.heap.size 9 1 (.slice a pl k) pl (strs parts)) := fun W h => ownsRow_later HO.out h
      by_cases h2 : i = n
      · subst h2
        have heq : ((i : Int) == (i : Int)) = true := by simp
        have R0 : Hid (Splits c l (i + 1) (i + 1) (parts ++ [(l.drop f).take (i - f)])) := splits_end HSP.out (by have := HN.out; omega)
        generalize (l.drop f).take (i - f) = piece at hex R0
        go_wp2_with (at_builtin; refine wpList_append_own _ rfl (.tmp 25) (.tmp 30) 41 rfl w.heap.size 9 i0 (.string ⟨#[]⟩) 1 16 Tryd.underlying41 hif hz0 hz1 hz2 rfl (by decide) _ _ _ rfl (by exact World.ownsRow.alloc HO.out _) ⟨wr.heap.size, 0, none⟩ 1 1 [.string (B8 piece)] rfl rfl ?cn1a ?cn2a ?cn3a ?cn4a ?cn5a ?_)
        case cn1a => first | exact news_one rfl _ _ | exact news_one' rfl _ _
        case cn2a => first | rfl | (intro u hu; simp at hu; subst hu; rfl)
        case cn3a => unfold maxLen; omega
        case cn4a => omega
        case cn5a => have := hbl.size; simp; omega
        intro v' w3 hown' hgrow _
        obtain ⟨a', c', hv'⟩ := own_shape hown'
        subst hv'
        have hB : Below w.heap.size w w3 := Below.grown (by exact hbl.alloc hbl.size _) hgrow (by have := hbl.size; simp; omega) (fun j hj => (World.ownsRow.lt HO.out j hj).1)
        have R : Hid (w3.ownsRow w.heap.size 9 1 (.slice a' (parts ++ [piece]).length c') (parts ++ [piece]).length (strs (parts ++ [piece]))) := by
          show w3.ownsRow _ _ _ _ _ _
          rw [strs_append, List.length_append, List.length_singleton, HPL.out]
          exact hown'
        have HPE : Hid ((parts ++ [piece]).length = pl + 1) := show _ = _ by rw [List.length_append, List.length_singleton, HPL.out]
        clear hown' hgrow
        go_wp2_with fail
        go_roundw
        case rel => exact ⟨i + 1, i + 1, parts ++ [piece], a', c', by go_num, by go_num, by rw [HPE.out], by omega, R0.out, R.out, hB⟩
        case measure => simp [intOf]
      · have hin : i < n := by omega
        have heq : ((i : Int) == (n : Int)) = false := by rw [beq_eq_false_iff_ne]; omega
        have hil : i < l.length := by have := HN.out; omega
        have hgi : ∀ h, S[i]'h = l[i]'hil := fun h => HG.out i h hil
        by_cases hc : l[i]'hil = c
        · have R0 : Hid (Splits c l (i + 1) (i + 1) (parts ++ [(l.drop f).take (i - f)])) := splits_part HSP.out hil hc
          have hcx : (((l[i]'hil).toNat : Int) == x) = true := by rw [hc, HX.out]; simp
          generalize (l.drop f).take (i - f) = piece at hex R0
          generalize l[i]'hil = ci at hgi hcx
          clear hc
          go_wp2_with (at_builtin; refine wpList_append_own _ rfl (.tmp 25) (.tmp 30) 41 rfl w.heap.size 9 i0 (.string ⟨#[]⟩) 1 16 Tryd.underlying41 hif hz0 hz1 hz2 rfl (by decide) _ _ _ rfl (by exact World.ownsRow.alloc HO.out _) ⟨wr.heap.size, 0, none⟩ 1 1 [.string (B8 piece)] rfl rfl ?cn1b ?cn2b ?cn3b ?cn4b ?cn5b ?_)
          case cn1b => first | exact news_one rfl _ _ | exact news_one' rfl _ _
          case cn2b => first | rfl | (intro u hu; simp at hu; subst hu; rfl)
          case cn3b => unfold maxLen; omega
          case cn4b => omega
          case cn5b => have := hbl.size; simp; omega
          intro v' w3 hown' hgrow _
          obtain ⟨a', c', hv'⟩ := own_shape hown'
          subst hv'
          have hB : Below w.heap.size w w3 := Below.grown (by exact hbl.alloc hbl.size _) hgrow (by have := hbl.size; simp; omega) (fun j hj => (World.ownsRow.lt HO.out j hj).1)
          have R : Hid (w3.ownsRow w.heap.size 9 1 (.slice a' (parts ++ [piece]).length c') (parts ++ [piece]).length (strs (parts ++ [piece]))) := by
            show w3.ownsRow _ _ _ _ _ _
            rw [strs_append, List.length_append, List.length_singleton, HPL.out]
            exact hown'
          have HPE : Hid ((parts ++ [piece]).length = pl + 1) := show _ = _ by rw [List.length_append, List.length_singleton, HPL.out]
          clear hown' hgrow
          go_wp2_with fail
          go_roundw
          case rel => exact ⟨i + 1, i + 1, parts ++ [piece], a', c', by go_num, by go_num, by rw [HPE.out], by omega, R0.out, R.out, hB⟩
          case measure => simp [intOf]; omega
        · have R0 : Hid (Splits c l (i + 1) f parts) := splits_word HSP.out hil hc
          have hcx : (((l[i]'hil).toNat : Int) == x) = false := by
            rw [beq_eq_false_iff_ne, HX.out]
            intro e
            exact hc (UInt8.toNat_inj.1 (by omega))
          generalize l[i]'hil = ci at hgi hcx
          clear hc hex
          go_wp2_with fail
          go_roundw
          case rel => exact ⟨i + 1, f, parts, a, k, by go_num, rfl, by rw [HPL.out], by omega, R0.out, by rw [HPL.out]; exact HO.out, hbl⟩
          case measure => simp [intOf]; omega
    · go_wp2_with fail
      go_ret
      have hie : i = l.length + 1 := by have := HN.out; omega
      rcases HSP.out with ⟨h, _⟩ | ⟨_, h⟩
      · omega
      · refine ⟨a, pl, k, rfl, ?_, hbl⟩
        rw [h]
        exact HO.out

end Go.Proofs.YtipcbhodlgoflabDoor
