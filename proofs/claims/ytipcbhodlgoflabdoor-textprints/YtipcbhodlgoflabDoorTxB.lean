/- Package text's reading: numbers, a first line, a row. -/
import Derived.Test.YtipcbhodlgoflabDoorTxA
namespace Go.Proofs.YtipcbhodlgoflabDoor
open Go.RowKit

theorem extract_B8 (l : List UInt8) (i j : Nat) : (B8 l).extract i j = B8 ((l.drop i).take (j - i)) := by
  rw [Lib.extract_eq, B8_list]
  rfl

theorem extract_B8_from (l : List UInt8) (i : Nat) : (B8 l).extract i (B8 l).size = B8 (l.drop i) := by
  rw [extract_B8, B8_size, List.take_of_length_le (by rw [List.length_drop]; exact Nat.le_refl _)]

theorem get_B8 (l : List UInt8) (i : Nat) (h : i < (B8 l).size) (h' : i < l.length) : (B8 l)[i]'h = l[i]'h' := by
  unfold B8
  exact List.getElem_toArray ..

def lenV : Value → Nat
  | .string s => s.size
  | _ => 0

theorem ownsRow_later {w w' : World} {base : Nat} {e : TypeId} {size n : Nat} {v : Value} {xs : List Value} (h : w.ownsRow base e size v n xs) (hb : Below w.heap.size w w') : w'.ownsRow base e size v n xs :=
  h.kept (row := none) ⟨hb.os, hb.tape, hb.output, hb.size, fun k hk _ => hb.block k hk⟩ (by cases hv : v.ownBlock <;> simp)

theorem cut_word (t : List UInt8) : (Lib.cut t [32]).1.length ≤ t.length := by
  rcases Num.byte_first 32 t with h | ⟨a, b, rfl, h⟩
  · rw [Num.cut_no 32 t h]; exact Nat.le_refl _
  · rw [Num.cut_yes 32 a b h]; simp

set_option maxRecDepth 8000 in
set_option maxHeartbeats 1600000 in
theorem readNumbers_any (l : List UInt8) (hl : l.length < 4294967281) (w : World) (hL : Laid w) :
    Calls Tryd.prog 39 #[.string (B8 l)] w fun e w' => ∃ a n c, e = .returned (.tuple #[.slice a n c, .bool (Num.rdNums l).isSome]) ∧ Ints w' a n (((Num.rdNums l).getD []).take 5) ∧ n ≤ 5 ∧ Below w.heap.size w w' ∧ (n = 0 ∨ ∃ g, a = some ⟨g, 0, none⟩ ∧ w.heap.size ≤ g) := by
  obtain ⟨i0, hif, hz0, hz1, hz2⟩ := info_parts Tryd.info64
  have HT : Hid (Laid w) := hL
  have HLL : Hid (l.length < 4294967281) := hl
  clear hL hl
  go_enter Tryd.func39, Tryd.ntmps39
  go_wp2_with fail
  go_loopw [0, 4] (fun s vv wr => ∃ rest done, s = .string (B8 rest) ∧ rest.length ≤ l.length ∧ Num.rdNums l = (Num.rdNums rest).map (done ++ ·) ∧
      wr.ownsRow w.heap.size 2 1 vv (done.take 5).length ((done.take 5).map (Value.int .i64)) ∧ Below w.heap.size w wr) (fun s _ _ => lenV s)
  case atStart => exact ⟨l, [], rfl, Nat.le_refl _, by simp, World.ownsRow_nil _ _ _ _, Below.refl _ _⟩
  case round =>
    obtain ⟨rest, done, rfl, hlen, hrd, hown, hbl⟩ := hrel
    have HRD : Hid (Num.rdNums l = (Num.rdNums rest).map (done ++ ·)) := hrd
    have HLEN : Hid (rest.length ≤ l.length) := hlen
    clear hrd hlen
    obtain ⟨a4, c4, hv4⟩ := own_shape hown
    subst hv4
    have hn5 : (done.take 5).length ≤ 5 := by rw [List.length_take]; omega
    have HD5 : Hid ((done.take 5).length = min 5 done.length) := List.length_take
    generalize hdl : (done.take 5).length = dl at *
    have HDL : Hid ((done.take 5).length = dl) := hdl
    have HO : Hid (wr.ownsRow w.heap.size 2 1 (.slice a4 dl c4) dl ((done.take 5).map (Value.int .i64))) := hown
    clear hown hdl
    cases rest with
    | nil =>
      have hq : (B8 []).toList.isEmpty = true := by rw [B8_toList]; rfl
      generalize hS : B8 [] = S at hq
      clear hS
      go_wp2_with fail
      go_ret2
      have e : Num.rdNums l = some done := by rw [HRD.out]; show some (done ++ []) = _; rw [List.append_nil]
      rw [e]
      obtain ⟨a', c', hv, hi, hfar⟩ := Ints.ofOwnAny HO.out HDL.out.symm
      simp only [Value.slice.injEq] at hv
      obtain ⟨rfl, _, rfl⟩ := hv
      exact ⟨a4, dl, c4, rfl, hi, hn5, hbl, hfar⟩
    | cons c t =>
      have hq : (B8 (c :: t)).toList.isEmpty = false := by rw [B8_toList]; rfl
      have hsz : 0 < (B8 (c :: t)).size := by rw [B8_size]; simp
      have hc0 : ∀ h, (B8 (c :: t))[0]'h = c := fun h => get_B8 (c :: t) 0 h (by simp)
      have hx : (B8 (c :: t)).extract 1 (B8 (c :: t)).size = B8 t := extract_B8_from (c :: t) 1
      have HX : Hid (∀ i, (B8 (c :: t)).extract i (B8 (c :: t)).size = B8 ((c :: t).drop i)) := extract_B8_from (c :: t)
      have HSZ : Hid ((B8 (c :: t)).size = t.length + 1) := by show _ = _; rw [B8_size]; rfl
      generalize B8 (c :: t) = S at hq hsz hc0 hx HX HSZ
      have HTL : Hid (t.length + 1 < 4294967281) := by have h1 := HLEN.out; have h2 := HLL.out; rw [List.length_cons] at h1; show _ < _; omega
      by_cases hc : c = 32
      · subst hc
        have hd : ((((32 : UInt8).toNat : Nat) : Int) != 32) = false := by decide
        go_wp2_with fail
        refine (cut_any t [32] (by have := HTL.out; omega) wr (HT.out.later hbl)).mono ?_
        rintro e w1 ⟨rfl, hb1⟩
        have HST : Hid (Num.rdNums (32 :: t) = (Num.numW (Lib.cut t [32]).1).bind fun n => (Num.rdNums (t.drop (Lib.cut t [32]).1.length)).map (n :: ·)) := Num.rd_step t
        have HWL : Hid ((Lib.cut t [32]).1.length ≤ t.length) := cut_word t
        generalize (Lib.cut t [32]).1 = word at HST HWL
        generalize (Lib.cut t [32]).2.1 = more
        generalize (Lib.cut t [32]).2.2 = ended
        have hbl1 : Below w.heap.size w w1 := hbl.trans (hb1.mono hbl.size)
        have HO1 : Hid (w1.ownsRow w.heap.size 2 1 (.slice a4 dl c4) dl ((done.take 5).map (Value.int .i64))) := ownsRow_later HO.out hb1
        clear hb1
        go_wp2_with fail
        refine (readNumber_any word (by have := HWL.out; have := HTL.out; omega) w1 (HT.out.later hbl1)).mono ?_
        rintro e w2 ⟨rfl, hb2⟩
        have hbl2 : Below w.heap.size w w2 := hbl1.trans (hb2.mono hbl1.size)
        have HO2 : Hid (w2.ownsRow w.heap.size 2 1 (.slice a4 dl c4) dl ((done.take 5).map (Value.int .i64))) := ownsRow_later HO1.out hb2
        clear hb2 HO1 HO hbl hbl1
        cases hnw : Num.numW word with
        | none =>
          have E : Hid (Num.rdNums l = none) := show Num.rdNums l = none by rw [HRD.out, HST.out, hnw]; rfl
          clear hnw
          show _
          simp only [Option.getD_none, Option.isSome_none]
          go_wp2_with fail
          go_ret2
          rw [E.out]
          exact ⟨none, 0, 0, rfl, ⟨rfl, Or.inl rfl⟩, by omega, hbl2, Or.inl rfl⟩
        | some n =>
          have E : Hid (Num.rdNums l = (Num.rdNums (t.drop word.length)).map ((done ++ [n]) ++ ·)) := show _ = _ by
            rw [HRD.out, HST.out, hnw]
            show ((Num.rdNums (t.drop word.length)).map (n :: ·)).map (done ++ ·) = _
            cases Num.rdNums (t.drop word.length) <;> simp
          clear hnw
          simp only [Option.getD_some, Option.isSome_some]
          have hwl : (B8 word).size = word.length := B8_size word
          have HD : Hid (S.extract (1 + word.length) S.size = B8 (t.drop word.length)) := show _ = _ by rw [HX.out, Nat.add_comm 1]; rfl
          have hs1 : (1 : Int) + word.length ≤ S.size := by have := HSZ.out; have := HWL.out; omega
          have hs2 : (1 : Int) + word.length ≤ 4294967281 := by have := HWL.out; have := HTL.out; omega
          clear hx hc0
          have hw1 : wrap64 ((1 : Int) + word.length) = (1 : Int) + word.length := IntWalk.wrap64_in _ (by omega)
          have hex : S.extract (((1 : Int) + word.length).toNat) S.size = B8 (t.drop word.length) := by
            rw [show ((1 : Int) + word.length).toNat = 1 + word.length by omega]; exact HD.out
          by_cases h4 : (dl : Int) ≤ 4
          · go_wp2_with (at_builtin; refine wpList_append_own _ rfl (.tmp 32) (.tmp 34) 22 rfl w.heap.size 2 i0 (.int .i64 0) 1 8 Tryd.underlying22 hif hz0 hz1 hz2 rfl (by decide) _ _ _ rfl (by exact World.ownsRow.alloc HO2.out _) ⟨w2.heap.size, 0, none⟩ 1 1 [.int .i64 n] rfl rfl ?cn1 ?cn2 ?cn3 ?cn4 ?cn5 ?_)
            case cn1 => first | exact news_one rfl _ _ | exact news_one' rfl _ _
            case cn2 => first | rfl | (intro u hu; simp at hu; subst hu; rfl)
            case cn3 => unfold maxLen; omega
            case cn4 => omega
            case cn5 => have := hbl2.size; simp; omega
            intro v' w3 hown' hgrow _
            obtain ⟨a', c', hv'⟩ := own_shape hown'
            subst hv'
            have hB : Below w.heap.size w w3 := Below.grown (by exact hbl2.alloc hbl2.size _) hgrow (by have := hbl2.size; simp; omega) (fun j hj => (World.ownsRow.lt HO2.out j hj).1)
            have R : Hid (w3.ownsRow w.heap.size 2 1 (.slice a' (dl + 1) c') ((done ++ [n]).take 5).length (((done ++ [n]).take 5).map (Value.int .i64))) := by
              have hd5 := HD5.out
              have hdl := HDL.out
              have e1 : done.take 5 = done := List.take_of_length_le (by omega)
              have e2 : (done ++ [n]).take 5 = done ++ [n] := List.take_of_length_le (by rw [List.length_append, List.length_singleton]; omega)
              show w3.ownsRow _ _ _ _ _ _
              rw [e2, List.length_append, List.length_singleton, List.map_append]
              rw [← List.map_take, e1] at hown'
              rw [e1] at hdl
              rw [hdl]
              exact hown'
            clear hown' hgrow
            go_wp2_with fail
            go_roundw
            case rel => exact ⟨t.drop word.length, done ++ [n], rfl, by rw [List.length_drop]; have := HLEN.out; rw [List.length_cons] at this; omega, E.out, R.out, hB⟩
            case measure => show (B8 (t.drop word.length)).size < S.size; rw [B8_size, List.length_drop, HSZ.out]; omega
          · have R : Hid (w2.ownsRow w.heap.size 2 1 (.slice a4 dl c4) ((done ++ [n]).take 5).length (((done ++ [n]).take 5).map (Value.int .i64))) := by
              have hd5 := HD5.out
              have hdl := HDL.out
              have e2 : (done ++ [n]).take 5 = done.take 5 := List.take_append_of_le_length (by omega)
              show w2.ownsRow _ _ _ _ _ _
              rw [e2, hdl]
              exact HO2.out
            go_wp2_with fail
            go_roundw
            case rel => exact ⟨t.drop word.length, done ++ [n], rfl, by rw [List.length_drop]; have := HLEN.out; rw [List.length_cons] at this; omega, E.out, R.out, hbl2⟩
            case measure => show (B8 (t.drop word.length)).size < S.size; rw [B8_size, List.length_drop, HSZ.out]; omega
      · have hd : (((c.toNat : Nat) : Int) != 32) = true := by
          rw [bne_iff_ne]
          intro e
          exact hc (UInt8.toNat_inj.1 (by show c.toNat = 32; omega))
        have E : Hid (Num.rdNums l = none) := show Num.rdNums l = none by rw [HRD.out, Num.rd_bad c t hc]; rfl
        go_wp2_with fail
        go_ret2
        rw [E.out]
        exact ⟨none, 0, 0, rfl, ⟨rfl, Or.inl rfl⟩, by omega, hbl, Or.inl rfl⟩

set_option maxRecDepth 8000 in
set_option maxHeartbeats 800000 in
theorem readCosts_any (l : List UInt8) (hl : l.length < 4294967281) (w : World) (hL : Laid w) :
    Calls Tryd.prog 32 #[.string (B8 l)] w fun e w' => ∃ a n c, e = .returned (.tuple #[.slice a n c, .bool (Num.headP l).isSome]) ∧ Ints w' a n (((Num.headP l).getD []).take 5) ∧ n ≤ 5 ∧ Below w.heap.size w w' ∧ (n = 0 ∨ ∃ g, a = some ⟨g, 0, none⟩ ∧ w.heap.size ≤ g) := by
  have HT : Hid (Laid w) := hL
  have HLL : Hid (l.length < 4294967281) := hl
  clear hL hl
  go_enter Tryd.func32, Tryd.ntmps32
  go_wp2_with fail
  refine (cutPrefix_any l Num.mostW w).mono ?_
  rintro e w1 ⟨rfl, rfl⟩
  have HQ : Hid (Num.headP l = if Num.mostW.isPrefixOf l = true then Num.rdNums (l.drop 4) else none) := (Num.head_q l).symm
  by_cases hp : Num.mostW.isPrefixOf l = true
  · have E : Hid (Num.headP l = Num.rdNums (l.drop 4)) := show _ = _ by rw [HQ.out, if_pos hp]
    rw [hp, if_pos rfl]
    clear hp
    show _
    rw [show l.drop Num.mostW.length = l.drop 4 from rfl]
    go_wp2_with fail
    refine (readNumbers_any (l.drop 4) (by rw [List.length_drop]; have := HLL.out; omega) _ HT.out).mono ?_
    rintro e w2 ⟨a, n, c, rfl, hi, hn, hb, hfar⟩
    have HI : Hid (Ints w2 a n (((Num.rdNums (l.drop 4)).getD []).take 5)) := hi
    clear hi
    generalize hr : (Num.rdNums (l.drop 4)).isSome = ok
    go_wp2_with fail
    go_ret2
    rw [E.out, hr]
    exact ⟨a, n, c, rfl, HI.out, hn, hb, hfar⟩
  · have E : Hid (Num.headP l = none) := show _ = _ by rw [HQ.out, if_neg hp]
    rw [Bool.eq_false_iff.2 hp]
    clear hp
    generalize (if false = true then l.drop Num.mostW.length else l) = m
    go_wp2_with fail
    go_ret2
    rw [E.out]
    exact ⟨none, 0, 0, rfl, ⟨rfl, Or.inl rfl⟩, by omega, Below.refl _ _, Or.inl rfl⟩

theorem cut_short (s sep : List UInt8) : (Lib.cut s sep).1.length ≤ s.length ∧ (Lib.cut s sep).2.1.length ≤ s.length := by
  unfold Lib.cut
  split
  · constructor
    · show (s.take _).length ≤ _; rw [List.length_take]; omega
    · show (s.drop _).length ≤ _; rw [List.length_drop]; omega
  · constructor
    · exact Nat.le_refl _
    · simp

theorem append_B8 (l m : List UInt8) : B8 l ++ B8 m = B8 (l ++ m) := by
  apply ByteArray.ext
  rw [ByteArray.data_append]
  simp [B8]

set_option maxRecDepth 8000 in
set_option maxHeartbeats 1600000 in
theorem readRow_any (l : List UInt8) (hl : l.length < 4294967280) (w : World) (hL : Laid w) :
    Calls Tryd.prog 33 #[.string (B8 l)] w fun e w' => ∃ a n c m o, e = .returned (.tuple #[.agg #[.slice a n c, .int .i64 m], .bool (Num.rowP l).isSome]) ∧ Ints w' a n (List.take 5 o) ∧ n ≤ 5 ∧ (∀ q, Num.rowP l = some q → q = (o, m)) ∧ Below w.heap.size w w' ∧ (n = 0 ∨ ∃ g, a = some ⟨g, 0, none⟩ ∧ w.heap.size ≤ g) := by
  have HT : Hid (Laid w) := hL
  have HLL : Hid (l.length < 4294967280) := hl
  clear hL hl
  have hap : (ByteArray.mk #[32]) ++ B8 l = B8 (32 :: l) := append_B8 [32] l
  have hsz : (B8 l).size ≤ 4294967280 := by rw [B8_size]; have := HLL.out; omega
  have HQ : Hid (Num.rowP l = if (Lib.cut (32 :: l) Num.sepW).2.2 = true then (Num.rdNums (Lib.cut (32 :: l) Num.sepW).1).bind fun o => (Num.numW (Lib.cut (32 :: l) Num.sepW).2.1).map fun m => (o, m) else none) := (Num.row_q l).symm
  have HC1 : Hid ((Lib.cut (32 :: l) Num.sepW).1.length ≤ l.length + 1) := (cut_short (32 :: l) Num.sepW).1
  have HC2 : Hid ((Lib.cut (32 :: l) Num.sepW).2.1.length ≤ l.length + 1) := (cut_short (32 :: l) Num.sepW).2
  go_enter Tryd.func33, Tryd.ntmps33
  go_wp2_with fail
  refine (cut_any (32 :: l) Num.sepW (by rw [List.length_cons]; have := HLL.out; omega) _ (HT.out.later (balloc w _))).mono ?_
  rintro e w1 ⟨rfl, hb1⟩
  generalize (Lib.cut (32 :: l) Num.sepW).1 = of at HQ HC1
  generalize (Lib.cut (32 :: l) Num.sepW).2.1 = most at HQ HC2
  generalize (Lib.cut (32 :: l) Num.sepW).2.2 = parted at HQ
  have hB1 : Below w.heap.size w w1 := binto hb1
  go_wp2_with fail
  refine (readNumbers_any of (by have := HC1.out; have := HLL.out; omega) _ (HT.out.later hB1)).mono ?_
  rintro e w2 ⟨a, n, c, rfl, hi, hn, hb2, hfar⟩
  have hb02 := hb1.trans (hb2.mono hb1.size)
  have hB2 : Below w.heap.size w w2 := binto hb02
  have hfar1 : n = 0 ∨ ∃ g, a = some ⟨g, 0, none⟩ ∧ w.heap.size + 1 ≤ g := by
    rcases hfar with h | ⟨g, h, h'⟩
    · exact Or.inl h
    · have := hb1.size; simp at this; exact Or.inr ⟨g, h, by omega⟩
  have HI : Hid (Ints w2 a n (((Num.rdNums of).getD []).take 5)) := hi
  clear hi hb1 hb2 hfar
  generalize hfine : (Num.rdNums of).isSome = fine
  have HF : Hid ((Num.rdNums of).isSome = fine) := hfine
  clear hfine
  go_wp2_with fail
  refine (readNumber_any most (by have := HC2.out; have := HLL.out; omega) _ (HT.out.later hB2)).mono ?_
  rintro e w3 ⟨rfl, hb3⟩
  have hb03 := hb02.trans (hb3.mono hb02.size)
  have hB3 : Below w.heap.size w w3 := binto hb03
  have HI3 : Hid (Ints w3 a n (((Num.rdNums of).getD []).take 5)) := Ints.below HI.out hb3 (Nat.le_refl _)
  generalize hw : (Num.numW most).isSome = whole
  generalize hm : (Num.numW most).getD 0 = m
  have HW : Hid ((Num.numW most).isSome = whole) := hw
  have HM : Hid ((Num.numW most).getD 0 = m) := hm
  have c0 : w3.cell? ⟨w.heap.size, 0, none⟩ = some (.slice none 0 0) := by rw [(bkept hb03 0).1]; go_simp
  have c1 : w3.cell? ⟨w.heap.size, 1, none⟩ = some (.int .i64 0) := by rw [(bkept hb03 1).1]; go_simp
  have f0 : w3.frozen? ⟨w.heap.size, 0, none⟩ = false := by rw [hb03.frozen (by simp)]; go_simp
  have f1 : w3.frozen? ⟨w.heap.size, 1, none⟩ = false := by rw [hb03.frozen (by simp)]; go_simp
  have HE : Hid ((Num.rowP l).isSome = (parted && fine && whole)) := by
    show _ = _
    rw [HQ.out, ← HF.out, ← HW.out]
    cases parted with
    | false => rfl
    | true => cases Num.rdNums of <;> cases Num.numW most <;> rfl
  have HV : Hid (∀ q, Num.rowP l = some q → q = ((Num.rdNums of).getD [], m)) := by
    show ∀ q, _
    intro q hq
    rw [HQ.out] at hq
    rw [← HM.out]
    cases parted with
    | false => cases hq
    | true =>
      cases h1 : Num.rdNums of with
      | none => rw [h1] at hq; cases hq
      | some o =>
        cases h2 : Num.numW most with
        | none => rw [h1, h2] at hq; cases hq
        | some k => rw [h1, h2] at hq; exact (Option.some.inj hq).symm
  clear hb02 hb3 hb03 hw hm hB1 hB2
  cases parted <;> cases fine <;> cases whole <;> (
    go_wp2_with fail
    refine bodyPost_ret (v := .tuple #[.agg #[.slice a n c, .int .i64 m], .bool _]) (by simp [results, Tryd.results33, go_sem, c0, c1]; rfl) rfl ⟨a, n, c, m, (Num.rdNums of).getD [], by rw [HE.out]; rfl, Ints.set (Ints.set HI3.out hfar1 (by simp) _) hfar1 (by simp) _, hn, HV.out, (hB3.setCell (Nat.le_refl _) _).setCell (Nat.le_refl _) _, by rcases hfar1 with h | ⟨g, h, h'⟩; exact Or.inl h; exact Or.inr ⟨g, h, by omega⟩⟩)

end Go.Proofs.YtipcbhodlgoflabDoor
