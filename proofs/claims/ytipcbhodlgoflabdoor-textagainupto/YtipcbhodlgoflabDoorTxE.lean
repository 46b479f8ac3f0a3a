/- Package text's writing: written, and the closure that puts a line. -/
import Derived.Test.YtipcbhodlgoflabDoorTxA
import Derived.Deep.AppendLies
import Derived.Deep.RegionLaw
namespace Go.Proofs.YtipcbhodlgoflabDoor
open Go.RowKit

theorem Tryd.infoStr : (Tryd.prog.info? 9).map (fun i => (i.zero, i.size, i.bytes)) = some (some (.string ⟨#[]⟩), 1, 16) := by kernel_rfl

/-- Words as cells. -/
def strs (ws : List (List UInt8)) : List Value := ws.map fun s => .string (B8 s)

theorem strs_append (a b : List (List UInt8)) : strs (a ++ b) = strs a ++ strs b := List.map_append
theorem strs_length (a : List (List UInt8)) : (strs a).length = a.length := List.length_map ..

/-- Where a row lies that has grown. -/
def Near (w : World) (v0 v : Value) : Prop := ∀ g, v.ownBlock = some g → v0.ownBlock = some g ∨ w.heap.size ≤ g

theorem Ints.grownAny {W w2 : World} {row : Option Nat} {a : Option Addr} {n : Nat} {l : List Int} (hi : Ints W a n l) (hg : W.grownBy w2 row) (hne : ∀ b off, a = some ⟨b, off, none⟩ → some b ≠ row) : Ints w2 a n l := by
  refine ⟨hi.1, ?_⟩
  rcases hi.2 with h0 | ⟨b, off, hab, hb, hc⟩
  · exact Or.inl h0
  · refine Or.inr ⟨b, off, hab, Nat.lt_of_lt_of_le hb hg.size, fun j hj => ?_⟩
    rw [hg.cell_far ⟨b, off + j, none⟩ hb (hne b off hab)]
    exact hc j hj

set_option maxRecDepth 8000 in
set_option maxHeartbeats 1600000 in
theorem written_any (B : Nat) (va : Option Addr) (n vc : Nat) (ws : List (List UInt8)) (a : Option Addr) (len cap : Nat) (l : List Int) (w : World)
    (hown : w.ownsRow B 9 1 (.slice va n vc) n (strs ws)) (hB : B ≤ w.heap.size) (hi : Ints w a len l) (hne : ∀ b off, 0 < len → a = some ⟨b, off, none⟩ → some b ≠ (Value.slice va n vc).ownBlock)
    (hn : n ≤ 1000000) (hlen : len ≤ 1000000) (hl : ∀ j, j < len → -1000000 ≤ l[j]?.getD 0 ∧ l[j]?.getD 0 ≤ 1000000)
    (ht : ∀ w', Below B w w' → Lib.TabIs Tryd.prog w' "internal/strconv.uint64pow10" .u64 Lib.pow10Tab) :
    Calls Tryd.prog 18 #[.slice va n vc, .slice a len cap] w fun e w' => ∃ va' vc', e = .returned (.slice va' (n + len) vc') ∧ w'.ownsRow B 9 1 (.slice va' (n + len) vc') (n + len) (strs (ws ++ l.map Num.digI)) ∧ Near w (.slice va n vc) (.slice va' (n + len) vc') ∧ Below B w w' := by
  have HO : Hid (w.ownsRow B 9 1 (.slice va n vc) n (strs ws)) := hown
  have HI : Hid (Ints w a len l) := hi
  have HNE : Hid (∀ b off, 0 < len → a = some ⟨b, off, none⟩ → some b ≠ (Value.slice va n vc).ownBlock) := hne
  have HL : Hid (∀ j, j < len → -1000000 ≤ l[j]?.getD 0 ∧ l[j]?.getD 0 ≤ 1000000) := hl
  have HT : Hid (∀ w', Below B w w' → Lib.TabIs Tryd.prog w' "internal/strconv.uint64pow10" .u64 Lib.pow10Tab) := ht
  have HLN : Hid (len = l.length) := hi.1
  obtain ⟨i0, hif, hz0, hz1, hz2⟩ := info_parts Tryd.infoStr
  clear hown hi hne hl ht
  go_enter Tryd.func18, Tryd.ntmps18
  go_wp2_with fail
  go_loopw [0, 9] (fun vv i wr => ∃ (k : Nat) (xa : Option Addr) (xc : Nat), k ≤ len ∧ i = .int .i64 k ∧ vv = .slice xa (n + k) xc ∧ wr.ownsRow B 9 1 (.slice xa (n + k) xc) (n + k) (strs (ws ++ (l.take k).map Num.digI)) ∧ Near w (.slice va n vc) (.slice xa (n + k) xc) ∧ Ints wr a len l ∧ Below B w wr) (fun _ i _ => len - (intOf i).toNat)
  case atStart => exact ⟨0, va, vc, Nat.zero_le _, rfl, rfl, by simpa using HO.out, fun g h => Or.inl h, HI.out, Below.refl _ _⟩
  case round =>
    obtain ⟨k, xa, xc, hk, rfl, rfl, ho, hnear, hiw, hbl⟩ := hrel
    have HOK : Hid (wr.ownsRow B 9 1 (.slice xa (n + k) xc) (n + k) (strs (ws ++ (l.take k).map Num.digI))) := ho
    have HNR : Hid (Near w (.slice va n vc) (.slice xa (n + k) xc)) := hnear
    have HIW : Hid (Ints wr a len l) := hiw
    by_cases hlt : k < len
    · rcases hiw.2 with h0 | ⟨b, off, hab, hbs, hc⟩
      · omega
      have ck := hc k hlt
      have hx := HL.out k hlt
      have hkl : k < l.length := by have := HLN.out; omega
      generalize hxv : l[k]?.getD 0 = x at ck hx
      have HX : Hid (l[k]?.getD 0 = x) := hxv
      have HHX : Hid (-1000000 ≤ x ∧ x ≤ 1000000) := hx
      subst hab
      clear hc hiw ho hnear hxv hx
      go_wp2_with fail
      refine (format_any x (by have := HHX.out; omega) (by have := HHX.out; omega) wr (HT.out wr hbl)).mono ?_
      rintro e w1 ⟨rfl, hb1⟩
      have hbl1 : Below B w w1 := hbl.trans (hb1.mono (by have := hbl.size; omega))
      have HO1 : Hid (w1.ownsRow B 9 1 (.slice xa (n + k) xc) (n + k) (strs (ws ++ (l.take k).map Num.digI))) := World.ownsRow.kept (row := none) HOK.out ⟨hb1.os, hb1.tape, hb1.output, hb1.size, fun k hk _ => hb1.block k hk⟩ (by cases (Value.slice xa (n + k) xc).ownBlock <;> simp)
      have HI1 : Hid (Ints w1 (some ⟨b, off, none⟩) len l) := HIW.out.below hb1 (Nat.le_refl _)
      clear hb1 ck
      go_wp2_with (at_builtin; refine wpList_append_lies _ rfl (.tmp 13) (.tmp 16) 41 rfl B 9 i0 (.string ⟨#[]⟩) 1 16 Tryd.underlying41 hif hz0 hz1 hz2 rfl (by decide) _ _ _ rfl (by exact World.ownsRow.alloc HO1.out _) ⟨w1.heap.size, 0, none⟩ 1 1 [.string (B8 (Num.digI x))] rfl rfl ?cn1 ?cn2 (by decide) ?cn3 ?cn4 ?cn5 (w1.heap.size + 1) (by simp) ?_)
      case cn1 => first | exact news_one rfl _ _ | exact news_one' rfl _ _
      case cn2 => first | rfl | (intro u hu; simp at hu; subst hu; rfl)
      case cn3 => unfold maxLen; omega
      case cn4 => omega
      case cn5 => have := hbl1.size; simp; omega
      intro g cp w2 ho2 hg2 hat2 hlt2
      have hbl2 : Below B w w2 := Below.grown (by exact hbl1.alloc (by have := hbl1.size; omega) _) hg2 (by have := hbl1.size; simp; omega) (fun j hj => (World.ownsRow.lt HO1.out j hj).1)
      have R1 : Hid (w2.ownsRow B 9 1 (.slice (some ⟨g, 0, none⟩) (n + (k + 1)) cp) (n + (k + 1)) (strs (ws ++ (l.take (k + 1)).map Num.digI))) := by
        show w2.ownsRow _ _ _ _ _ _
        have hX := HX.out
        rw [List.getElem?_eq_getElem hkl, Option.getD_some] at hX
        rw [List.take_succ_eq_append_getElem hkl, hX, List.map_append, ← List.append_assoc, strs_append]
        first | exact ho2 | (rw [← List.map_take] at ho2; exact ho2)
      have R2 : Hid (Near w (.slice va n vc) (.slice (some ⟨g, 0, none⟩) (n + (k + 1)) cp)) := by
        intro g' e
        have e : g = g' := by simpa [Value.ownBlock] using e
        subst e
        rcases hat2 with h | h
        · exact HNR.out g h
        · have := hbl1.size; exact Or.inr (by omega)
      have R3 : Hid (Ints w2 (some ⟨b, off, none⟩) len l) := by
        refine Ints.grownAny (HI1.out.below (balloc w1 _) (Nat.le_refl _)) hg2 (fun b' off' e h => ?_)
        rcases HNR.out b' h.symm with h' | h'
        · exact HNE.out b' off' (by omega) e h'.symm
        · rcases HI.out.2 with h0 | ⟨b2, off2, e2, hb2, _⟩
          · omega
          · rw [e] at e2
            have := Option.some.inj e2
            simp only [Addr.mk.injEq] at this
            omega
      clear ho2 hg2 hat2
      go_wp2_with fail
      go_roundw
      case rel => exact ⟨k + 1, some ⟨g, 0, none⟩, cp, by omega, by go_num, rfl, R1.out, R2.out, R3.out, hbl2⟩
      case measure => simp [intOf]; omega
    · have hke : k = len := by omega
      subst hke
      clear hiw ho hnear
      go_wp2_with fail
      go_ret
      refine ⟨xa, xc, rfl, ?_, HNR.out, hbl⟩
      have := HOK.out
      rw [HLN.out, List.take_length, ← HLN.out] at this
      exact this

/-- A builder stays one while old blocks stand. -/
theorem builder_later {B b : Nat} {bs : List Value} {w w' : World} (h : Lib.IsBuilderF 40 5 B b bs w) (hb : Below w.heap.size w w') : Lib.IsBuilderF 40 5 B b bs w' := by
  have key : ∀ p, Lib.BuilderAtF 40 5 B b p bs w → Lib.BuilderAtF 40 5 B b p bs w' := by
    intro p hp
    have hlt := hp.lt
    obtain ⟨h1, v, h2, h3, h4⟩ := hp
    exact ⟨h1, v, by rw [hb.block b hlt]; exact h2, h3.kept (row := none) ⟨hb.os, hb.tape, hb.output, hb.size, fun k hk _ => hb.block k hk⟩ (by cases v.ownBlock <;> simp), h4⟩
  rcases h with h | h
  · exact Or.inl (key _ h)
  · exact Or.inr (key _ h)

theorem strs_get (ws : List (List UInt8)) : (ws.map B8).map (·.data.toList) = ws := by
  rw [List.map_map]
  have : ((fun x : ByteArray => x.data.toList) ∘ B8) = id := by funext l; exact B8_list l
  rw [this, List.map_id]

/-- strings.Join in our words. -/
theorem join_any (g c n : Nat) (ws : List (List UInt8)) (base : Nat) (w : World) (hown : w.ownsRow base 9 1 (.slice (some ⟨g, 0, none⟩) n c) n (strs ws)) (hn : 1 ≤ n) (hn2 : n ≤ 1000000) (hj : (Num.joinW 32 ws).length ≤ 1000000) :
    Calls Tryd.prog 16 #[.slice (some ⟨g, 0, none⟩) n c, .string (B8 [32])] w fun e w' => e = .returned (.string (B8 (Num.joinW 32 ws))) ∧ Below w.heap.size w w' := by
  have hl : ws.length = n := by have := hown.1; rw [strs_length] at this; omega
  have hlx : (ws.map B8).length = n := by rw [List.length_map, hl]
  have hcap : n ≤ c := by
    rcases hown.2 with ⟨hv, _⟩ | ⟨g', cap, cur, hv, h⟩
    · cases hv
    · simp only [Value.slice.injEq] at hv
      obtain ⟨_, _, rfl⟩ := hv
      exact h.2.2.1
  have key := Tryd.strings_Join g 0 c (ws.map B8) (B8 [32]) w (fun j x hj => by
      rw [Nat.zero_add, hown.cellAt j (by have := List.getElem?_eq_some_iff.1 hj; obtain ⟨h, _⟩ := this; rw [hlx] at h; omega)]
      unfold strs
      rw [List.getElem?_map] at hj ⊢
      cases hw : ws[j]? with
      | none => rw [hw] at hj; cases hj
      | some y => rw [hw] at hj; rw [← Option.some.inj hj]; rfl) (hown.lt g rfl).2 (by omega) (by omega) (by rw [strs_get, B8_list, Num.joinW_lib]; omega)
  rw [hlx] at key
  refine key.mono ?_
  rintro e w' ⟨rfl, hb⟩
  refine ⟨?_, hb⟩
  rw [strs_get, B8_list, Num.joinW_lib]
  rfl

theorem others_later {e : TypeId} {b : Option Nat} {w w' : World} (hb : Below w.heap.size w w') : Lib.OthersKept e b w w' := fun k o hk _ _ => by
  rw [hb.block k (Array.getElem?_eq_some_iff.1 hk).1]
  exact hk

set_option maxRecDepth 8000 in
set_option maxHeartbeats 800000 in
/-- One line is put. -/
theorem tput_any (B b : Nat) (l : List UInt8) (va : Option Addr) (n vc : Nat) (ws : List (List UInt8)) (base : Nat) (w : World) (hI : Lib.IsBuilderF 40 5 B b (Lib.byteCells l) w) (hB : B ≤ w.heap.size) (hown : w.ownsRow base 9 1 (.slice va n vc) n (strs ws)) (hn : 1 ≤ n) (hn2 : n ≤ 1000) (hl : l.length ≤ 1000000) (hj : (Num.joinW 32 ws).length ≤ 1000000) :
    Calls Tryd.prog 14 #[.slice va n vc, .pointer (some ⟨b, 0, none⟩)] w fun e w' => e = .returned (.tuple #[]) ∧ Lib.IsBuilderF 40 5 B b (Lib.byteCells (l ++ (Num.joinW 32 ws ++ [10]))) w' ∧ Below B w w' ∧ Lib.OthersKept 5 (some b) w w' := by
  have HI : Hid (Lib.IsBuilderF 40 5 B b (Lib.byteCells l) w) := hI
  have HO : Hid (w.ownsRow base 9 1 (.slice va n vc) n (strs ws)) := hown
  obtain ⟨g, c, hv, _, hlt⟩ := hown.form (by omega)
  simp only [Value.slice.injEq, true_and] at hv
  obtain ⟨rfl, rfl⟩ := hv
  have HWL : Hid (ws.length = n) := show ws.length = n by have := hown.1; rw [strs_length] at this; omega
  clear hI hown
  go_enter Tryd.func14, Tryd.ntmps14
  go_wp2_with fail
  refine (join_any g vc n ws base w HO.out hn (by omega) hj).mono ?_
  rintro e w1 ⟨rfl, hb1⟩
  have hs := B8_size (Num.joinW 32 ws)
  have HK1 : Hid (Lib.OthersKept 5 (some b) w w1) := others_later hb1
  have hB1 : Below B w w1 := hb1.mono hB
  have HI1 : Hid (Lib.IsBuilderF 40 5 B b (Lib.byteCells l) w1) := builder_later HI.out hb1
  have hcl : (Lib.byteCells l).length = l.length := by simp [Lib.byteCells]
  clear hb1
  go_wp2_with fail
  refine (Tryd.Builder_WriteString_k B b (Lib.byteCells l) (B8 (Num.joinW 32 ws)) w1 HI1.out (by rw [hcl, hs]; omega) (by have := hB1.size; omega)).mono ?_
  rintro e w2 ⟨rfl, hI2, hb2, hk2⟩
  have HI2 : Hid (Lib.IsBuilderF 40 5 B b (Lib.byteCells l ++ Lib.strCells (B8 (Num.joinW 32 ws))) w2) := Or.inr hI2
  have HB2 : Hid (Below B w w2) := hB1.trans hb2
  have HK2 : Hid (Lib.OthersKept 5 (some b) w w2) := HK1.out.trans hk2
  have hcs : (Lib.strCells (B8 (Num.joinW 32 ws))).length = (Num.joinW 32 ws).length := by show (Lib.byteCells (Num.joinW 32 ws)).length = _; simp [Lib.byteCells]
  clear hI2 hb2 hk2
  go_wp2_with fail
  refine (Tryd.Builder_WriteByte_k B b (Lib.byteCells l ++ Lib.strCells (B8 (Num.joinW 32 ws))) 10 w2 HI2.out (by rw [List.length_append, hcl, hcs]; omega) (by have := HB2.out.size; omega)).mono ?_
  rintro e w3 ⟨rfl, hI3, hb3, hk3⟩
  have HI3 : Hid (Lib.BuilderAtF 40 5 B b (.pointer (some ⟨b, 0, none⟩)) (Lib.byteCells l ++ Lib.strCells (B8 (Num.joinW 32 ws)) ++ [.int .u8 10]) w3) := hI3
  have HB3 : Hid (Below B w w3) := HB2.out.trans hb3
  have HK3 : Hid (Lib.OthersKept 5 (some b) w w3) := HK2.out.trans hk3
  clear hI3 hb3 hk3
  go_wp2_with fail
  go_end0
  refine ⟨rfl, ?_, HB3.out, HK3.out⟩
  have e : Lib.byteCells (l ++ (Num.joinW 32 ws ++ [10])) = Lib.byteCells l ++ Lib.strCells (B8 (Num.joinW 32 ws)) ++ [.int .u8 10] := by
    show _ = Lib.byteCells l ++ Lib.byteCells (Num.joinW 32 ws) ++ [.int .u8 10]
    rw [Lib.byteCells_append, Lib.byteCells_append, List.append_assoc]
    rfl
  rw [e]
  exact Or.inr HI3.out

end Go.Proofs.YtipcbhodlgoflabDoor
