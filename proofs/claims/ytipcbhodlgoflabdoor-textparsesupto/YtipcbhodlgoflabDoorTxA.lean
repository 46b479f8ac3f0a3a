/- Package text's reading: what the listed variables hold, the library's calls, and readNumber. -/
import Derived.Test.YtipcbhodlgoflabDoorRef2A
import Derived.Test.YtipcbhodlgoflabDoorTxt2
import Derived.Test.YtipcbhodlgoflabDoorShx
import Derived.Test.YtipcbhodlgoflabDoorShy
import Derived.Lib.AppendIntMem
import Derived.Lib.AtoiErrMem
import Derived.Lib.ItoaLen
namespace Go.Proofs.YtipcbhodlgoflabDoor
open Go.RowKit

/-- What the variables of the library hold that the calls read. -/
structure Laid (w : World) : Prop where
  tab : Lib.TabIs Tryd.prog w "internal/strconv.uint64pow10" .u64 Lib.pow10Tab
  bad : ∃ tp p, w.var? Tryd.prog "strconv.ErrSyntax" = some #[.iface tp p]
  far : ∃ tp p, w.var? Tryd.prog "strconv.ErrRange" = some #[.iface tp p]
  most : ∃ m, w.cell? ⟨0, 0, none⟩ = some (.int .i64 m)

theorem var_later {w w' : World} {name : String} {cs : Array Value} (h : w.var? Tryd.prog name = some cs) (hb : Below w.heap.size w w') : w'.var? Tryd.prog name = some cs := by
  unfold World.var? at *
  cases hg : Tryd.prog.globalNamed name with
  | none => simp [hg] at h
  | some g =>
    simp only [hg, Option.bind_some] at h ⊢
    have hlt : g < w.heap.size := by
      rcases Nat.lt_or_ge g w.heap.size with h' | h'
      · exact h'
      · rw [Array.getElem?_eq_none h'] at h; simp at h
    rw [hb.block g hlt]
    exact h

theorem tab_later {w w' : World} (h : Lib.TabIs Tryd.prog w "internal/strconv.uint64pow10" .u64 Lib.pow10Tab) (hb : Below w.heap.size w w') : Lib.TabIs Tryd.prog w' "internal/strconv.uint64pow10" .u64 Lib.pow10Tab :=
  (Lib.tabBelow_of_tabIs h) w' hb

theorem Laid.later {w w' : World} (h : Laid w) (hb : Below w.heap.size w w') : Laid w' := by
  obtain ⟨h1, ⟨t2, p2, h2⟩, ⟨t3, p3, h3⟩, ⟨m, h4⟩⟩ := h
  refine ⟨tab_later h1 hb, ⟨t2, p2, var_later h2 hb⟩, ⟨t3, p3, var_later h3 hb⟩, ⟨m, ?_⟩⟩
  rw [hb.cell (World.block_lt_of_cell? w ⟨0, 0, none⟩ (by rw [h4]))]
  exact h4

/-- A text's bytes as the model's. -/
def B8 (l : List UInt8) : ByteArray := ⟨l.toArray⟩

theorem B8_list (l : List UInt8) : (B8 l).data.toList = l := by simp [B8]
theorem B8_size (l : List UInt8) : (B8 l).size = l.length := by simp [B8, ByteArray.size]
theorem B8_of (s : ByteArray) : B8 s.data.toList = s := by cases s; simp [B8]
theorem B8_inj {l m : List UInt8} (h : B8 l = B8 m) : l = m := by
  have := congrArg (fun s => s.data.toList) h
  simpa [B8_list] using this

/-- strconv.FormatInt in our words. -/
theorem format_any (n : Int) (h0 : -9223372036854775808 ≤ n) (h1 : n ≤ 9223372036854775807) (w : World) (ht : Lib.TabIs Tryd.prog w "internal/strconv.uint64pow10" .u64 Lib.pow10Tab) :
    Calls Tryd.prog 30 #[.int .i64 n, .int .i64 10] w fun e w' => e = .returned (.string (B8 (Num.digI n))) ∧ Below w.heap.size w w' := by
  refine (Tryd.strconv_FormatInt_10 n h0 h1 w ht).mono ?_
  rintro e w' ⟨rfl, k, os, rfl⟩
  refine ⟨?_, Lib.below_grow _ _ (Nat.le_refl _) _ _⟩
  rw [Num.itoa_dig]
  rfl

/-- strconv.ParseInt in our words: the number, and no error; or an error. -/
theorem parse_any (l : List UInt8) (hl : l.length ≤ 281474976710656) (w : World) (hL : Laid w) :
    Calls Tryd.prog 51 #[.string (B8 l), .int .i64 10, .int .i64 64] w fun e w' => Below w.heap.size w w' ∧
      ((∃ n, Lib.parseIntB 64 l = .ok n ∧ e = .returned (.tuple #[.int .i64 n, .nilIface])) ∨ (Num.rdW l = none ∧ ∃ x t p, e = .returned (.tuple #[.int .i64 x, .iface t p]))) := by
  have e0 := B8_list l
  have hsz : (B8 l).size ≤ 281474976710656 := by rw [B8_size]; exact hl
  cases hp : Lib.parseIntB 64 l with
  | ok n =>
    refine (Tryd.strconv_ParseInt_10_at64_ok (B8 l) (by omega) n (by rw [e0]; exact hp) w).mono ?_
    rintro e w' ⟨rfl, hw⟩
    refine ⟨?_, Or.inl ⟨n, rfl, rfl⟩⟩
    rcases hw with rfl | ⟨t, rfl⟩
    · exact Below.refl _ _
    · exact Lib.bytesWorld_below _ _ _
  | «syntax» =>
    obtain ⟨tp, p, hv⟩ := hL.bad
    refine (Tryd.strconv_ParseInt_10_at64_syntax_var (B8 l) hsz (by rw [e0]; exact hp) tp p w hv).mono ?_
    rintro e w' ⟨N, rfl, _, _, hb⟩
    exact ⟨hb, Or.inr ⟨by unfold Num.rdW; rw [hp], _, _, _, rfl⟩⟩
  | range =>
    obtain ⟨tp, p, hv⟩ := hL.far
    refine (Tryd.strconv_ParseInt_10_at64_range_var (B8 l) hsz (by rw [e0]; exact hp) tp p w hv).mono ?_
    rintro e w' ⟨N, rfl, _, _, hb⟩
    exact ⟨hb, Or.inr ⟨by unfold Num.rdW; rw [hp], _, _, _, rfl⟩⟩

/-- strings.Cut in our words. -/
theorem cut_any (s sep : List UInt8) (hs : s.length < 4294967281) (w : World) (hL : Laid w) :
    Calls Tryd.prog 21 #[.string (B8 s), .string (B8 sep)] w fun e w' => e = .returned (.tuple #[.string (B8 (Lib.cut s sep).1), .string (B8 (Lib.cut s sep).2.1), .bool (Lib.cut s sep).2.2]) ∧ Below w.heap.size w w' := by
  obtain ⟨m, hm⟩ := hL.most
  refine (Tryd.strings_Cut (B8 s) (B8 sep) m w (by rw [B8_size]; exact hs) hm).mono ?_
  rintro e w' ⟨rfl, n, rfl⟩
  refine ⟨?_, bdrewN (Below.refl _ _) _⟩
  rw [B8_list, B8_list]
  rfl

/-- strings.CutPrefix in our words. -/
theorem cutPrefix_any (s p : List UInt8) (w : World) :
    Calls Tryd.prog 38 #[.string (B8 s), .string (B8 p)] w fun e w' => e = .returned (.tuple #[.string (B8 (if p.isPrefixOf s = true then s.drop p.length else s)), .bool (p.isPrefixOf s)]) ∧ w' = w := by
  refine (Tryd.strings_CutPrefix (B8 s) (B8 p) w).mono ?_
  rintro e w' ⟨rfl, rfl⟩
  refine ⟨?_, rfl⟩
  rw [B8_list, B8_list]
  rfl

theorem B8_toList (l : List UInt8) : (B8 l).toList = l := by rw [Lib.toList_data, B8_list]

theorem eq_B8 (l m : List UInt8) : ((B8 l).toList == (B8 m).toList) = decide (l = m) := by
  rw [B8_toList, B8_toList]
  by_cases h : l = m
  · subst h; simp
  · simp [h]

theorem withinB_999999 (n : Int) : Num.withinB 999999 [n] = true ↔ -999999 ≤ n ∧ n ≤ 999999 := by
  rw [Num.withinB_mem]
  simp

set_option maxHeartbeats 800000 in
theorem readNumber_any (l : List UInt8) (hl : l.length ≤ 281474976710656) (w : World) (hL : Laid w) :
    Calls Tryd.prog 40 #[.string (B8 l)] w fun e w' => e = .returned (.tuple #[.int .i64 ((Num.numW l).getD 0), .bool (Num.numW l).isSome]) ∧ Below w.heap.size w w' := by
  have HR : Hid (Num.rdW l = Num.numW l) := Num.rd_num l
  have HT : Hid (Laid w) := hL
  go_enter Tryd.func40, Tryd.ntmps40
  go_wp2_with fail
  refine (parse_any l hl w hL).mono ?_
  clear hL
  rintro e w1 ⟨hb1, ⟨n, hn, rfl⟩ | ⟨hn, x, t, p, rfl⟩⟩
  · have HN : Hid (Num.rdW l = if (-999999 ≤ n ∧ n ≤ 999999) ∧ Num.digI n = l then some n else none) := show Num.rdW l = _ by unfold Num.rdW; rw [hn]
    clear hn
    go_wp2_with fail
    refine (within_any 999999 _ _ _ [n] _ (Ints.newAt rfl _ _) (by omega) (by omega) (by omega)).mono ?_
    rintro e w2 ⟨rfl, rfl⟩
    have hb2 : Below w.heap.size w (w1.alloc (.cells #[.int .i64 n] 2)) := hb1.alloc hb1.size _
    by_cases hin : Num.withinB 999999 [n] = true
    · have hin' := (withinB_999999 n).1 hin
      rw [hin]
      clear hin
      have HI : Hid (-999999 ≤ n ∧ n ≤ 999999) := hin'
      go_wp2_with fail
      refine (format_any n (by omega) (by omega) _ (tab_later HT.out.tab hb2)).mono ?_
      rintro e w3 ⟨rfl, hb3⟩
      have hb : Below w.heap.size w w3 := hb2.trans (hb3.mono hb2.size)
      clear hb3 hb2 hb1
      have hq := eq_B8 (Num.digI n) l
      by_cases hd : Num.digI n = l
      · have E : Hid (Num.numW l = some n) := show Num.numW l = some n by rw [← HR.out, HN.out, if_pos ⟨HI.out, hd⟩]
        rw [decide_eq_true hd] at hq
        clear hd
        go_wp2_with fail
        go_ret2
        exact ⟨by rw [E.out]; rfl, hb⟩
      · have E : Hid (Num.numW l = none) := show Num.numW l = none by rw [← HR.out, HN.out, if_neg (fun h => hd h.2)]
        rw [decide_eq_false hd] at hq
        clear hd
        go_wp2_with fail
        go_ret2
        exact ⟨by rw [E.out]; rfl, hb⟩
    · have E : Hid (Num.numW l = none) := show Num.numW l = none by rw [← HR.out, HN.out, if_neg (fun h => hin ((withinB_999999 n).2 h.1))]
      rw [Bool.eq_false_iff.2 hin]
      clear hin
      go_wp2_with fail
      go_ret2
      exact ⟨by rw [E.out]; rfl, hb2⟩
  · have E : Hid (Num.numW l = none) := show Num.numW l = none by rw [← HR.out, hn]
    clear hn
    go_wp2_with fail
    go_ret2
    exact ⟨by rw [E.out]; rfl, hb1⟩

end Go.Proofs.YtipcbhodlgoflabDoor
