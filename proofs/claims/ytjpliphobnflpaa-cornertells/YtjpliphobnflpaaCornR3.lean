/- What the document's put does. -/
import Derived.Test.YtjpliphobnflpaaCornR2
namespace Go.Proofs.Ytjpliphobnflpaa
open Go.RowKit

namespace Num
/-- Rows, with a column in the place of another one. -/
def putL (ls : List (List Int)) (k : Nat) (col : List Int) (n : Nat) : List (List Int) := (List.range n).map fun i => (ls[i]?.getD []).set k (col[i]?.getD 0)
end Num

set_option maxHeartbeats 1600000 in
theorem put_any (n : Nat) (a : Option Addr) (cap : Nat) (ls : List (List Int)) (w : World) (hl : Lines w a n ls) (h1 : 1 ≤ n) (h4 : n ≤ 4) (hb : ∀ l ∈ ls, l.length = n) (k : Nat) (hk : k < n) (ca : Option Addr) (cc : Nat) (col : List Int) (hcol : Ints w ca n col) :
    Calls Try.prog 63 #[.slice a n cap, .int .i64 k, .slice ca n cc] w fun e w' => ∃ a' c', e = .returned (.slice a' n c') ∧ n ≤ c' ∧ Lines w' a' n (Num.putL ls k col n) ∧ Below w.heap.size w w' := by
  have HL : Hid (Lines w a n ls) := hl
  have HLN : Hid (n = ls.length) := hl.1
  have HLL : Hid (∀ i, i < n → (ls[i]?.getD []).length = n) := fun i hi => by
    have := HLN.out
    rw [List.getElem?_eq_getElem (by omega)]
    exact hb _ (List.getElem_mem _)
  have HC : Hid (Ints w ca n col) := hcol
  have HM : Hid ((Num.putL ls k col n).length = n) := by show (Num.putL ls k col n).length = n; simp [Num.putL]
  have HP : Hid (∀ i, i < n → (Num.putL ls k col n)[i]?.getD [] = (ls[i]?.getD []).set k (col[i]?.getD 0)) := fun i hi => getD_range _ n i [] hi
  clear hl hb hcol
  generalize Num.putL ls k col n = P at *
  obtain ⟨i0, hif, hz0, hz1, hz2⟩ := info_parts Try.infoSl
  obtain ⟨j0, hjf, hy0, hy1, hy2⟩ := info_parts Try.info64
  go_enter Try.func63, Try.ntmps63
  go_wp2_with fail
  go_loopw [7, 8] (fun v q wr => ∃ i : Nat, i ≤ n ∧ q = .int .i64 i ∧ RowsOwn wr w.heap.size v (P.take i) ∧ Below w.heap.size w wr) (fun _ q _ => n - (intOf q).toNat)
  case atStart => exact ⟨0, Nat.zero_le _, rfl, by rw [List.take_zero]; exact RowsOwn.nil _ _, Below.refl _ _⟩
  case round =>
    obtain ⟨i, hi, rfl, hO, hB⟩ := hrel
    by_cases hit : i < n
    · obtain ⟨b, off, ra, rl, rc, ha, hbs, c0, hI, hrc⟩ := (Lines.below HL.out hB (Nat.le_refl _)).at i (by omega)
      have hrl : rl = n := by have := hI.1; have := HLL.out i hit; omega
      obtain ⟨b2, o2, ha2, hb2⟩ : ∃ b2 o2, ra = some ⟨b2, o2, none⟩ ∧ b2 < wr.heap.size := by
        rcases hI.2 with h | ⟨b2, o2, h, h2, _⟩
        · omega
        · exact ⟨b2, o2, h, h2⟩
      rcases (Ints.below HC.out hB (Nat.le_refl _)).2 with h | ⟨b3, o3, ha3, hb3, hc3⟩
      · omega
      have cx := hc3 i hit
      have HI : Hid (Ints wr ra rl (ls[i]?.getD [])) := hI
      have HO : Hid (RowsOwn wr w.heap.size _ (P.take i)) := hO
      have HX : Hid (P[i]?.getD [] = (ls[i]?.getD []).set k (col[i]?.getD 0)) := HP.out i hit
      clear hI hO hc3
      generalize col[i]?.getD 0 = x at cx HX
      obtain ⟨A, hA⟩ : ∃ A, A = (ls[i]?.getD []).map (Value.int .i64) := ⟨_, rfl⟩
      have HA : Hid _ := hA
      clear hA
      subst ha ha2 ha3 hrl
      go_wp2_with (at_builtin; refine wpList_append_own _ rfl (.tmp 16) (.tmp 20) 22 rfl wr.heap.size 2 j0 (.int .i64 0) 1 8 Try.underlying22 hjf hy0 hy1 hy2 rfl (by decide) _ 0 [] rfl ?o1 ⟨b2, o2, none⟩ rl rc A rfl ?o2 ?o3 ?o4 ?o5 ?o6 ?o7 ?_)
      case o1 => exact World.ownsRow_made wr #[] 0 (Nat.le_refl _) (Nat.zero_le _) rfl
      case o2 => have := HI.out.1; rw [HA.out]; simp; omega
      case o3 => rw [HA.out]; have h := ints_news (k := 0) (m := rl) HI.out (balloc wr (.cells #[] 2)) (by omega); rw [List.drop_zero, List.take_of_length_le (by have := HI.out.1; omega)] at h; exact h
      case o4 => rw [HA.out]; exact ints_one _
      case o5 => unfold maxLen; omega
      case o6 => omega
      case o7 => simp
      intro v1 w1 ho1 hg1 _
      have hb1 : Below wr.heap.size wr w1 := app_below hg1
      obtain ⟨g1, k1, hv1, hg1', hk1⟩ := own_some ho1 h1
      subst hv1
      obtain ⟨u, u0⟩ : ∃ u, w1.cell? ⟨g1, k, none⟩ = some u := by
        rw [World.ownsRow.cellAt ho1 k (by omega)]
        exact ⟨_, List.getElem?_eq_getElem (by have := ho1.1; omega)⟩
      have u1 := World.ownsRow.frozenAt ho1 k
      have cx' := carry hb1 cx
      have hst := (World.ownsRow.stored ho1 k (.int .i64 x)).1
      have hb2' : Below wr.heap.size wr (w1.setCell ⟨g1, k, none⟩ (.int .i64 x)) := bset hb1 hg1' _
      have HRO : Hid (RowOwn (w1.setCell ⟨g1, k, none⟩ (.int .i64 x)) w.heap.size (.slice (some ⟨g1, 0, none⟩) rl k1) (P[i]?.getD [])) := by
        have hl := HI.out.1
        rw [HX.out]
        show World.ownsRow _ _ _ _ _ _ _
        rw [List.length_set, ← hl, List.map_set, ← HA.out]
        exact own_low hst hB.size
      obtain ⟨vs, hov, hvin⟩ := RowsOwn.kept HO.out (bstep hb2' (balloc _ (.cells #[.slice (some ⟨g1, 0, none⟩) rl k1] 22)))
      have hti : (P.take i).length = i := by have := HM.out; rw [List.length_take]; omega
      rw [hti] at hov
      have HOV : Hid _ := hov
      have HVIN : Hid _ := hvin
      have hBw : Below w.heap.size w ((w1.setCell ⟨g1, k, none⟩ (.int .i64 x)).alloc (.cells #[.slice (some ⟨g1, 0, none⟩) rl k1] 22)) := bstep (bstep hB hb2') (balloc _ _)
      clear ho1 hg1 hov hvin hst cx c0
      go_wp2_with (at_builtin; refine wpList_append_own _ rfl (.tmp 29) (.tmp 31) 77 rfl w.heap.size 22 i0 (.slice none 0 0) 1 24 Try.underlying77 hif hz0 hz1 hz2 rfl (by decide) _ i vs rfl HOV.out ⟨w1.heap.size, 0, none⟩ 1 1 [.slice (some ⟨g1, 0, none⟩) rl k1] rfl rfl ?p3 ?p4 ?p5 ?p6 ?p7 ?_)
      case p3 => first | exact news_one (by simp) _ _ | exact news_one' (by simp) _ _
      case p4 => first | rfl | (intro u hu; simp at hu; subst hu; rfl)
      case p5 => unfold maxLen; omega
      case p6 => omega
      case p7 => have := hBw.size; exact this
      intro v3 w3 ho3 hg3 _
      have HR3 : Hid (RowsOwn w3 w.heap.size v3 (P.take (i + 1))) := by
        have e : P.take (i + 1) = P.take i ++ [P[i]?.getD []] := by
          have h1 := HM.out
          rw [List.take_succ_eq_append_getElem (by omega), List.getElem?_eq_getElem (by omega), Option.getD_some]
        show RowsOwn _ _ _ _
        rw [e]
        exact RowsOwn.push (by rw [hti]; exact HOV.out) HVIN.out (RowOwn.kept HRO.out (balloc _ _)) (by rw [hti]; exact ho3) hg3
      have hb3' : Below w.heap.size w w3 := grown_below hBw hBw.size HOV.out hg3
      clear ho3 hg3
      go_wp2_with fail
      go_roundw
      case rel => first | exact ⟨i + 1, hit, by go_num, HR3.out, hb3'⟩ | ((repeat apply Exists.intro); exact ⟨⟨i + 1, hit, by go_num, HR3.out, hb3'⟩, rfl⟩)
      case measure => simp [intOf]; omega
    · have hin : i = n := by omega
      subst hin
      rw [List.take_of_length_le (by have := HM.out; omega)] at hO
      obtain ⟨am, cm, hv, hcm, hLm⟩ := RowsOwn.lines hO
      rw [HM.out] at hv hcm hLm
      have HLM : Hid _ := hLm
      clear hO hLm
      subst hv
      go_wp2_with fail
      go_ret
      exact ⟨am, cm, rfl, hcm, HLM.out, hB⟩

end Go.Proofs.Ytjpliphobnflpaa
