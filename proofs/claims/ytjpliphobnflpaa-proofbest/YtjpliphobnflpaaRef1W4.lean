/- What the document's own Make and Same do. -/
import Derived.Test.YtjpliphobnflpaaRef1W3
namespace Go.Proofs.Ytjpliphobnflpaa
open Go.RowKit

set_option maxHeartbeats 800000 in
theorem rmake_any (n d : Int) (w : World) (x y z : Int) (h : Num.mk n d = (x, y, z)) :
    Calls Try.prog 14 #[.int .i64 n, .int .i64 d] w fun e w' => e = .returned (.tuple #[.agg #[.int .i64 x, .int .i64 y], .int .i64 z]) ∧ Below w.heap.size w w' := by
  by_cases hz : z = 0
  · subst hz
    have HP : Hid _ := Num.pt_one_ok n d x y h
    clear h
    go_enter Try.func14, Try.ntmps14
    go_wp2_with fail
    refine (rpoint_any d _ _ _ [n] _ (Ints.newAt (by simp) _ _) (by omega) _ _ _ HP.out).mono ?_
    rintro e w1 ⟨a', n', c', rfl, hints, hn, hb⟩
    obtain ⟨hl1, hi1⟩ := hints
    simp only [List.length_singleton] at hl1
    subst hl1
    rcases hi1 with hi1 | ⟨b, off, ha, hbs, hc⟩
    · omega
    have hck := hc 0 (by omega)
    simp only [List.length_singleton, Nat.lt_one_iff, getElem?_pos, List.getElem_cons_zero, Option.getD_some, Nat.add_zero] at hck
    clear hc
    subst ha
    have c0 : w1.cell? ⟨w.heap.size, 0, none⟩ = some (.int .i64 0) := by rw [hb.cell (by simp; omega)]; go_simp
    have c1 : w1.cell? ⟨w.heap.size, 1, none⟩ = some (.int .i64 0) := by rw [hb.cell (by simp; omega)]; go_simp
    have f0 : w1.frozen? ⟨w.heap.size, 0, none⟩ = false := by rw [hb.frozen (by simp; omega)]; rw [((Below.refl (w.alloc (.cells #[.int .i64 0, .int .i64 0] 24)).heap.size _).alloc (Nat.le_refl _) _).frozen (by simp)]; go_simp
    have f1 : w1.frozen? ⟨w.heap.size, 1, none⟩ = false := by rw [hb.frozen (by simp; omega)]; rw [((Below.refl (w.alloc (.cells #[.int .i64 0, .int .i64 0] 24)).heap.size _).alloc (Nat.le_refl _) _).frozen (by simp)]; go_simp
    have hz1 : w.heap.size < w1.heap.size := by have := hb.size; simp at this; omega
    go_wp2_with fail
    go_region
    go_wp2_with fail
    exact bodyPost_ret (v := .tuple #[.agg #[.int .i64 x, .int .i64 y], .int .i64 0]) (by simp [results, Try.results14, go_sem, c0, c1, hz1]) rfl ⟨rfl, ((((below2 hb).setCell (Nat.le_refl _) _).setCell (Nat.le_refl _) _).alloc (by simp; omega) _).drew⟩
  · have hz1 : (z != 0) = true := by simpa using hz
    obtain ⟨hp, rfl, rfl⟩ := Num.pt_one_bad n d x y z h hz
    have HP : Hid _ := hp
    clear h hp
    go_enter Try.func14, Try.ntmps14
    go_wp2_with fail
    refine (rpoint_any d _ _ _ [n] _ (Ints.newAt (by simp) _ _) (by omega) _ _ _ HP.out).mono ?_
    rintro e w1 ⟨a', n', c', rfl, hints, hn, hb⟩
    have c0 : w1.cell? ⟨w.heap.size, 0, none⟩ = some (.int .i64 0) := by rw [hb.cell (by simp; omega)]; go_simp
    have c1 : w1.cell? ⟨w.heap.size, 1, none⟩ = some (.int .i64 0) := by rw [hb.cell (by simp; omega)]; go_simp
    have f0 : w1.frozen? ⟨w.heap.size, 0, none⟩ = false := by rw [hb.frozen (by simp; omega)]; rw [((Below.refl (w.alloc (.cells #[.int .i64 0, .int .i64 0] 24)).heap.size _).alloc (Nat.le_refl _) _).frozen (by simp)]; go_simp
    have f1 : w1.frozen? ⟨w.heap.size, 1, none⟩ = false := by rw [hb.frozen (by simp; omega)]; rw [((Below.refl (w.alloc (.cells #[.int .i64 0, .int .i64 0] 24)).heap.size _).alloc (Nat.le_refl _) _).frozen (by simp)]; go_simp
    have hz2 : w.heap.size < w1.heap.size := by have := hb.size; simp at this; omega
    clear hints
    go_wp2_with fail
    exact bodyPost_ret (v := .tuple #[.agg #[.int .i64 0, .int .i64 0], .int .i64 z]) (by simp [results, Try.results14, go_sem, c0, c1, hz2]) rfl ⟨rfl, (((below2 hb).setCell (Nat.le_refl _) _).setCell (Nat.le_refl _) _).alloc (by simp; omega) _⟩

theorem take_eq_succ (l m : List Int) (k : Nat) (h1 : k < l.length) (h2 : k < m.length) (h : l.take k = m.take k) (he : l[k]?.getD 0 = m[k]?.getD 0) : l.take (k + 1) = m.take (k + 1) := by
  rw [List.getElem?_eq_getElem h1, List.getElem?_eq_getElem h2] at he
  simp only [Option.getD_some] at he
  rw [List.take_succ_eq_append_getElem h1, List.take_succ_eq_append_getElem h2, h, he]

set_option maxHeartbeats 800000 in
theorem same_any (a1 a2 : Option Addr) (n1 c1 n2 c2 : Nat) (l1 l2 : List Int) (d1 d2 : Int) (w : World) (h1 : Ints w a1 n1 l1) (h2 : Ints w a2 n2 l2) (hn1 : n1 ≤ 9223372036854775807) (hn2 : n2 ≤ 9223372036854775807) :
    Calls Try.prog 17 #[.agg #[.slice a1 n1 c1, .int .i64 d1], .agg #[.slice a2 n2 c2, .int .i64 d2]] w fun e w' => e = .returned (.bool (d1 == d2 && l1 == l2)) ∧ Below w.heap.size w w' := by
  by_cases hd : d1 = d2
  · by_cases hn : n1 = n2
    · subst hd hn
      have H1 : Hid _ := h1
      have H2 : Hid _ := h2
      clear h1 h2
      have hdd : (d1 != d1) = false := by simp
      have hnn : ((n1 : Int) != (n1 : Int)) = false := by simp
      go_enter Try.func17, Try.ntmps17
      go_wp2_with fail
      generalize hW : (w.alloc (.cells #[.slice a1 n1 c1, .int .i64 d1] 29)).alloc (.cells #[.slice a2 n1 c2, .int .i64 d1] 29) = W
      have hbw : Below w.heap.size w W := by rw [← hW]; exact ((Below.refl _ _).alloc (Nat.le_refl _) _).alloc (by simp) _
      have e0 : W.cell? ⟨w.heap.size, 0, none⟩ = some (.slice a1 n1 c1) := by rw [← hW, (((Below.refl (w.alloc (.cells #[.slice a1 n1 c1, .int .i64 d1] 29)).heap.size _).alloc (Nat.le_refl _) _)).cell (by simp)]; go_simp
      have e1 : W.cell? ⟨w.heap.size + 1, 0, none⟩ = some (.slice a2 n1 c2) := by rw [← hW]; exact (cell_new2 (by simp) _ _ _).1
      clear hW
      go_loopw [5] (fun i wr => ∃ k n : Nat, k ≤ n1 ∧ i = .int .i64 k ∧ l1.take k = l2.take k ∧ wr = W.drewN n) (fun i _ => n1 - (intOf i).toNat)
      case atStart => exact ⟨0, 0, Nat.zero_le _, rfl, rfl, rfl⟩
      case round =>
        obtain ⟨k, n, hk, rfl, ht, rfl⟩ := hrel
        have HT : Hid _ := ht
        clear ht
        by_cases hlt : k < n1
        · obtain ⟨b1, o1, ha1, hc1⟩ : ∃ b off, a1 = some ⟨b, off, none⟩ ∧ W.cell? ⟨b, off + k, none⟩ = some (.int .i64 (l1[k]?.getD 0)) := by
            rcases H1.out.2 with h | ⟨b, off, ha, hbs, hc⟩
            · omega
            · exact ⟨b, off, ha, by rw [hbw.cell (p := ⟨b, off + k, none⟩) hbs]; exact hc k hlt⟩
          obtain ⟨b2, o2, ha2, hc2⟩ : ∃ b off, a2 = some ⟨b, off, none⟩ ∧ W.cell? ⟨b, off + k, none⟩ = some (.int .i64 (l2[k]?.getD 0)) := by
            rcases H2.out.2 with h | ⟨b, off, ha, hbs, hc⟩
            · omega
            · exact ⟨b, off, ha, by rw [hbw.cell (p := ⟨b, off + k, none⟩) hbs]; exact hc k hlt⟩
          have L1 := H1.out.1
          have L2 := H2.out.1
          have HTS : Hid _ := take_eq_succ l1 l2 k (by omega) (by omega) HT.out
          have HNE : Hid (l1[k]?.getD 0 ≠ l2[k]?.getD 0 → (l1 == l2) = false) := by
            intro hne
            rw [beq_eq_false_iff_ne]
            intro he
            rw [he] at hne
            exact hne rfl
          clear L1 L2
          generalize l1[k]?.getD 0 = x at *
          generalize l2[k]?.getD 0 = y at *
          subst ha1 ha2
          clear H1 H2
          by_cases hxy : x = y
          · subst hxy
            have hxx : (x != x) = false := by simp
            go_wp2_with fail
            go_region
            go_wp2_with fail
            go_roundw
            case rel => exact ⟨k + 1, n + 1, by omega, by go_num, HTS.out (by simp), rfl⟩
            case measure => simp [intOf]; omega
          · have hxx : (x != y) = true := by simpa using hxy
            go_wp2_with fail
            go_region
            go_wp2_with fail
            go_ret
            exact ⟨ret_bool (by rw [HNE.out hxy]; simp), bdrewN hbw (n + 1)⟩
        · go_wp2_with fail
          go_ret
          refine ⟨ret_bool ?_, bdrewN hbw n⟩
          have hke : k = n1 := by omega
          have := HT.out
          rw [hke, List.take_of_length_le (by have := H1.out.1; omega), List.take_of_length_le (by have := H2.out.1; omega)] at this
          rw [this]; simp
    · subst hd
      have hne : (l1 == l2) = false := by
        rw [beq_eq_false_iff_ne]; intro he; have := h1.1; have := h2.1; rw [he] at *; omega
      have HNE : Hid _ := hne
      clear hne
      have hdd : (d1 != d1) = false := by simp
      have hnn : ((n1 : Int) != (n2 : Int)) = true := by rw [bne_iff_ne]; omega
      go_enter Try.func17, Try.ntmps17
      go_wp2_with fail
      go_ret
      exact ⟨ret_bool (by rw [HNE.out]; simp), ((Below.refl _ _).alloc (Nat.le_refl _) _).alloc (by simp) _⟩
  · have hdd : (d1 != d2) = true := by simpa using hd
    have HD : Hid ((d1 == d2) = false) := by show _ = _; simpa using hd
    go_enter Try.func17, Try.ntmps17
    go_wp2_with fail
    go_ret
    exact ⟨ret_bool (by rw [HD.out]; simp), ((Below.refl _ _).alloc (Nat.le_refl _) _).alloc (by simp) _⟩

end Go.Proofs.Ytjpliphobnflpaa
