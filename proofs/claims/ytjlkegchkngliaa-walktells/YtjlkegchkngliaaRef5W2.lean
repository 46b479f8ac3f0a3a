/- What small functions of the document's chapters 1, 3 and 5 do: Ints, Above, Of, column, May. -/
import Derived.Test.YtjlkegchkngliaaRef5W1
import Derived.Test.YtjlkegchkngliaaRef2W2
import Derived.Test.YtjlkegchkngliaaSix
namespace Go.Proofs.Ytjlkegchkngliaa
open Go.RowKit

/-- Numbers that are not too great have a fraction: their own, times one number. -/
theorem Num.mk_is (n d : Int) (hd : 1 ≤ d ∧ d ≤ 1073741824) (hn : -1073741824 ≤ n ∧ n ≤ 1073741824) : ∃ x y, Num.mk n d = (x, y, 0) ∧ n * y = x * d ∧ 1 ≤ y ∧ y ≤ d ∧ x.natAbs ≤ n.natAbs := by
  obtain ⟨g, g0, h0, _, h2, h3, h4, h5, h6⟩ := Num.pt_ok [n] d (by omega) (by omega) (fun j => by
    match j with
    | 0 => simpa using hn
    | j + 1 => simp) (by simp)
  have hlow : (Num.low d [n]).2 = 0 := by
    unfold Num.pt at h0
    by_cases h : (Num.low d [n]).2 = 0
    · exact h
    · rw [if_neg h] at h0; exact h0
  have hmk : Num.mk n d = (n.tdiv (Num.byOf d [n]), d.tdiv (Num.byOf d [n]), 0) := by unfold Num.mk; rw [if_pos hlow]
  have hpt : Num.pt [n] d = ([n.tdiv (Num.byOf d [n])], d.tdiv (Num.byOf d [n]), 0) := by unfold Num.pt; rw [if_pos hlow]; rfl
  rw [hpt] at h2 h3 h4 h5 h6
  have e2 := h2 0
  have e6 := h6 0
  simp only [List.getElem?_cons_zero, Option.getD_some] at e2 e6
  dsimp only at h3 h4 h5
  refine ⟨_, _, hmk, ?_, h4, by omega, e6⟩
  generalize n.tdiv (Num.byOf d [n]) = x at *
  generalize d.tdiv (Num.byOf d [n]) = y at *
  rw [e2, h3]; grind

set_option maxHeartbeats 800000 in
theorem ints5_any (a1 a2 : Option Addr) (n1 c1 n2 c2 : Nat) (l1 l2 : List Int) (w : World) (h1 : Ints w a1 n1 l1) (h2 : Ints w a2 n2 l2) (hn1 : n1 ≤ 9223372036854775807) (hn2 : n2 ≤ 9223372036854775807) :
    Calls Try.prog 39 #[.slice a1 n1 c1, .slice a2 n2 c2] w fun e w' => e = .returned (.bool (l1 == l2)) ∧ ∃ n, w' = w.drewN n := by
  by_cases hn : n1 = n2
  · subst hn
    have H1 : Hid (Ints w a1 n1 l1) := h1
    have H2 : Hid (Ints w a2 n1 l2) := h2
    clear h1 h2
    have hnn : ((n1 : Int) != (n1 : Int)) = false := by simp
    go_enter Try.func39, Try.ntmps39
    go_wp2_with fail
    go_loopw [5] (fun i wr => ∃ k n : Nat, k ≤ n1 ∧ i = .int .i64 k ∧ l1.take k = l2.take k ∧ wr = w.drewN n) (fun i _ => n1 - (intOf i).toNat)
    case atStart => exact ⟨0, 0, Nat.zero_le _, rfl, rfl, rfl⟩
    case round =>
      obtain ⟨k, n, hk, rfl, ht, rfl⟩ := hrel
      have HT : Hid (l1.take k = l2.take k) := ht
      clear ht
      by_cases hlt : k < n1
      · rcases H1.out.2 with h | ⟨b1, o1, ha1, hb1, hc1⟩
        · omega
        rcases H2.out.2 with h | ⟨b2, o2, ha2, hb2, hc2⟩
        · omega
        have e1 := hc1 k hlt
        have e2 := hc2 k hlt
        have L1 := H1.out.1
        have L2 := H2.out.1
        have HTS : Hid (l1[k]?.getD 0 = l2[k]?.getD 0 → l1.take (k + 1) = l2.take (k + 1)) := take_eq_succ l1 l2 k (by omega) (by omega) HT.out
        have HNE : Hid (l1[k]?.getD 0 ≠ l2[k]?.getD 0 → (l1 == l2) = false) := by
          intro hne
          rw [beq_eq_false_iff_ne]
          intro he
          rw [he] at hne
          exact hne rfl
        clear L1 L2 hc1 hc2
        generalize l1[k]?.getD 0 = x at *
        generalize l2[k]?.getD 0 = y at *
        subst ha1 ha2
        by_cases hxy : x = y
        · subst hxy
          have hxx : (x != x) = false := by simp
          have HTT : Hid (l1.take (k + 1) = l2.take (k + 1)) := HTS.out rfl
          go_wp2_with fail
          go_region
          go_wp2_with fail
          go_roundw
          case rel => exact ⟨k + 1, n + 1, by omega, by go_num, HTT.out, rfl⟩
          case measure => simp [intOf]; omega
        · have hxx : (x != y) = true := by simpa using hxy
          go_wp2_with fail
          go_region
          go_wp2_with fail
          go_ret
          exact ⟨ret_bool (HNE.out hxy).symm, n + 1, rfl⟩
      · have hke : k = n1 := by omega
        have L1 := H1.out.1
        have L2 := H2.out.1
        have HEQ : Hid (l1 = l2) := by
          have := HT.out
          rw [List.take_of_length_le (by omega), List.take_of_length_le (by omega)] at this
          exact this
        clear L1 L2
        subst hke
        go_wp2_with fail
        go_ret
        exact ⟨ret_bool (by rw [HEQ.out]; simp), n, rfl⟩
  · have hnn : ((n1 : Int) != (n2 : Int)) = true := by simp; omega
    have HNE : Hid ((l1 == l2) = false) := by
      show (l1 == l2) = false
      rw [beq_eq_false_iff_ne]
      intro he
      have := h1.1
      have := h2.1
      rw [he] at *
      omega
    clear h1 h2
    go_enter Try.func39, Try.ntmps39
    go_wp2_with fail
    go_ret
    exact ⟨ret_bool HNE.out.symm, 0, rfl⟩

set_option maxHeartbeats 800000 in
theorem above_any (a : Option Addr) (len cap : Nat) (l : List Int) (d : Int) (w : World) (hi : Ints w a len l) (hlen : len ≤ 9223372036854775807) :
    Calls Try.prog 40 #[.agg #[.slice a len cap, .int .i64 d]] w fun e w' => e = .returned (.bool (!Num.anyNeg l)) ∧ Below w.heap.size w w' := by
  have HI : Hid (Ints w a len l) := hi
  have HL : Hid (len = l.length) := hi.1
  clear hi
  go_enter Try.func40, Try.ntmps40
  go_wp2
  have hb := balloc w (.cells #[.slice a len cap, .int .i64 d] 29)
  have e0 : (w.alloc (.cells #[.slice a len cap, .int .i64 d] 29)).cell? ⟨w.heap.size, 0, none⟩ = some (.slice a len cap) := (cell_new2 rfl _ _ _).1
  have HI2 : Hid (Ints (w.alloc (.cells #[.slice a len cap, .int .i64 d] 29)) a len l) := Ints.below HI.out hb (Nat.le_refl _)
  generalize w.alloc (.cells #[.slice a len cap, .int .i64 d] 29) = W at *
  go_loop [3] (fun i => ∃ k : Nat, k ≤ len ∧ i = .int .i64 k ∧ Num.anyNeg (l.take k) = false) (fun i => len - (intOf i).toNat)
  case atStart => exact ⟨0, Nat.zero_le _, rfl, rfl⟩
  case round =>
    obtain ⟨k, hk, rfl, hw⟩ := hrel
    have HW : Hid (Num.anyNeg (l.take k) = false) := hw
    clear hw
    by_cases hlt : k < len
    · rcases HI2.out.2 with h | ⟨b, off, ha, hbs, hc⟩
      · omega
      have hck := hc k hlt
      clear hc
      have hs := Num.anyNeg_take_succ l k (by have := HL.out; omega)
      have hf := Num.anyNeg_of l k (by have := HL.out; omega)
      generalize l[k]?.getD 0 = x at hck hs hf
      have HS : Hid _ := hs
      have HF : Hid _ := hf
      clear hs hf
      subst ha
      by_cases hx1 : x < 0
      · go_wp2
        go_ret
        exact ⟨ret_bool (by rw [HF.out hx1]; rfl), hb⟩
      go_wp2
      go_round
      case rel => exact ⟨k + 1, by omega, by go_num, by rw [HS.out, HW.out]; simp; omega⟩
      case measure => simp [intOf]; omega
    · go_wp2
      go_ret
      have hke : k = l.length := by have := HL.out; omega
      refine ⟨ret_bool ?_, hb⟩
      have := HW.out
      rw [hke, List.take_length] at this
      rw [this]; rfl

set_option maxHeartbeats 800000 in
theorem may3_any (ca : Option Addr) (cl cc : Nat) (ra : Option Addr) (rl rc : Nat) (p : Num.Lp) (w : World) (hc : Ints w ca cl p.costs) (hcl : cl ≤ 9223372036854775807) (hr : RowsAt w ra rl p.rows) (hrl : rl ≤ 9223372036854775807) :
    Calls Try.prog 75 #[.agg #[.slice ca cl cc, .slice ra rl rc]] w fun e w' => e = .returned (.bool p.may) ∧ Below w.heap.size w w' := by
  have HC : Hid (Ints w ca cl p.costs) := hc
  have HR : Hid (RowsAt w ra rl p.rows) := hr
  clear hc hr
  go_enter Try.func75, Try.ntmps75
  go_wp2_with fail
  refine (r2may_any _ _ _ _ _ _ p _ (Ints.below HC.out (balloc _ _) (Nat.le_refl _)) hcl (RowsAt.below HR.out (balloc _ _) (Nat.le_refl _)) hrl).mono ?_
  rintro e w1 ⟨rfl, hb1⟩
  go_wp2_with fail
  go_ret
  exact ⟨rfl, binto hb1⟩

theorem two_set5 {w : World} {b : Nat} {a0 a1 : Value} (c0 : w.cell? ⟨b, 0, none⟩ = some a0) (c1 : w.cell? ⟨b, 1, none⟩ = some a1) (u v : Value) (o : Obj) (X : World) (hX : X = ((w.setCell ⟨b, 0, none⟩ u).setCell ⟨b, 1, none⟩ v).alloc o) :
    X.cell? ⟨b, 0, none⟩ = some u ∧ X.cell? ⟨b, 1, none⟩ = some v := by
  subst hX
  have e0 : ((w.setCell ⟨b, 0, none⟩ u).setCell ⟨b, 1, none⟩ v).cell? ⟨b, 0, none⟩ = some u := by rw [cell_set_ne (by decide)]; exact cell_set_eq c0
  have e1 : ((w.setCell ⟨b, 0, none⟩ u).setCell ⟨b, 1, none⟩ v).cell? ⟨b, 1, none⟩ = some v := cell_set_eq (by rw [cell_set_ne (by decide)]; exact c1)
  exact ⟨carry (balloc _ _) e0, carry (balloc _ _) e1⟩

set_option maxHeartbeats 800000 in
theorem of_any (n d : Int) (w : World) (x y z : Int) (h : Num.mk n d = (x, y, z)) :
    Calls Try.prog 41 #[.int .i64 n, .int .i64 d] w fun e w' => e = .returned (.agg #[.int .i64 x, .int .i64 y]) ∧ Below w.heap.size w w' := by
  have HM : Hid _ := h
  clear h
  go_enter Try.func41, Try.ntmps41
  go_wp2_with fail
  refine (rmake_any n d _ x y z HM.out).mono ?_
  rintro e w1 ⟨rfl, hb1⟩
  obtain ⟨⟨c0, c1⟩, f0, f1⟩ := kept2 hb1
  have hz : w.heap.size < w1.heap.size := by have := hb1.size; simp at this; omega
  go_wp2_with fail
  generalize hX : ((w1.setCell ⟨w.heap.size, 0, none⟩ (.int .i64 x)).setCell ⟨w.heap.size, 1, none⟩ (.int .i64 y)).alloc (.cells #[.int .i64 x, .int .i64 y] 24) = X
  have hBX : Below w.heap.size w X := by rw [← hX]; exact bstep (bset (bset (binto hb1) (Nat.le_refl _) _) (Nat.le_refl _) _) (balloc _ _)
  obtain ⟨x0, x1⟩ := two_set5 c0 c1 _ _ _ X hX.symm
  exact bodyPost_ret (v := .agg #[.int .i64 x, .int .i64 y]) (by simp [results, Try.results41, go_sem, x0, x1]) rfl ⟨rfl, hBX⟩

end Go.Proofs.Ytjlkegchkngliaa
