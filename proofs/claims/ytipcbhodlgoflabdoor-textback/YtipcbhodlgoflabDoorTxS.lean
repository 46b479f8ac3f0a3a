/- The document's nums and Same (chapter 9), of programs that are one. -/
import Derived.Test.YtipcbhodlgoflabDoorRef2A
import Derived.Test.YtipcbhodlgoflabDoorSixA
import Derived.Deep.RegionHeld3
namespace Go.Proofs.YtipcbhodlgoflabDoor
open Go.RowKit

set_option maxHeartbeats 800000 in
theorem nums_yes (a1 a2 : Option Addr) (n c1 c2 : Nat) (l : List Int) (w : World) (h1 : Ints w a1 n l) (h2 : Ints w a2 n l) (hn : n ≤ 9223372036854775807) :
    Calls Tryd.prog 26 #[.slice a1 n c1, .slice a2 n c2] w fun e w' => e = .returned (.bool true) ∧ Below w.heap.size w w' := by
  have H1 : Hid _ := h1
  have H2 : Hid _ := h2
  clear h1 h2
  have hnn : ((n : Int) != (n : Int)) = false := by simp
  go_enter Tryd.func26, Tryd.ntmps26
  go_wp2_with fail
  go_loopw [5] (fun i wr => ∃ k j : Nat, k ≤ n ∧ i = .int .i64 k ∧ wr = w.drewN j) (fun i _ => n - (intOf i).toNat)
  case atStart => exact ⟨0, 0, Nat.zero_le _, rfl, rfl⟩
  case round =>
    obtain ⟨k, j, hk, rfl, rfl⟩ := hrel
    by_cases hlt : k < n
    · obtain ⟨b1, o1, ha1, hc1⟩ : ∃ b off, a1 = some ⟨b, off, none⟩ ∧ w.cell? ⟨b, off + k, none⟩ = some (.int .i64 (l[k]?.getD 0)) := by
        rcases H1.out.2 with h | ⟨b, off, ha, hbs, hc⟩
        · omega
        · exact ⟨b, off, ha, hc k hlt⟩
      obtain ⟨b2, o2, ha2, hc2⟩ : ∃ b off, a2 = some ⟨b, off, none⟩ ∧ w.cell? ⟨b, off + k, none⟩ = some (.int .i64 (l[k]?.getD 0)) := by
        rcases H2.out.2 with h | ⟨b, off, ha, hbs, hc⟩
        · omega
        · exact ⟨b, off, ha, hc k hlt⟩
      generalize l[k]?.getD 0 = x at *
      subst ha1 ha2
      clear H1 H2
      have hxx : (x != x) = false := by simp
      go_wp2_with fail
      go_region
      go_wp2_with fail
      go_roundw
      case rel => exact ⟨k + 1, j + 1, by omega, by go_num, rfl⟩
      case measure => simp [intOf]; omega
    · go_wp2_with fail
      go_ret
      exact ⟨rfl, bdrewN (Below.refl _ _) j⟩

set_option maxRecDepth 8000 in
set_option maxHeartbeats 3200000 in
theorem sameP_yes (ca : Option Addr) (cl cc : Nat) (ra : Option Addr) (rl rc : Nat) (da : Option Addr) (dc : Nat) (sa : Option Addr) (sc : Nat) (p : Num.Lp) (w : World)
    (hc : Ints w ca cl p.costs) (hcl : cl ≤ 9223372036854775807) (hr : RowsAt w ra rl p.rows) (hrl : rl ≤ 9223372036854775807) (hd : Ints w da cl p.costs) (hs : RowsAt w sa rl p.rows) :
    Calls Tryd.prog 12 #[.agg #[.slice ca cl cc, .slice ra rl rc], .agg #[.slice da cl dc, .slice sa rl sc]] w fun e w' => e = .returned (.bool true) ∧ Below w.heap.size w w' := by
  have HC : Hid (Ints w ca cl p.costs) := hc
  have HD : Hid (Ints w da cl p.costs) := hd
  have HR : Hid (RowsAt w ra rl p.rows) := hr
  have HS : Hid (RowsAt w sa rl p.rows) := hs
  clear hc hd hr hs
  have hnn : ((rl : Int) != (rl : Int)) = false := by simp
  go_enter Tryd.func12, Tryd.ntmps12
  go_wp2_with fail
  generalize hV : (w.alloc (.cells #[.slice ca cl cc, .slice ra rl rc] 25)).alloc (.cells #[.slice da cl dc, .slice sa rl sc] 25) = V
  obtain ⟨⟨k0, k1⟩, ⟨k2, k3⟩, _, hz, hBV⟩ := boxes (w := w) (a := .slice ca cl cc) (b := .slice ra rl rc) (c := .slice da cl dc) (d := .slice sa rl sc) (t := 25) (t' := 25) (w1 := V) (by rw [← hV]; exact Below.refl _ _)
  clear hV
  refine (nums_yes ca da cl cc dc p.costs V (HC.out.below hBV (Nat.le_refl _)) (HD.out.below hBV (Nat.le_refl _)) hcl).mono ?_
  rintro e w1 ⟨rfl, hb1⟩
  have q0 : ∀ w', Below V.heap.size V w' → w'.cell? ⟨w.heap.size, 1, none⟩ = some (.slice ra rl rc) := fun w' h => carry h k1
  have q1 : ∀ w', Below V.heap.size V w' → w'.cell? ⟨w.heap.size + 1, 1, none⟩ = some (.slice sa rl sc) := fun w' h => carry h k3
  have d0 := q0 w1 hb1
  have d1 := q1 w1 hb1
  clear k0 k2
  go_wp2_with fail
  go_loopw [5] (fun i wr => ∃ k : Nat, k ≤ rl ∧ i = .int .i64 k ∧ Below V.heap.size V wr) (fun i _ => rl - (intOf i).toNat)
  case atStart => exact ⟨0, Nat.zero_le _, rfl, hb1⟩
  case round =>
    obtain ⟨k, hk, rfl, hbl⟩ := hrel
    clear d0 d1
    have d0 := q0 wr hbl
    have d1 := q1 wr hbl
    by_cases hlt : k < rl
    · rcases HR.out.2 with h0 | ⟨b, off, hra, hbs, hrc⟩
      · omega
      rcases HS.out.2 with h0 | ⟨b', off', hsa, hbs', hsc⟩
      · omega
      obtain ⟨xa, xl, xc, c0, c1, hxi, hxl⟩ := hrc k hlt
      obtain ⟨ya, yl, yc, e0, e1, hyi, hyl⟩ := hsc k hlt
      have hxy : yl = xl := by have := hxi.1; have := hyi.1; omega
      subst hxy
      subst hra hsa
      have q2 : ∀ w', Below V.heap.size V w' → w'.cell? ⟨b, off + k * 2, none⟩ = some (.slice xa yl xc) := fun w' h => by rw [(bcell (hBV.trans (h.mono hBV.size))).1 b _ hbs]; exact c0
      have q3 : ∀ w', Below V.heap.size V w' → w'.cell? ⟨b, off + k * 2 + 1, none⟩ = some (.int .i64 (p.rows[k]?.getD ([], 0)).2) := fun w' h => by rw [(bcell (hBV.trans (h.mono hBV.size))).1 b _ hbs]; exact c1
      have q4 : ∀ w', Below V.heap.size V w' → w'.cell? ⟨b', off' + k * 2, none⟩ = some (.slice ya yl yc) := fun w' h => by rw [(bcell (hBV.trans (h.mono hBV.size))).1 b' _ hbs']; exact e0
      have q5 : ∀ w', Below V.heap.size V w' → w'.cell? ⟨b', off' + k * 2 + 1, none⟩ = some (.int .i64 (p.rows[k]?.getD ([], 0)).2) := fun w' h => by rw [(bcell (hBV.trans (h.mono hBV.size))).1 b' _ hbs']; exact e1
      have KN : Hid (∀ w', Below V.heap.size V w' → Calls Tryd.prog 26 #[.slice xa yl xc, .slice ya yl yc] w' fun e w'' => e = .returned (.bool true) ∧ Below V.heap.size V w'') := by
        intro w' h
        have hB := hBV.trans (h.mono hBV.size)
        exact (nums_yes xa ya yl xc yc _ w' (hxi.below hB (Nat.le_refl _)) (hyi.below hB (Nat.le_refl _)) hyl).mono fun _ _ k => ⟨k.1, bstep h k.2⟩
      clear hrc hsc hxi hyi c0 c1 e0 e1
      generalize (p.rows[k]?.getD ([], 0)).2 = m at *
      have hmm : (m != m) = false := by simp
      go_wp2_with fail
      go_region_held3 (fun w' => Below V.heap.size V w') (first | (with_reducible assumption) | (with_reducible exact Below.drew hbl))
        (first | (go_at_call 26; refine (KN.out _ ?_).mono ?_; (with_reducible assumption); rintro e w' ⟨rfl, hb⟩))
      clear q0 q1 q2 q3 q4 q5 d0 d1
      go_wp2_with fail
      go_roundw
      case rel => exact ⟨k + 1, by omega, by go_num, by assumption⟩
      case measure => simp [intOf]; omega
    · go_wp2_with fail
      go_ret
      exact ⟨rfl, hBV.trans (hbl.mono hBV.size)⟩

end Go.Proofs.YtipcbhodlgoflabDoor
