/- The walk of WalkTells: for every program and columns it answers true. -/
import Derived.Test.YtipcbhodlgoflaaRef5W5
namespace Go.Proofs.Ytipcbhodlgoflaa
open Go.RowKit

/-- The first step of a walk. -/
theorem Num.walked_next {p : Num.Lp} {at' : List Int} {l : List (List Int)} {k e : Int} (h : Num.Walked p at' l k e) :
    (e ≠ 0 ∧ k = 0 ∧ l = [] ∧ Num.nextN p at' = ([], 0, e)) ∨ (e = 0 ∧ l.length = 1 ∧ Num.nextN p at' = ([], k, 0)) ∨ (e = 0 ∧ 2 ≤ l.length ∧ Num.nextN p at' = (l[1]?.getD [], 0, 0)) := by
  rcases h with h | ⟨h1, _, K, a1, a2, a3, a4, a5⟩
  · exact Or.inl h
  · refine Or.inr ?_
    by_cases hK : K = 0
    · subst hK
      rw [a2] at a4
      exact Or.inl ⟨h1, by omega, a4⟩
    · have := a3 0 (by omega)
      rw [a2] at this
      exact Or.inr ⟨h1, by omega, this⟩

/-- All corners of a walk go. -/
theorem Num.walked_good {p : Num.Lp} {at' : List Int} {l : List (List Int)} {k : Int} (hmay : p.may = true) (h : Num.IsWalk p at' l k) (i : Nat) (hi : i < l.length) : Num.Good p (l[i]?.getD []) p.rows.length p.costs.length := by
  obtain ⟨K, a1, a2, a3, a4, a5⟩ := h
  by_cases hiK : i < K
  · obtain ⟨_, _, _, h2⟩ := Num.path_steps p p.rows.length p.costs.length hmay rfl rfl (fun q => l[q]?.getD []) K a3
    exact (h2 i hiK).1
  · have : i = K := by omega
    subst this
    rcases Num.next_cases p (l[i]?.getD []) p.rows.length p.costs.length hmay rfl rfl with ⟨e, he, h1, _⟩ | ⟨hg, _⟩
    · rw [a4] at h1
      simp only [Prod.mk.injEq] at h1
      exact absurd h1.2.2.symm he
    · exact hg

theorem Num.walked_len {p : Num.Lp} {at' : List Int} {l : List (List Int)} {k e : Int} (h : Num.Walked p at' l k e) (i : Nat) (hi : i < l.length) : (l[i]?.getD []).length ≤ 4 := by
  rcases h with ⟨_, _, h3, _⟩ | ⟨_, h2, h3⟩
  · rw [h3] at hi; simp at hi
  · have := (Num.right_all _ _ _ (Num.walked_good h2 h3 i hi).right).1
    have := (p.may_of h2).2.2.1.2
    omega

set_option maxRecDepth 4000 in
set_option maxHeartbeats 6400000 in
theorem walkTells.walk (ca : Option Addr) (cl cc : Nat) (ra : Option Addr) (rl rc : Nat) (p : Num.Lp) (w : World) (hc : Ints w ca cl p.costs) (hcl : cl ≤ 9223372036854775807) (hr : RowsAt w ra rl p.rows) (hrl : rl ≤ 9223372036854775807)
    (aa : Option Addr) (al ac : Nat) (at' : List Int) (ha : Ints w aa al at') (hal : al ≤ 9223372036854775807) :
    Calls Try.prog 11 #[.agg #[.slice ca cl cc, .slice ra rl rc], .slice aa al ac] w fun e w' => e = .returned (.bool true) ∧ Below w.heap.size w w' := by
  have HC : Hid (Ints w ca cl p.costs) := hc
  have HR : Hid (RowsAt w ra rl p.rows) := hr
  have HA : Hid (Ints w aa al at') := ha
  clear hc hr ha
  have HBV : Hid (∀ w', Below (w.alloc (.cells #[.slice ca cl cc, .slice ra rl rc] 40)).heap.size (w.alloc (.cells #[.slice ca cl cc, .slice ra rl rc] 40)) w' → (w'.cell? ⟨w.heap.size, 0, none⟩ = some (.slice ca cl cc) ∧ w'.cell? ⟨w.heap.size, 1, none⟩ = some (.slice ra rl rc)) ∧ Below w.heap.size w w') := fun w' h => ⟨(kept2 h).1, binto h⟩
  go_enter Try.func11, Try.ntmps11
  go_wp2_with fail
  have hbV := balloc w (.cells #[.slice ca cl cc, .slice ra rl rc] 40)
  generalize hV : w.alloc (.cells #[.slice ca cl cc, .slice ra rl rc] 40) = V at *
  clear hV
  refine (walk_any ca cl cc ra rl rc p V (Ints.below HC.out hbV (Nat.le_refl _)) hcl (RowsAt.below HR.out hbV (Nat.le_refl _)) hrl aa al ac at' (Ints.below HA.out hbV (Nat.le_refl _)) hal).mono ?_
  rintro e w1 ⟨la, ll, lc, k, er, rfl, l, hl1, hll, hw1, hb1⟩
  obtain ⟨⟨c0, c1⟩, hB1⟩ := HBV.out w1 hb1
  have HL1 : Hid (LinesN w1 la ll l) := hl1
  have HW1 : Hid (Num.Walked p at' l k er) := hw1
  clear hl1 hw1
  go_wp2_with fail
  refine (walk5_any ca cl cc ra rl rc p w1 (Ints.below HC.out hB1 (Nat.le_refl _)) hcl (RowsAt.below HR.out hB1 (Nat.le_refl _)) hrl aa al ac at' (Ints.below HA.out hB1 (Nat.le_refl _)) hal).mono ?_
  rintro e w2 ⟨xa, xl, xc, k2, er2, rfl, l2, hl2, hxl, hw2, hb2⟩
  obtain ⟨rfl, rfl, rfl⟩ := Num.walked_one HW1.out hw2
  have hbl2 := bstep hb1 hb2
  clear c0 c1 hB1
  obtain ⟨⟨c0, c1⟩, hB2⟩ := HBV.out w2 hbl2
  have HL2 : Hid (LinesN w2 xa xl l) := hl2
  have HL12 : Hid (LinesN w2 la ll l) := LinesN.below HL1.out hb2
  have hxe : xl = ll := by have := hl2.1; have := HL1.out.1; omega
  clear hl2 hw2
  subst hxe
  go_wp2_with fail
  refine (next_any ca cl cc ra rl rc p w2 (Ints.below HC.out hB2 (Nat.le_refl _)) hcl (RowsAt.below HR.out hB2 (Nat.le_refl _)) hrl aa al ac at' (Ints.below HA.out hB2 (Nat.le_refl _)) hal).mono ?_
  rintro e w3 ⟨na, nl, nc, rfl, hix, _, _, hb3⟩
  have hbl3 := bstep hbl2 hb3
  clear c0 c1 hB2
  obtain ⟨⟨c0, c1⟩, hB3⟩ := HBV.out w3 hbl3
  have HL23 : Hid (LinesN w3 xa xl l) := LinesN.below HL2.out hb3
  have HL13 : Hid (LinesN w3 la xl l) := LinesN.below HL12.out hb3
  have HN3 : Hid (Ints w3 na nl (Num.nextN p at').1) := hix
  have HWN := Num.walked_next HW1.out
  have HKK : Hid (∀ i : Nat, i < xl → ∀ w', Below w3.heap.size w3 w' → ∃ ra rl rc ra2 rl2 rc2 b o b2 o2, la = some ⟨b, o, none⟩ ∧ xa = some ⟨b2, o2, none⟩ ∧ w'.cell? ⟨b, o + i, none⟩ = some (.slice ra rl rc) ∧ w'.cell? ⟨b2, o2 + i, none⟩ = some (.slice ra2 rl2 rc2) ∧ ∀ w'', Below w3.heap.size w3 w'' → Calls Try.prog 39 #[.slice ra rl rc, .slice ra2 rl2 rc2] w'' fun e w4 => e = .returned (.bool true) ∧ ∃ n, w4 = w''.drewN n) := by
    intro i hi w' hw'
    rcases HL13.out.2 with h | ⟨b, o, h1, h2, h3⟩
    · omega
    rcases HL23.out.2 with h | ⟨b2, o2, g1, g2, g3⟩
    · omega
    obtain ⟨ra', rl', rc', d1, d2⟩ := h3 i hi
    obtain ⟨ra2, rl2, rc2, d3, d4⟩ := g3 i hi
    refine ⟨ra', rl', rc', ra2, rl2, rc2, b, o, b2, o2, h1, g1, by rw [(bcell hw').1 b _ h2]; exact d1, by rw [(bcell hw').1 b2 _ g2]; exact d3, fun w'' hw'' => ?_⟩
    have hlen := Num.walked_len HW1.out i (by have := HL13.out.1; omega)
    have e1 := d2.1
    have e2 := d4.1
    refine (ints5_any ra' ra2 rl' rc' rl2 rc2 _ _ w'' (Ints.below d2 hw'' (Nat.le_refl _)) (Ints.below d4 hw'' (Nat.le_refl _)) (by omega) (by omega)).mono ?_
    rintro e w4 ⟨rfl, n, rfl⟩
    exact ⟨by simp, n, rfl⟩
  have hne : (Num.nextN p at').2.2 = er := by
    rcases HWN with ⟨_, _, _, hn⟩ | ⟨he, _, hn⟩ | ⟨he, _, hn⟩
    · rw [hn]
    · rw [hn, he]
    · rw [hn, he]
  have hnl : nl ≤ 9223372036854775807 := by
    have h1 := hix.1
    rcases HWN with ⟨_, _, _, hn⟩ | ⟨he, _, hn⟩ | ⟨he, hl, hn⟩
    · rw [hn] at h1; simp at h1; omega
    · rw [hn] at h1; simp at h1; omega
    · rw [hn] at h1
      have := Num.walked_len HW1.out 1 (by omega)
      dsimp only at h1
      omega
  have HWN2 : Hid ((er ≠ 0 ∧ k = 0 ∧ l = [] ∧ Num.nextN p at' = ([], 0, er)) ∨ (er = 0 ∧ l.length = 1 ∧ Num.nextN p at' = ([], k, 0)) ∨ (er = 0 ∧ 2 ≤ l.length ∧ Num.nextN p at' = (l[1]?.getD [], 0, 0))) := HWN
  have HLEN : Hid (∀ i : Nat, i < l.length → (l[i]?.getD []).length ≤ 4) := Num.walked_len HW1.out
  clear HWN hix HW1
  generalize Num.nextN p at' = NX at *
  obtain ⟨nx, nk, ne⟩ := NX
  dsimp only at *
  subst hne
  have HLL : Hid (xl = l.length) := HL13.out.1
  have q1 : (k != k) = false := by simp
  have q2 : (ne != ne) = false := by simp
  have q3 : ((xl : Int) != (xl : Int)) = false := by simp
  go_wp2_with fail
  go_loopw [14] (fun i wr => ∃ j : Nat, j ≤ xl ∧ i = .int .i64 j ∧ Below w3.heap.size w3 wr) (fun i _ => xl - (intOf i).toNat)
  case atStart => exact ⟨0, Nat.zero_le _, rfl, Below.refl _ _⟩
  case round =>
    obtain ⟨j, hj, rfl, hbr⟩ := hrel
    have hBr := bstep hB3 hbr
    by_cases hlt : j < xl
    · obtain ⟨ra', rl', rc', ra2, rl2, rc2, b, o, b2, o2, e1, e2, d1, d2, KI⟩ := HKK.out j hlt wr hbr
      have HKI : Hid (∀ w'', Below w3.heap.size w3 w'' → Calls Try.prog 39 #[.slice ra' rl' rc', .slice ra2 rl2 rc2] w'' fun e w4 => e = .returned (.bool true) ∧ ∃ n, w4 = w''.drewN n) := KI
      clear KI
      subst e1 e2
      have u1 : (j : Int) < (xl : Int) := by omega
      go_wp2_with fail
      go_quiet ((go_at_call 39; exact Calls.quiet_of (HKI.out _ (bdrewN hbr _))))
      go_wp2_with fail
      go_roundw
      case rel => exact ⟨j + 1, hlt, by go_num, bdrewN hbr _⟩
      case measure => simp [intOf]; omega
    · have hje : j = xl := by omega
      subst hje
      rcases HWN2.out with ⟨he, hk, hl, hn⟩ | ⟨he, hl, hn⟩ | ⟨he, hl, hn⟩
      · simp only [Prod.mk.injEq, and_true] at hn
        obtain ⟨rfl, rfl⟩ := hn
        have hnl0 : nl = 0 := HN3.out.1
        have hen : (ne != 0) = true := by simpa using he
        subst hnl0
        clear he hk hl
        go_wp2_with fail
        go_ret
        exact ⟨rfl, hBr⟩
      · simp only [Prod.mk.injEq] at hn
        obtain ⟨rfl, rfl, _⟩ := hn
        have hnl0 : nl = 0 := HN3.out.1
        have hj1 : j = 1 := by have := HLL.out; omega
        subst hnl0 he hj1
        clear hl
        have qk : (nk == nk) = true := by simp
        go_wp2_with fail
        go_ret
        exact ⟨by simp, hBr⟩
      · simp only [Prod.mk.injEq] at hn
        obtain ⟨rfl, rfl, _⟩ := hn
        have hj2 : 2 ≤ j := by have := HLL.out; omega
        have hjd : ((j : Int) == 1) = false := by rw [beq_eq_false_iff_ne]; omega
        obtain ⟨b2, o2, ra2, rl2, rc2, e2, d2, KI⟩ : ∃ b2 o2 ra2 rl2 rc2, xa = some ⟨b2, o2, none⟩ ∧ wr.cell? ⟨b2, o2 + 1, none⟩ = some (.slice ra2 rl2 rc2) ∧ ∀ w'', Below w3.heap.size w3 w'' → Calls Try.prog 39 #[.slice na nl nc, .slice ra2 rl2 rc2] w'' fun e w4 => e = .returned (.bool true) ∧ ∃ n, w4 = w''.drewN n := by
          rcases HL23.out.2 with h | ⟨b2, o2, g1, g2, g3⟩
          · omega
          obtain ⟨ra2, rl2, rc2, d3, d4⟩ := g3 1 (by omega)
          refine ⟨b2, o2, ra2, rl2, rc2, g1, by rw [(bcell hbr).1 b2 _ g2]; exact d3, fun w'' hw'' => ?_⟩
          have hl4 := HLEN.out 1 (by have := HLL.out; omega)
          have e2 := d4.1
          refine (ints5_any na ra2 nl nc rl2 rc2 _ _ w'' (Ints.below HN3.out hw'' (Nat.le_refl _)) (Ints.below d4 hw'' (Nat.le_refl _)) hnl (by omega)).mono ?_
          rintro e w4 ⟨rfl, n, rfl⟩
          exact ⟨by simp, n, rfl⟩
        have HKI : Hid (∀ w'', Below w3.heap.size w3 w'' → Calls Try.prog 39 #[.slice na nl nc, .slice ra2 rl2 rc2] w'' fun e w4 => e = .returned (.bool true) ∧ ∃ n, w4 = w''.drewN n) := KI
        subst e2 he
        clear KI hl
        have u1 : (1 : Int) < (j : Int) := by omega
        go_wp2_with fail
        refine (HKI.out _ hbr).mono ?_
        rintro e w4 ⟨rfl, n2, rfl⟩
        go_wp2_with fail
        go_ret
        exact ⟨by simp, bdrewN hBr n2⟩

end Go.Proofs.Ytipcbhodlgoflaa
