/- What corner.areChosen and the document's Right do. -/
import Derived.Test.YtjpliphobnflpaaCornW7
namespace Go.Proofs.Ytjpliphobnflpaa
open Go.RowKit

namespace Num
def leastN (at' : List Int) : Nat → Int
  | 0 => 0
  | k + 1 => at'[k]?.getD 0 + 1
def okN (at' : List Int) (N : Nat) : Nat → Bool
  | 0 => true
  | k + 1 => okN at' N k && (decide (leastN at' k ≤ at'[k]?.getD 0) && decide (at'[k]?.getD 0 < N))
/-- As many numbers of columns as there are rows, rising. -/
def rightB (at' : List Int) (m N : Nat) : Bool := (at'.length == m) && okN at' N m

theorem okN_succ (at' : List Int) (N k : Nat) : okN at' N (k + 1) = (okN at' N k && (decide (leastN at' k ≤ at'[k]?.getD 0) && decide (at'[k]?.getD 0 < N))) := rfl

theorem okN_bad (at' : List Int) (N k m : Nat) (hk : k < m) (h : at'[k]?.getD 0 < leastN at' k ∨ (N : Int) ≤ at'[k]?.getD 0) : okN at' N m = false := by
  induction m with
  | zero => omega
  | succ m ih =>
    rw [okN_succ]
    by_cases hm : k = m
    · subst hm
      rcases h with h | h
      · have : ¬ leastN at' k ≤ at'[k]?.getD 0 := by omega
        simp [this]
      · have : ¬ at'[k]?.getD 0 < N := by omega
        simp [this]
    · rw [ih (by omega)]; rfl

theorem okN_all (at' : List Int) (N m : Nat) (h : okN at' N m = true) : ∀ k, k < m → leastN at' k ≤ at'[k]?.getD 0 ∧ at'[k]?.getD 0 < N := by
  induction m with
  | zero => intro k hk; omega
  | succ m ih =>
    rw [okN_succ] at h
    simp only [Bool.and_eq_true, decide_eq_true_eq] at h
    intro k hk
    by_cases hm : k = m
    · subst hm; exact h.2
    · exact ih h.1 k (by omega)

theorem leastN_nonneg (at' : List Int) (N m : Nat) (h : okN at' N m = true) : ∀ k, k ≤ m → 0 ≤ leastN at' k := by
  intro k hk
  induction k with
  | zero => exact Int.le_refl _
  | succ k ih =>
    have := okN_all at' N m h k (by omega)
    have := ih (by omega)
    show 0 ≤ at'[k]?.getD 0 + 1
    omega

theorem right_all (at' : List Int) (m N : Nat) (h : rightB at' m N = true) : at'.length = m ∧ ∀ k, k < m → 0 ≤ at'[k]?.getD 0 ∧ at'[k]?.getD 0 < N := by
  unfold rightB at h
  simp only [Bool.and_eq_true, beq_iff_eq] at h
  refine ⟨h.1, fun k hk => ?_⟩
  have := okN_all at' N m h.2 k hk
  have := leastN_nonneg at' N m h.2 k (by omega)
  omega
end Num

set_option maxHeartbeats 800000 in
theorem chosen_any (ca : Option Addr) (cl cc : Nat) (ra : Option Addr) (rl rc : Nat) (w : World) (aa : Option Addr) (al ac : Nat) (at' : List Int) (ha : Ints w aa al at') (hal : al ≤ 9223372036854775807) (N : Nat) (hN : cl + rl = N) (h8 : N ≤ 8) :
    Calls Try.prog 51 #[.agg #[.slice ca cl cc, .slice ra rl rc], .slice aa al ac] w fun e w' => e = .returned (.bool (Num.rightB at' rl N)) ∧ Below w.heap.size w w' := by
  have HA : Hid (Ints w aa al at') := ha
  have HL : Hid (al = at'.length) := ha.1
  have HN : Hid (cl + rl = N) := hN
  have hr8 : rl ≤ 8 := by omega
  clear ha hN
  by_cases h1 : al = rl
  · subst h1
    have HF : Hid (Num.rightB at' al N = Num.okN at' N al) := by have := HL.out; show (_ && _) = _; rw [← this]; simp
    go_enter Try.func51, Try.ntmps51
    go_wp2_with fail
    go_loopw [5, 16] (fun s i wr => ∃ k : Nat, k ≤ al ∧ i = .int .i64 k ∧ s = .int .i64 (Num.leastN at' k) ∧ Num.okN at' N k = true ∧ Below (w.alloc (.cells #[.slice ca cl cc, .slice ra al rc] 40)).heap.size (w.alloc (.cells #[.slice ca cl cc, .slice ra al rc] 40)) wr) (fun _ i _ => al - (intOf i).toNat)
    case atStart => exact ⟨0, Nat.zero_le _, rfl, rfl, rfl, Below.refl _ _⟩
    case round =>
      obtain ⟨k, hk, rfl, rfl, hok, hbl⟩ := hrel
      have HOK : Hid _ := hok
      clear hok
      have hB : Below w.heap.size w wr := binto hbl
      by_cases hlt : k < al
      · rcases (Ints.below HA.out hB (Nat.le_refl _)).2 with h | ⟨b, off, ha, hbs, hc⟩
        · omega
        have hck := hc k hlt
        clear hc
        obtain ⟨⟨e0, e1⟩, _⟩ := kept2 hbl
        have HB : Hid (at'[k]?.getD 0 < Num.leastN at' k ∨ (N : Int) ≤ at'[k]?.getD 0 → Num.rightB at' al N = false) := fun h => by rw [HF.out]; exact Num.okN_bad at' N k al hlt h
        have HS : Hid (Num.okN at' N (k + 1) = (Num.okN at' N k && (decide (Num.leastN at' k ≤ at'[k]?.getD 0) && decide (at'[k]?.getD 0 < N)))) := Num.okN_succ at' N k
        have HLE : Hid (Num.leastN at' (k + 1) = at'[k]?.getD 0 + 1) := rfl
        have hl0 := Num.leastN_nonneg at' N k HOK.out k (Nat.le_refl _)
        generalize at'[k]?.getD 0 = x at hck HB HS HLE
        generalize Num.leastN at' k = y at *
        subst ha
        by_cases hx : x < y
        · go_wp2_with fail
          go_ret
          exact ⟨ret_bool (HB.out (Or.inl hx)).symm, hB⟩
        · have hx' : decide (x < y) = false := by simpa using hx
          by_cases hx2 : (N : Int) ≤ x
          · go_wp2_with fail
            refine (width_any _ _ _ _ _ _ _ N HN.out h8).mono ?_
            rintro e w5 ⟨rfl, hb5⟩
            go_wp2_with fail
            go_ret
            exact ⟨ret_bool (HB.out (Or.inr hx2)).symm, bstep hB hb5⟩
          · have hx2' : decide ((N : Int) ≤ x) = false := by simpa using hx2
            go_wp2_with fail
            refine (width_any _ _ _ _ _ _ _ N HN.out h8).mono ?_
            rintro e w5 ⟨rfl, hb5⟩
            go_wp2_with fail
            go_roundw
            case rel => exact ⟨k + 1, hlt, by go_num, by rw [HLE.out], by rw [HS.out, HOK.out]; simp; omega, bstep hbl hb5⟩
            case measure => simp [intOf]; omega
      · have hke : k = al := by omega
        subst hke
        go_wp2_with fail
        go_ret
        exact ⟨ret_bool (by rw [HF.out, HOK.out]), hB⟩
  · have h1' : ((al : Int) == (rl : Int)) = false := beq_eq_false_iff_ne.2 (by omega)
    have h1'' : ((al : Int) != (rl : Int)) = true := by simp; omega
    have HF : Hid (Num.rightB at' rl N = false) := by have := HL.out; show (_ && _) = _; rw [show (at'.length == rl) = false from beq_eq_false_iff_ne.2 (by omega)]; rfl
    go_enter Try.func51, Try.ntmps51
    go_wp2_with fail
    go_ret
    exact ⟨ret_bool HF.out.symm, balloc _ _⟩

set_option maxHeartbeats 1600000 in
theorem right_any (ca : Option Addr) (cl cc : Nat) (ra : Option Addr) (rl rc : Nat) (w : World) (aa : Option Addr) (al ac : Nat) (at' : List Int) (ha : Ints w aa al at') (hal : al ≤ 9223372036854775807) (N : Nat) (hN : cl + rl = N) (h8 : N ≤ 8) :
    Calls Try.prog 31 #[.agg #[.slice ca cl cc, .slice ra rl rc], .slice aa al ac] w fun e w' => e = .returned (.bool (Num.rightB at' rl N)) ∧ Below w.heap.size w w' := by
  have HA : Hid (Ints w aa al at') := ha
  have HL : Hid (al = at'.length) := ha.1
  have hr8 : rl ≤ 8 := by omega
  have hc8 : cl ≤ 8 := by omega
  have HN : Hid ((cl : Int) + rl = N) := by show (cl : Int) + rl = N; omega
  clear ha hN
  by_cases h1 : al = rl
  · subst h1
    have HF : Hid (Num.rightB at' al N = Num.okN at' N al) := by have := HL.out; show (_ && _) = _; rw [← this]; simp
    go_enter Try.func31, Try.ntmps31
    go_wp2_with fail
    go_loopw [5] (fun i wr => ∃ k : Nat, k ≤ al ∧ i = .int .i64 k ∧ Num.okN at' N k = true ∧ ∃ q, wr = (w.alloc (.cells #[.slice ca cl cc, .slice ra al rc] 40)).drewN q) (fun i _ => al - (intOf i).toNat)
    case atStart => exact ⟨0, Nat.zero_le _, rfl, rfl, 0, rfl⟩
    case round =>
      obtain ⟨k, hk, rfl, hok, q, rfl⟩ := hrel
      have HOK : Hid _ := hok
      clear hok
      have hB : Below w.heap.size w ((w.alloc (.cells #[.slice ca cl cc, .slice ra al rc] 40)).drewN q) := bdrewN (balloc _ _) q
      by_cases hlt : k < al
      · rcases (Ints.below HA.out (balloc w (.cells #[.slice ca cl cc, .slice ra al rc] 40)) (Nat.le_refl _)).2 with h | ⟨b, off, ha, hbs, hc⟩
        · omega
        have hck := hc k hlt
        have hck1 : k = 0 ∨ ∃ k', k = k' + 1 := by cases k with | zero => exact Or.inl rfl | succ k' => exact Or.inr ⟨k', rfl⟩
        have HB : Hid (at'[k]?.getD 0 < Num.leastN at' k ∨ (N : Int) ≤ at'[k]?.getD 0 → Num.rightB at' al N = false) := fun h => by rw [HF.out]; exact Num.okN_bad at' N k al hlt h
        have HS : Hid (Num.okN at' N (k + 1) = (Num.okN at' N k && (decide (Num.leastN at' k ≤ at'[k]?.getD 0) && decide (at'[k]?.getD 0 < N)))) := Num.okN_succ at' N k
        have hl0 := Num.leastN_nonneg at' N k HOK.out k (Nat.le_refl _)
        subst ha
        rcases hck1 with rfl | ⟨k', rfl⟩
        · clear hc
          have hle : Num.leastN at' 0 = 0 := rfl
          rw [hle] at HB HS hl0
          generalize at'[0]?.getD 0 = x at hck HB HS
          rw [Nat.add_zero] at hck
          simp only [Int.natCast_zero]
          have hx0' : decide (x < 0) = false ∨ x < 0 := by by_cases h : x < 0; exact Or.inr h; exact Or.inl (by simpa using h)
          rcases hx0' with hx0' | hx
          · have hx0 : ¬ x < 0 := by simpa using hx0'
            by_cases hx2 : (cl : Int) + al ≤ x
            · go_wp2_with fail
              go_region
              go_wp2_with fail
              go_ret
              exact ⟨ret_bool (HB.out (Or.inr (by have := HN.out; omega))).symm, hB.drew⟩
            · have hx2' : decide ((cl : Int) + al ≤ x) = false := by simpa using hx2
              go_wp2_with fail
              go_region
              go_wp2_with fail
              go_roundw
              case rel => exact ⟨1, hlt, by go_num, by rw [HS.out, HOK.out]; simp; have := HN.out; omega, q + 1, rfl⟩
              case measure => simp [intOf]; omega
          · go_wp2_with fail
            go_region
            go_wp2_with fail
            go_ret
            exact ⟨ret_bool (HB.out (Or.inl (by omega))).symm, hB.drew⟩
        · have hck2 := hc k' (by omega)
          clear hc
          have hle : Num.leastN at' (k' + 1) = at'[k']?.getD 0 + 1 := rfl
          rw [hle] at HB HS hl0
          generalize at'[k' + 1]?.getD 0 = x at hck HB HS
          generalize at'[k']?.getD 0 = z at hck2 HB HS hl0
          clear hle
          have hx0' : decide (x < 0) = false ∨ x < 0 := by by_cases h : x < 0; exact Or.inr h; exact Or.inl (by simpa using h)
          rcases hx0' with hx0' | hx
          · have hx0 : ¬ x < 0 := by simpa using hx0'
            by_cases hx2 : (cl : Int) + al ≤ x
            · go_wp2_with fail
              go_region
              go_wp2_with fail
              go_ret
              exact ⟨ret_bool (HB.out (Or.inr (by have := HN.out; omega))).symm, hB.drew⟩
            · have hx2' : decide ((cl : Int) + al ≤ x) = false := by simpa using hx2
              by_cases hx3 : x ≤ z
              · go_wp2_with fail
                go_region
                go_wp2_with fail
                go_ret
                exact ⟨ret_bool (HB.out (Or.inl (by omega))).symm, hB.drew⟩
              · have hx3' : decide (x ≤ z) = false := by simpa using hx3
                go_wp2_with fail
                go_region
                go_wp2_with fail
                go_roundw
                case rel => exact ⟨k' + 1 + 1, hlt, by go_num, by rw [HS.out, HOK.out]; simp; have := HN.out; omega, q + 1, rfl⟩
                case measure => simp [intOf]; omega
          · go_wp2_with fail
            go_region
            go_wp2_with fail
            go_ret
            exact ⟨ret_bool (HB.out (Or.inl (by omega))).symm, hB.drew⟩
      · have hke : k = al := by omega
        subst hke
        go_wp2_with fail
        go_ret
        exact ⟨ret_bool (by rw [HF.out, HOK.out]), hB⟩
  · have h1' : ((al : Int) == (rl : Int)) = false := beq_eq_false_iff_ne.2 (by omega)
    have h1'' : ((al : Int) != (rl : Int)) = true := by simp; omega
    have HF : Hid (Num.rightB at' rl N = false) := by have := HL.out; show (_ && _) = _; rw [show (at'.length == rl) = false from beq_eq_false_iff_ne.2 (by omega)]; rfl
    go_enter Try.func31, Try.ntmps31
    go_wp2_with fail
    go_ret
    exact ⟨ret_bool HF.out.symm, balloc _ _⟩

end Go.Proofs.Ytjpliphobnflpaa
