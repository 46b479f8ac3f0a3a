/- The document's Number (chapter 9). -/
import Derived.Test.YtipcbhodlgoflabDoorTxB
namespace Go.Proofs.YtipcbhodlgoflabDoor
open Go.RowKit

theorem val_lt : ∀ (l : List UInt8), (∀ c ∈ l, Num.isDig c = true) → ∀ a k, a < 10 ^ k → l.foldl (fun a (c : UInt8) => 10 * a + (c.toNat - 48)) a < 10 ^ (k + l.length) := by
  intro l
  induction l with
  | nil => intro _ a k h; exact h
  | cons c l ih =>
    intro h a k ha
    have hc := h c (by simp)
    unfold Num.isDig at hc
    simp only [Bool.and_eq_true, decide_eq_true_eq] at hc
    have h1 : 10 * a + (c.toNat - 48) < 10 ^ (k + 1) := by rw [Nat.pow_succ]; omega
    have := ih (fun x hx => h x (by simp [hx])) _ (k + 1) h1
    rw [List.foldl_cons, List.length_cons, show k + (l.length + 1) = k + 1 + l.length by omega]
    exact this

theorem val_small (l : List UInt8) (h : ∀ c ∈ l, Num.isDig c = true) (hl : l.length ≤ 6) : Num.valN l < 1000000 := by
  have := val_lt l h 0 0 (by simp)
  have h2 : 10 ^ (0 + l.length) ≤ 10 ^ 6 := Nat.pow_le_pow_right (by omega) (by omega)
  have : Num.valN l < 10 ^ (0 + l.length) := this
  omega

/-- The digits read so far. -/
def Digs (t : List UInt8) (i : Nat) (n : Nat) : Prop := n = Num.valN (t.take i) ∧ (∀ c ∈ t.take i, Num.isDig c = true)

theorem digs_next {t : List UInt8} {i n : Nat} (h : Digs t i n) (hi : i < t.length) (hd : Num.isDig (t[i]'hi) = true) : Digs t (i + 1) (10 * n + ((t[i]'hi).toNat - 48)) := by
  refine ⟨?_, ?_⟩
  · rw [List.take_succ_eq_append_getElem hi, Num.val_end, ← h.1]
  · intro c hc
    rw [List.take_succ_eq_append_getElem hi] at hc
    rcases List.mem_append.1 hc with hc | hc
    · exact h.2 c hc
    · rw [List.mem_singleton.1 hc]; exact hd

theorem Digs.small {t : List UInt8} {i n : Nat} (h : Digs t i n) (ht : t.length ≤ 6) : n < 1000000 := by
  rw [h.1]
  exact val_small _ h.2 (by rw [List.length_take]; omega)

/-- The condition under which no digits are looked at. -/
def badW (t : List UInt8) (b : Bool) : Prop := t.length < 1 ∨ 6 < t.length ∨ (t.head? = some 48 ∧ (1 < t.length ∨ b = true))

theorem nat_bad {t : List UInt8} {b : Bool} (h : badW t b) : Num.natW t b = none := by
  unfold Num.natW
  exact if_pos h

theorem nat_not {t : List UInt8} {b : Bool} (h : ¬ badW t b) (i : Nat) (hi : i < t.length) (hd : Num.isDig (t[i]'hi) = false) : Num.natW t b = none := by
  unfold Num.natW
  unfold badW at h
  rw [if_neg h, if_neg]
  rw [List.all_eq_true]
  intro hall
  rw [hall _ (List.getElem_mem hi)] at hd
  cases hd

theorem nat_yes {t : List UInt8} {b : Bool} (h : ¬ badW t b) {n : Nat} (hd : Digs t t.length n) : Num.natW t b = some n := by
  unfold Num.natW
  unfold badW at h
  rw [if_neg h, if_pos]
  · rw [hd.1, List.take_length]
  · rw [List.all_eq_true]
    have := hd.2
    rw [List.take_length] at this
    exact this

set_option maxRecDepth 8000 in
set_option maxHeartbeats 6400000 in
theorem number_below (l t : List UInt8) (S T : ByteArray) (n1 : Nat) (hsz : S.size = n1 + 1) (hn1 : n1 ≤ 2000000) (hg0 : ∀ h, S[0]'h = (45 : UInt8)) (hx : S.extract 1 (n1 + 1) = T) (tl : Nat) (hts : T.size = tl) (htl : tl ≤ 2000000) (HTL : Hid (t.length = tl)) (HTG : Hid (∀ i h (h' : i < t.length), T[i]'h = t[i]'h'))
    (HE : Hid (Num.numW l = (Num.natW t true).map (fun n : Nat => -(n : Int)))) (w : World) :
    Calls Tryd.prog 25 #[.string S] w fun e w' => e = .returned (.tuple #[.int .i64 ((Num.numW l).getD 0), .bool (Num.numW l).isSome]) ∧ w' = w := by
  have hd : ((((45 : UInt8).toNat : Nat) : Int) == 45) = true := by decide
  by_cases hA : tl = 0
  · subst hA
    have EE : Hid (Num.numW l = none) := show _ = _ by rw [HE.out, nat_bad (b := true) (Or.inl (by have := HTL.out; omega))]; rfl
    go_enter Tryd.func25, Tryd.ntmps25
    go_wp2_with fail
    go_ret2
    exact ⟨by rw [EE.out]; rfl, rfl⟩
  · have hA1 : ¬ ((tl : Int) < 1) := by omega
    by_cases hB : (6 : Int) < (tl : Int)
    · have EE : Hid (Num.numW l = none) := show _ = _ by rw [HE.out, nat_bad (b := true) (Or.inr (Or.inl (by have := HTL.out; omega)))]; rfl
      go_enter Tryd.func25, Tryd.ntmps25
      go_wp2_with fail
      go_ret2
      exact ⟨by rw [EE.out]; rfl, rfl⟩
    · have h0t : 0 < t.length := by have := HTL.out; omega
      have hg : ∀ h, T[0]'h = t[0]'h0t := fun h => HTG.out 0 h h0t
      have HHD : Hid (t.head? = some (t[0]'h0t)) := show _ = _ by rw [List.head?_eq_getElem?, List.getElem?_eq_getElem h0t]
      generalize t[0]'h0t = d at hg HHD
      by_cases hC : d = 48
      · subst hC
        have hd0 : ((((48 : UInt8).toNat : Nat) : Int) == 48) = true := by decide
        by_cases hD : (1 : Int) < (tl : Int)
        · have EE : Hid (Num.numW l = none) := show _ = _ by rw [HE.out, nat_bad (b := true) (Or.inr (Or.inr ⟨HHD.out, Or.inl (by have := HTL.out; omega)⟩))]; rfl
          go_enter Tryd.func25, Tryd.ntmps25
          go_wp2_with fail
          go_ret2
          exact ⟨by rw [EE.out]; rfl, rfl⟩
        · have EE : Hid (Num.numW l = none) := show _ = _ by rw [HE.out, nat_bad (b := true) (Or.inr (Or.inr ⟨HHD.out, Or.inr rfl⟩))]; rfl
          go_enter Tryd.func25, Tryd.ntmps25
          go_wp2_with fail
          go_ret2
          exact ⟨by rw [EE.out]; rfl, rfl⟩
      · have hd0 : (((d.toNat : Nat) : Int) == 48) = false := by
          rw [beq_eq_false_iff_ne]
          intro e
          exact hC (UInt8.toNat_inj.1 (by show d.toNat = 48; omega))
        have HNB : Hid (¬ badW t true) := by
          rintro (h | h | ⟨h, _⟩)
          · have := HTL.out; omega
          · have := HTL.out; omega
          · rw [HHD.out] at h; exact hC (Option.some.inj h)
        go_enter Tryd.func25, Tryd.ntmps25
        go_wp2_with fail
        go_loop [6, 7] (fun nv iv => ∃ i n : Nat, i ≤ tl ∧ iv = .int .i64 i ∧ nv = .int .i64 n ∧ Digs t i n) (fun _ iv => tl - (intOf iv).toNat)
        case atStart => exact ⟨0, 0, Nat.zero_le _, rfl, rfl, rfl, by simp⟩
        case round =>
          obtain ⟨i, n, hi, rfl, rfl, hdg⟩ := hrel
          have HDG : Hid (Digs t i n) := hdg
          have hn6 := hdg.small (by have := HTL.out; omega)
          clear hdg
          by_cases hlt : i < tl
          · have hit : i < t.length := by have := HTL.out; omega
            have hgi : ∀ h, T[i]'h = t[i]'hit := fun h => HTG.out i h hit
            have HNX := digs_next HDG.out hit
            have HNN := nat_not (b := true) HNB.out i hit
            have HNX' : Hid (Num.isDig (t[i]'hit) = true → Digs t (i + 1) (10 * n + ((t[i]'hit).toNat - 48))) := HNX
            have HNN' : Hid (Num.isDig (t[i]'hit) = false → Num.natW t true = none) := HNN
            have hul := (t[i]'hit).toNat_lt
            generalize t[i]'hit = x at hgi HNX' HNN' hul
            clear HNX HNN
            have hxl : ((x.toNat : Nat) : Int) < 256 := by omega
            by_cases h1 : ((x.toNat : Nat) : Int) < 48
            · have E := HNN'.out (by unfold Num.isDig; rw [decide_eq_false (by omega)]; rfl)
              have EE : Hid (Num.numW l = none) := show _ = _ by rw [HE.out, E]; rfl
              clear E
              go_wp2_with fail
              go_ret2
              exact ⟨by rw [EE.out]; rfl, rfl⟩
            · by_cases h2 : (57 : Int) < ((x.toNat : Nat) : Int)
              · have E := HNN'.out (by unfold Num.isDig; rw [decide_eq_false (p := x.toNat ≤ 57) (by omega), Bool.and_false])
                have EE : Hid (Num.numW l = none) := show _ = _ by rw [HE.out, E]; rfl
                clear E
                go_wp2_with fail
                go_ret2
                exact ⟨by rw [EE.out]; rfl, rfl⟩
              · have R : Hid (Digs t (i + 1) (10 * n + (x.toNat - 48))) := HNX'.out (by unfold Num.isDig; rw [decide_eq_true (p := 48 ≤ x.toNat) (by omega), decide_eq_true (p := x.toNat ≤ 57) (by omega)]; rfl)
                have hcast : ((10 * n + (x.toNat - 48) : Nat) : Int) = 10 * (n : Int) + ((x.toNat : Int) - 48) := by omega
                go_wp2_with fail
                go_round
                case rel => exact ⟨i + 1, 10 * n + (x.toNat - 48), by omega, by go_num, by rw [hcast], R.out⟩
                case measure => simp [intOf]; omega
          · have hie : i = tl := by omega
            subst hie
            have EE : Hid (Num.numW l = some (-(n : Int))) := show _ = _ by rw [HE.out, nat_yes HNB.out (n := n) (by have := HDG.out; rw [← HTL.out] at this; exact this)]; rfl
            go_wp2_with fail
            go_ret2
            exact ⟨by rw [EE.out]; rfl, rfl⟩

set_option maxRecDepth 8000 in
set_option maxHeartbeats 6400000 in
theorem number_above (l t : List UInt8) (T : ByteArray) (c : UInt8) (hgc : ∀ h, T[0]'h = c) (hcc : (((c.toNat : Nat) : Int) == 45) = false) (tl : Nat) (hts : T.size = tl) (ht1 : 0 < tl) (htl : tl ≤ 2000000) (HTL : Hid (t.length = tl)) (HTG : Hid (∀ i h (h' : i < t.length), T[i]'h = t[i]'h'))
    (HHD : Hid (t.head? = some c)) (HE : Hid (Num.numW l = (Num.natW t false).map (fun n : Nat => (n : Int)))) (w : World) :
    Calls Tryd.prog 25 #[.string T] w fun e w' => e = .returned (.tuple #[.int .i64 ((Num.numW l).getD 0), .bool (Num.numW l).isSome]) ∧ w' = w := by
  by_cases hA : tl = 0
  · subst hA
    have EE : Hid (Num.numW l = none) := show _ = _ by rw [HE.out, nat_bad (b := false) (Or.inl (by have := HTL.out; omega))]; rfl
    go_enter Tryd.func25, Tryd.ntmps25
    go_wp2_with fail
    go_ret2
    exact ⟨by rw [EE.out]; rfl, rfl⟩
  · have hA1 : ¬ ((tl : Int) < 1) := by omega
    by_cases hB : (6 : Int) < (tl : Int)
    · have EE : Hid (Num.numW l = none) := show _ = _ by rw [HE.out, nat_bad (b := false) (Or.inr (Or.inl (by have := HTL.out; omega)))]; rfl
      go_enter Tryd.func25, Tryd.ntmps25
      go_wp2_with fail
      go_ret2
      exact ⟨by rw [EE.out]; rfl, rfl⟩
    · by_cases hC : c = 48
      · subst hC
        have hd0 : ((((48 : UInt8).toNat : Nat) : Int) == 48) = true := by decide
        by_cases hD : (1 : Int) < (tl : Int)
        · have EE : Hid (Num.numW l = none) := show _ = _ by rw [HE.out, nat_bad (b := false) (Or.inr (Or.inr ⟨HHD.out, Or.inl (by have := HTL.out; omega)⟩))]; rfl
          go_enter Tryd.func25, Tryd.ntmps25
          go_wp2_with fail
          go_ret2
          exact ⟨by rw [EE.out]; rfl, rfl⟩
        · have HNB : Hid (¬ badW t false) := by
            rintro (h | h | ⟨_, h | h⟩)
            · have := HTL.out; omega
            · have := HTL.out; omega
            · have := HTL.out; omega
            · cases h
          go_enter Tryd.func25, Tryd.ntmps25
          go_wp2_with fail
          go_loop [6, 7] (fun nv iv => ∃ i n : Nat, i ≤ tl ∧ iv = .int .i64 i ∧ nv = .int .i64 n ∧ Digs t i n) (fun _ iv => tl - (intOf iv).toNat)
          case atStart => exact ⟨0, 0, Nat.zero_le _, rfl, rfl, rfl, by simp⟩
          case round =>
            obtain ⟨i, n, hi, rfl, rfl, hdg⟩ := hrel
            have HDG : Hid (Digs t i n) := hdg
            have hn6 := hdg.small (by have := HTL.out; omega)
            clear hdg
            by_cases hlt : i < tl
            · have hit : i < t.length := by have := HTL.out; omega
              have hgi : ∀ h, T[i]'h = t[i]'hit := fun h => HTG.out i h hit
              have HNX := digs_next HDG.out hit
              have HNN := nat_not (b := false) HNB.out i hit
              have HNX' : Hid (Num.isDig (t[i]'hit) = true → Digs t (i + 1) (10 * n + ((t[i]'hit).toNat - 48))) := HNX
              have HNN' : Hid (Num.isDig (t[i]'hit) = false → Num.natW t false = none) := HNN
              have hul := (t[i]'hit).toNat_lt
              generalize t[i]'hit = x at hgi HNX' HNN' hul
              clear HNX HNN
              have hxl : ((x.toNat : Nat) : Int) < 256 := by omega
              by_cases h1 : ((x.toNat : Nat) : Int) < 48
              · have E := HNN'.out (by unfold Num.isDig; rw [decide_eq_false (by omega)]; rfl)
                have EE : Hid (Num.numW l = none) := show _ = _ by rw [HE.out, E]; rfl
                clear E
                go_wp2_with fail
                go_ret2
                exact ⟨by rw [EE.out]; rfl, rfl⟩
              · by_cases h2 : (57 : Int) < ((x.toNat : Nat) : Int)
                · have E := HNN'.out (by unfold Num.isDig; rw [decide_eq_false (p := x.toNat ≤ 57) (by omega), Bool.and_false])
                  have EE : Hid (Num.numW l = none) := show _ = _ by rw [HE.out, E]; rfl
                  clear E
                  go_wp2_with fail
                  go_ret2
                  exact ⟨by rw [EE.out]; rfl, rfl⟩
                · have R : Hid (Digs t (i + 1) (10 * n + (x.toNat - 48))) := HNX'.out (by unfold Num.isDig; rw [decide_eq_true (p := 48 ≤ x.toNat) (by omega), decide_eq_true (p := x.toNat ≤ 57) (by omega)]; rfl)
                  have hcast : ((10 * n + (x.toNat - 48) : Nat) : Int) = 10 * (n : Int) + ((x.toNat : Int) - 48) := by omega
                  go_wp2_with fail
                  go_round
                  case rel => exact ⟨i + 1, 10 * n + (x.toNat - 48), by omega, by go_num, by rw [hcast], R.out⟩
                  case measure => simp [intOf]; omega
            · have hie : i = tl := by omega
              subst hie
              have EE : Hid (Num.numW l = some ((n : Int))) := show _ = _ by rw [HE.out, nat_yes HNB.out (n := n) (by have := HDG.out; rw [← HTL.out] at this; exact this)]; rfl
              go_wp2_with fail
              go_ret2
              exact ⟨by rw [EE.out]; rfl, rfl⟩
      · have hd0 : (((c.toNat : Nat) : Int) == 48) = false := by
          rw [beq_eq_false_iff_ne]
          intro e
          exact hC (UInt8.toNat_inj.1 (by show c.toNat = 48; omega))
        have HNB : Hid (¬ badW t false) := by
          rintro (h | h | ⟨h, _⟩)
          · have := HTL.out; omega
          · have := HTL.out; omega
          · rw [HHD.out] at h; exact hC (Option.some.inj h)
        go_enter Tryd.func25, Tryd.ntmps25
        go_wp2_with fail
        go_loop [6, 7] (fun nv iv => ∃ i n : Nat, i ≤ tl ∧ iv = .int .i64 i ∧ nv = .int .i64 n ∧ Digs t i n) (fun _ iv => tl - (intOf iv).toNat)
        case atStart => exact ⟨0, 0, Nat.zero_le _, rfl, rfl, rfl, by simp⟩
        case round =>
          obtain ⟨i, n, hi, rfl, rfl, hdg⟩ := hrel
          have HDG : Hid (Digs t i n) := hdg
          have hn6 := hdg.small (by have := HTL.out; omega)
          clear hdg
          by_cases hlt : i < tl
          · have hit : i < t.length := by have := HTL.out; omega
            have hgi : ∀ h, T[i]'h = t[i]'hit := fun h => HTG.out i h hit
            have HNX := digs_next HDG.out hit
            have HNN := nat_not (b := false) HNB.out i hit
            have HNX' : Hid (Num.isDig (t[i]'hit) = true → Digs t (i + 1) (10 * n + ((t[i]'hit).toNat - 48))) := HNX
            have HNN' : Hid (Num.isDig (t[i]'hit) = false → Num.natW t false = none) := HNN
            have hul := (t[i]'hit).toNat_lt
            generalize t[i]'hit = x at hgi HNX' HNN' hul
            clear HNX HNN
            have hxl : ((x.toNat : Nat) : Int) < 256 := by omega
            by_cases h1 : ((x.toNat : Nat) : Int) < 48
            · have E := HNN'.out (by unfold Num.isDig; rw [decide_eq_false (by omega)]; rfl)
              have EE : Hid (Num.numW l = none) := show _ = _ by rw [HE.out, E]; rfl
              clear E
              go_wp2_with fail
              go_ret2
              exact ⟨by rw [EE.out]; rfl, rfl⟩
            · by_cases h2 : (57 : Int) < ((x.toNat : Nat) : Int)
              · have E := HNN'.out (by unfold Num.isDig; rw [decide_eq_false (p := x.toNat ≤ 57) (by omega), Bool.and_false])
                have EE : Hid (Num.numW l = none) := show _ = _ by rw [HE.out, E]; rfl
                clear E
                go_wp2_with fail
                go_ret2
                exact ⟨by rw [EE.out]; rfl, rfl⟩
              · have R : Hid (Digs t (i + 1) (10 * n + (x.toNat - 48))) := HNX'.out (by unfold Num.isDig; rw [decide_eq_true (p := 48 ≤ x.toNat) (by omega), decide_eq_true (p := x.toNat ≤ 57) (by omega)]; rfl)
                have hcast : ((10 * n + (x.toNat - 48) : Nat) : Int) = 10 * (n : Int) + ((x.toNat : Int) - 48) := by omega
                go_wp2_with fail
                go_round
                case rel => exact ⟨i + 1, 10 * n + (x.toNat - 48), by omega, by go_num, by rw [hcast], R.out⟩
                case measure => simp [intOf]; omega
          · have hie : i = tl := by omega
            subst hie
            have EE : Hid (Num.numW l = some ((n : Int))) := show _ = _ by rw [HE.out, nat_yes HNB.out (n := n) (by have := HDG.out; rw [← HTL.out] at this; exact this)]; rfl
            go_wp2_with fail
            go_ret2
            exact ⟨by rw [EE.out]; rfl, rfl⟩

theorem number_any (l : List UInt8) (hl : l.length ≤ 2000000) (w : World) :
    Calls Tryd.prog 25 #[.string (B8 l)] w fun e w' => e = .returned (.tuple #[.int .i64 ((Num.numW l).getD 0), .bool (Num.numW l).isSome]) ∧ w' = w := by
  cases l with
  | nil =>
    have hq : (B8 []).size = 0 := by rw [B8_size]; rfl
    have EE : Hid (Num.numW [] = none) := rfl
    generalize B8 [] = S at hq
    go_enter Tryd.func25, Tryd.ntmps25
    go_wp2_with fail
    go_ret2
    exact ⟨by rw [EE.out]; rfl, rfl⟩
  | cons c r =>
    have hl' : r.length + 1 ≤ 2000000 := hl
    by_cases hc : c = 45
    · subst hc
      exact number_below (45 :: r) r _ _ r.length (by rw [B8_size]; rfl) (by omega) (fun h => get_B8 (45 :: r) 0 h (by simp)) (by have := extract_B8_from (45 :: r) 1; rw [B8_size] at this; exact this) r.length (B8_size r) (by omega) (show r.length = r.length from rfl) (fun i h h' => get_B8 r i h h')
        (show Num.numW (45 :: r) = _ by unfold Num.numW; rw [if_pos (by rfl)]; rfl) w
    · refine number_above (c :: r) (c :: r) _ c (fun h => get_B8 (c :: r) 0 h (by simp)) ?_ (r.length + 1) (by rw [B8_size]; rfl) (by omega) hl' (show (c :: r).length = _ from rfl) (fun i h h' => get_B8 (c :: r) i h h') (show (c :: r).head? = some c from rfl) ?_ w
      · rw [beq_eq_false_iff_ne]
        intro e
        exact hc (UInt8.toNat_inj.1 (by show c.toNat = 45; omega))
      · show Num.numW (c :: r) = _
        unfold Num.numW
        rw [if_neg (by intro e; exact hc (Option.some.inj e))]

end Go.Proofs.YtipcbhodlgoflabDoor
