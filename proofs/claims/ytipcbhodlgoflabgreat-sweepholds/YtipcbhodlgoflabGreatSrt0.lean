/- What slices.Clone and slices.Sort do with a short slice of ints. -/
import Derived.Test.YtipcbhodlgoflabGreatCornW
namespace Go.Proofs.YtipcbhodlgoflabGreat
open Go.RowKit

/-- A slice of ints of the call's own, which are those of l. -/
def OwnI (w : World) (base g n c : Nat) (l : List Int) : Prop := w.ownsRow base 3 1 (.slice (some ⟨g, 0, none⟩) n c) n (l.map (Value.int .i64))

theorem OwnI.len {w : World} {base g n c : Nat} {l : List Int} (h : OwnI w base g n c l) : l.length = n := by simpa using h.1

theorem OwnI.cell {w : World} {base g n c : Nat} {l : List Int} (h : OwnI w base g n c l) (k : Nat) (hk : k < n) : w.cell? ⟨g, k, none⟩ = some (.int .i64 (l[k]?.getD 0)) ∧ w.frozen? ⟨g, k, none⟩ = false := by
  refine ⟨?_, World.ownsRow.frozenAt h k⟩
  have := World.ownsRow.cellAt h k (by omega)
  rw [this, List.getElem?_map, List.getElem?_eq_getElem (by have := h.len; omega)]
  simp

theorem OwnI.store {w : World} {base g n c : Nat} {l : List Int} (h : OwnI w base g n c l) (k : Nat) (v : Int) : OwnI (w.setCell ⟨g, k, none⟩ (.int .i64 v)) base g n c (l.set k v) := by
  unfold OwnI
  rw [List.map_set]
  exact (World.ownsRow.stored h k (.int .i64 v)).1

theorem OwnI.lt {w : World} {base g n c : Nat} {l : List Int} (h : OwnI w base g n c l) : base ≤ g ∧ g < w.heap.size := World.ownsRow.lt h g rfl

theorem OwnI.drew {w : World} {base g n c : Nat} {l : List Int} (h : OwnI w base g n c l) : OwnI w.drew base g n c l := h

theorem OwnI.drewN {w : World} {base g n c : Nat} {l : List Int} (h : OwnI w base g n c l) (q : Nat) : OwnI (w.drewN q) base g n c l := by
  have hb : Below (g + 1) w (w.drewN q) := below_drewN (Below.refl _ _) q
  exact own_below h hb (by omega)

theorem OwnI.ints {w : World} {base g n c : Nat} {l : List Int} (h : OwnI w base g n c l) : Ints w (some ⟨g, 0, none⟩) n l :=
  ⟨h.len.symm, Or.inr ⟨g, 0, rfl, h.lt.2, fun j hj => by rw [Nat.zero_add]; exact (h.cell j hj).1⟩⟩

namespace Num

/-- The first k numbers do not fall. -/
def UpTo (r : List Int) (k : Nat) : Prop := ∀ a b, a < b → b < k → r[a]?.getD 0 ≤ r[b]?.getD 0

/-- The first k + 1 numbers do not fall, but for the one at j, which may be too great a place from its own. -/
def Sink (r : List Int) (k j : Nat) : Prop := ∀ a b, a < b → b ≤ k → b ≠ j → r[a]?.getD 0 ≤ r[b]?.getD 0

theorem Sink.of (r : List Int) (k : Nat) (h : UpTo r k) : Sink r k k := fun a b hab hb hne => h a b hab (by omega)

theorem Sink.zero (r : List Int) (k : Nat) (h : Sink r k 0) : UpTo r (k + 1) := fun a b hab hb => h a b hab (by omega) (by omega)

theorem Sink.stop (r : List Int) (k q : Nat) (hq : q + 1 ≤ k) (h : Sink r k (q + 1)) (hn : ¬ r[q + 1]?.getD 0 < r[q]?.getD 0) : UpTo r (k + 1) := by
  intro a b hab hb
  by_cases hbq : b = q + 1
  · subst hbq
    by_cases haq : a = q
    · subst haq; omega
    · have := h a q (by omega) (by omega) (by omega); omega
  · exact h a b hab (by omega) hbq

def swap2 (r : List Int) (q : Nat) : List Int := (r.set (q + 1) (r[q]?.getD 0)).set q (r[q + 1]?.getD 0)

theorem swap2_at (r : List Int) (q i : Nat) (h : q + 1 < r.length) : (swap2 r q)[i]?.getD 0 = if i = q then r[q + 1]?.getD 0 else if i = q + 1 then r[q]?.getD 0 else r[i]?.getD 0 := by
  unfold swap2
  rw [List.getElem?_set]
  by_cases h1 : i = q
  · subst h1
    rw [if_pos rfl, if_pos rfl, if_pos (by rw [List.length_set]; omega)]; rfl
  · rw [if_neg (fun e => h1 e.symm), if_neg h1, List.getElem?_set]
    by_cases h2 : i = q + 1
    · subst h2; rw [if_pos rfl, if_pos rfl, if_pos h]; rfl
    · rw [if_neg (fun e => h2 e.symm), if_neg h2]

theorem Sink.step (r : List Int) (k q : Nat) (hq : q + 1 ≤ k) (hl : q + 1 < r.length) (h : Sink r k (q + 1)) (hlt : r[q + 1]?.getD 0 < r[q]?.getD 0) : Sink (swap2 r q) k q := by
  intro a b hab hb hne
  rw [swap2_at r q a hl, swap2_at r q b hl, if_neg hne]
  by_cases hb1 : b = q + 1
  · subst hb1
    rw [if_pos rfl]
    by_cases ha : a = q
    · subst ha; rw [if_pos rfl]; omega
    · rw [if_neg ha, if_neg (by omega)]; exact h a q (by omega) (by omega) (by omega)
  · rw [if_neg hb1]
    by_cases ha : a = q
    · subst ha; rw [if_pos rfl]; exact h (a + 1) b (by omega) hb hb1
    · rw [if_neg ha]
      by_cases ha1 : a = q + 1
      · subst ha1; rw [if_pos rfl]; exact h q b (by omega) hb hb1
      · rw [if_neg ha1]; exact h a b hab hb hb1

theorem swap2_perm : ∀ (r : List Int) (q : Nat), q + 1 < r.length → (swap2 r q).Perm r
  | [], q, h => by simp at h
  | [x], q, h => by simp at h
  | x :: y :: t, 0, _ => by
    show (y :: x :: t).Perm (x :: y :: t)
    exact List.Perm.swap x y t
  | x :: y :: t, q + 1, h => by
    have ih := swap2_perm (y :: t) q (by simpa using h)
    show (x :: swap2 (y :: t) q).Perm (x :: y :: t)
    exact List.Perm.cons x ih

theorem UpTo.pair (r : List Int) (h : UpTo r r.length) : r.Pairwise (· ≤ ·) := by
  rw [List.pairwise_iff_getElem]
  intro i j hi hj hij
  have := h i j hij hj
  rw [List.getElem?_eq_getElem hi, List.getElem?_eq_getElem hj] at this
  exact this

end Num

set_option maxHeartbeats 400000 in
theorem cmpLess_any (a b : Int) (w : World) : Calls Tryz.prog 110 #[.int .i64 a, .int .i64 b] w fun e w' => e = .returned (.bool (decide (a < b))) ∧ w' = w := by
  go_enter Tryz.func110, Tryz.ntmps110
  go_wp2
  go_ret
  exact ⟨rfl, rfl⟩

set_option maxHeartbeats 1600000 in
theorem insertion_any (base g n c : Nat) (l : List Int) (w : World) (h : OwnI w base g n c l) (h1 : 1 ≤ n) (h12 : n ≤ 12) :
    Calls Tryz.prog 104 #[.slice (some ⟨g, 0, none⟩) n c, .int .i64 0, .int .i64 n] w fun e w' => e = .returned (.tuple #[]) ∧ ∃ r, OwnI w' base g n c r ∧ r.Perm l ∧ r.Pairwise (· ≤ ·) ∧ Below g w w' := by
  have HO : Hid (OwnI w base g n c l) := h
  clear h
  go_enter Tryz.func104, Tryz.ntmps104
  go_wp2_with fail
  go_loopw [6] (fun i wr => ∃ k : Nat, 1 ≤ k ∧ k ≤ n ∧ i = .int .i64 k ∧ ∃ r, OwnI wr base g n c r ∧ r.Perm l ∧ Num.UpTo r k ∧ Below g w wr) (fun i _ => n - (intOf i).toNat)
  case atStart => exact ⟨1, Nat.le_refl _, h1, rfl, l, HO.out, List.Perm.refl _, fun a b hab hb => by omega, Below.refl _ _⟩
  case round =>
    obtain ⟨k, hk1, hk, rfl, r, hO, hP, hU, hB⟩ := hrel
    have HO1 : Hid (OwnI wr base g n c r) := hO
    have HP : Hid (r.Perm l) := hP
    have HU : Hid (Num.UpTo r k) := hU
    have HB : Hid (Below g w wr) := hB
    clear hO hP hU hB HO
    by_cases hlt : k < n
    · go_wp2_with fail
      go_loopw [7] (fun j wr => ∃ jj : Nat, jj ≤ k ∧ j = .int .i64 jj ∧ ∃ r, OwnI wr base g n c r ∧ r.Perm l ∧ Num.Sink r k jj ∧ Below g w wr) (fun j _ => (intOf j).toNat)
      case atStart => exact ⟨k, Nat.le_refl _, rfl, r, HO1.out, HP.out, Num.Sink.of r k HU.out, HB.out⟩
      case round =>
        obtain ⟨jj, hjk, rfl, r2, hO2, hP2, hS2, hB2⟩ := hrel
        clear HO1 HP HU HB
        have HO2 : Hid (OwnI wr base g n c r2) := hO2
        have HP2 : Hid (r2.Perm l) := hP2
        have HS2 : Hid (Num.Sink r2 k jj) := hS2
        have HB2 : Hid (Below g w wr) := hB2
        clear hO2 hP2 hS2 hB2
        by_cases hj0 : jj = 0
        · subst hj0
          have qd : decide ((0 : Int) < ((0 : Nat) : Int)) = false := by decide
          go_wp2_with fail
          go_quiet (fail)
          go_wp2_with fail
          go_roundw
          case rel => exact ⟨k + 1, by omega, hlt, by go_num, r2, OwnI.drewN HO2.out _, HP2.out, Num.Sink.zero r2 k HS2.out, bdrewN HB2.out _⟩
          case measure => simp [intOf]; omega
        · obtain ⟨q, hq⟩ : ∃ q, jj = q + 1 := ⟨jj - 1, by omega⟩
          have hqn : q < n := by omega
          have hjn : jj < n := by omega
          obtain ⟨a0, a1⟩ := OwnI.cell HO2.out jj hjn
          obtain ⟨b0, b1⟩ := OwnI.cell HO2.out q hqn
          have hg := (OwnI.lt HO2.out).2
          have hl2 := OwnI.len HO2.out
          have HST : Hid (r2[jj]?.getD 0 < r2[q]?.getD 0 → Num.Sink (Num.swap2 r2 q) k q) := by subst hq; exact Num.Sink.step r2 k q hjk (by omega) HS2.out
          have HSP : Hid (¬ r2[jj]?.getD 0 < r2[q]?.getD 0 → Num.UpTo r2 (k + 1)) := by subst hq; exact Num.Sink.stop r2 k q hjk HS2.out
          have HPM : Hid ((Num.swap2 r2 q).Perm l) := List.Perm.trans (Num.swap2_perm r2 q (by omega)) HP2.out
          have HSW : Hid (Num.swap2 r2 q = (r2.set jj (r2[q]?.getD 0)).set q (r2[jj]?.getD 0)) := by subst hq; rfl
          generalize r2[jj]?.getD 0 = x at *
          generalize r2[q]?.getD 0 = y at *
          have qd : decide ((0 : Int) < (jj : Int)) = true := decide_eq_true (by omega)
          have qn : decide (0 < jj) = true := decide_eq_true (by omega)
          have hne : jj ≠ q := by omega
          have hne2 : q ≠ jj := by omega
          have u3 : (0 : Int) ≤ (q : Int) := by omega
          have u4 : (q : Int) < (n : Int) := by omega
          have u5 : (jj : Int) < (n : Int) := by omega
          have u1 : wrap64 ((jj : Int) - 1) = (q : Int) := by rw [IntWalk.wrap64_in _ (by omega)]; omega
          have u2 : IntKind.i64.wrap ((jj : Int) - 1) = (q : Int) := by rw [IntWalk.i64_left]; exact u1
          have HQ : Hid _ := hq
          clear hq hl2
          by_cases hxy : x < y
          · have q5 : decide (x < y) = true := decide_eq_true hxy
            go_wp2_with fail
            go_quiet ((go_at_call 110; exact Calls.quiet_of_same (cmpLess_any _ _ _)))
            go_wp2_with fail
            go_region
            all_goals go_wp2_with fail
            all_goals go_roundw
            all_goals first
              | exact ⟨q, by have := HQ.out; omega, rfl, Num.swap2 r2 q, by rw [HSW.out]; exact OwnI.store (OwnI.store (OwnI.drewN HO2.out _) jj y) q x, HPM.out, HST.out hxy, bset (bset (bdrewN HB2.out _) (Nat.le_refl _) _) (Nat.le_refl _) _⟩
              | (simp [intOf]; have := HQ.out; omega)
          · have q5 : decide (x < y) = false := decide_eq_false hxy
            go_wp2_with fail
            go_quiet ((go_at_call 110; exact Calls.quiet_of_same (cmpLess_any _ _ _)))
            go_wp2_with fail
            go_roundw
            case rel => exact ⟨k + 1, by omega, hlt, by go_num, r2, OwnI.drewN HO2.out _, HP2.out, HSP.out hxy, bdrewN HB2.out _⟩
            case measure => simp [intOf]; omega
    · have hke : k = n := by omega
      subst hke
      go_wp2_with fail
      go_end0
      exact ⟨rfl, r, HO1.out, HP.out, Num.UpTo.pair r (by rw [OwnI.len HO1.out]; exact HU.out), HB.out⟩

set_option maxHeartbeats 800000 in
theorem pdq_any (base g n c : Nat) (l : List Int) (w : World) (h : OwnI w base g n c l) (h1 : 1 ≤ n) (h12 : n ≤ 12) (x : Int) :
    Calls Tryz.prog 103 #[.slice (some ⟨g, 0, none⟩) n c, .int .i64 0, .int .i64 n, .int .i64 x] w fun e w' => e = .returned (.tuple #[]) ∧ ∃ r, OwnI w' base g n c r ∧ r.Perm l ∧ r.Pairwise (· ≤ ·) ∧ Below g w w' := by
  have HO : Hid (OwnI w base g n c l) := h
  clear h
  have q1 : decide ((n : Int) ≤ 12) = true := decide_eq_true (by omega)
  go_enter Tryz.func103, Tryz.ntmps103
  go_wp2_with fail
  go_loopw [1, 2] (fun a b wr => a = .int .i64 0 ∧ b = .int .i64 n ∧ wr = w) (fun _ _ _ => 0)
  case atStart => exact ⟨rfl, rfl, rfl⟩
  case round =>
    obtain ⟨rfl, rfl, rfl⟩ := hrel
    go_wp2_with fail
    refine (insertion_any base g n c l _ HO.out h1 h12).mono ?_
    rintro e w1 ⟨rfl, r, hr⟩
    have HR : Hid _ := hr
    clear hr
    go_wp2_with fail
    (try simp only [Exit.inBlock, Exit.then])
    refine bodyPost_ret (results_none rfl _ _ _) rfl ?_
    exact ⟨rfl, r, HR.out⟩

set_option maxRecDepth 100000 in
set_option maxHeartbeats 800000 in
theorem len1_any (w : World) : Calls Tryz.prog 43 #[.int .u64 1] w fun e w' => ∃ x, e = .returned (.int .i64 x) ∧ w' = w := by
  go_enter Tryz.func43, Tryz.ntmps43
  go_wp2
  go_ret
  exact ⟨_, rfl, rfl⟩

set_option maxRecDepth 100000 in
set_option maxHeartbeats 800000 in
theorem len2_any (w : World) : Calls Tryz.prog 43 #[.int .u64 2] w fun e w' => ∃ x, e = .returned (.int .i64 x) ∧ w' = w := by
  go_enter Tryz.func43, Tryz.ntmps43
  go_wp2
  go_ret
  exact ⟨_, rfl, rfl⟩

set_option maxRecDepth 100000 in
set_option maxHeartbeats 800000 in
theorem len3_any (w : World) : Calls Tryz.prog 43 #[.int .u64 3] w fun e w' => ∃ x, e = .returned (.int .i64 x) ∧ w' = w := by
  go_enter Tryz.func43, Tryz.ntmps43
  go_wp2
  go_ret
  exact ⟨_, rfl, rfl⟩

set_option maxRecDepth 100000 in
set_option maxHeartbeats 800000 in
theorem len4_any (w : World) : Calls Tryz.prog 43 #[.int .u64 4] w fun e w' => ∃ x, e = .returned (.int .i64 x) ∧ w' = w := by
  go_enter Tryz.func43, Tryz.ntmps43
  go_wp2
  go_ret
  exact ⟨_, rfl, rfl⟩

theorem bitsLen_any (n : Nat) (h1 : 1 ≤ n) (h4 : n ≤ 4) (w : World) : Calls Tryz.prog 43 #[.int .u64 n] w fun e w' => ∃ x, e = .returned (.int .i64 x) ∧ w' = w := by
  match n, h1, h4 with
  | 1, _, _ => exact len1_any w
  | 2, _, _ => exact len2_any w
  | 3, _, _ => exact len3_any w
  | 4, _, _ => exact len4_any w

set_option maxHeartbeats 800000 in
theorem sort_any (base g n c : Nat) (l : List Int) (w : World) (h : OwnI w base g n c l) (h1 : 1 ≤ n) (h4 : n ≤ 4) :
    Calls Tryz.prog 101 #[.slice (some ⟨g, 0, none⟩) n c] w fun e w' => e = .returned (.tuple #[]) ∧ ∃ r, OwnI w' base g n c r ∧ r.Perm l ∧ r.Pairwise (· ≤ ·) ∧ Below g w w' := by
  have HO : Hid (OwnI w base g n c l) := h
  clear h
  go_enter Tryz.func101, Tryz.ntmps101
  go_wp2_with (first | (go_at_call 43; refine (bitsLen_any n h1 h4 _).mono ?_; rintro e w1 ⟨x, rfl, rfl⟩) | (go_at_call 103; refine (pdq_any base g n c l _ HO.out h1 (by omega) _).mono ?_; rintro e w2 ⟨rfl, r, hr⟩; have HR : Hid _ := hr; clear hr))
  go_end0
  exact ⟨rfl, r, HR.out⟩

theorem Tryz.infoInt : (Tryz.prog.info? 3).map (fun i => (i.zero, i.size, i.bytes)) = some (some (.int .i64 0), 1, 8) := by kernel_rfl

theorem one_ints (l : List Int) : ∀ u ∈ l.map (Value.int .i64), u.oneCell' = true := by
  intro u hu
  obtain ⟨x, _, rfl⟩ := List.mem_map.1 hu
  rfl

set_option maxHeartbeats 400000 in
theorem cloneI_any (a : Option Addr) (n cap : Nat) (l : List Int) (w : World) (hi : Ints w a n l) (h1 : 1 ≤ n) (h4 : n ≤ 4) :
    Calls Tryz.prog 55 #[.slice a n cap] w fun e w' => ∃ g c, e = .returned (.slice (some ⟨g, 0, none⟩) n c) ∧ w.heap.size ≤ g ∧ n ≤ c ∧ OwnI w' w.heap.size g n c l ∧ Below w.heap.size w w' := by
  rcases hi.2 with h0 | ⟨b, off, ha, hb, hc⟩
  · omega
  subst ha
  have HV : Hid ((l.map (Value.int .i64)).length = n) := by rw [List.length_map]; exact hi.1.symm
  have HC : Hid (∀ j, j < n → w.cell? ⟨b, off + j, none⟩ = (l.map (Value.int .i64))[j]?) := by
    intro j hj
    rw [hc j hj, List.getElem?_map, List.getElem?_eq_getElem (by have := hi.1; omega)]; rfl
  have HN : Hid (n = l.length) := hi.1
  clear hi hc
  obtain ⟨i0, hif, hz0, hz1, hz2⟩ := info_parts Tryz.infoInt
  go_enter Tryz.func55, Tryz.ntmps55
  have qn : ∀ (w : World) (a : Option Addr) (n c n' c' : Nat), (binOp .eql 58 (.slice a n c) (.slice none n' c')).run Tryz.prog w = .ok (.bool a.isNone) w := fun w a n c n' c' => Lib.run_eql_slice_nil w _ _ a n c n' c' Tryz.underlying58
  go_wp2_with (at_builtin; refine wpList_append_own _ rfl (.tmp 5) (.tmp 6) 58 rfl w.heap.size 3 i0 (.int .i64 0) 1 8 Tryz.underlying58 hif hz0 hz1 hz2 rfl (by decide) _ 0 [] rfl ?o1 ⟨b, off, none⟩ n cap (l.map (Value.int .i64)) rfl ?o2 ?o3 ?o4 ?o5 ?o6 ?o7 ?_)
  case o1 => exact World.ownsRow_made w #[] 0 (Nat.le_refl _) (Nat.zero_le _) rfl
  case o2 => rw [HV.out, Nat.mul_one]
  case o3 => exact news_at (balloc _ _) hb HV.out HC.out
  case o4 => exact one_ints l
  case o5 => unfold maxLen; omega
  case o6 => omega
  case o7 => simp
  intro v' w1 hown hgrow _
  obtain ⟨g, c, hv, hg, hn⟩ := own_some hown h1
  subst hv
  have HO : Hid _ := hown
  have hB : Below w.heap.size w w1 := Below.grown (balloc _ _) hgrow (by simp) (fun j hj => by simp [Value.ownBlock] at hj; omega)
  clear hown hgrow
  go_wp2_with fail
  go_ret
  exact ⟨g, c, rfl, hg, hn, HO.out, hB⟩

end Go.Proofs.YtipcbhodlgoflabGreat
