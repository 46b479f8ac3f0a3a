/- What the document's Swap does. -/
import Derived.Test.YtjlkegchkngliaaWalkQ
import Derived.Test.YtjlkegchkngliaaLinesO
namespace Go.Proofs.Ytjlkegchkngliaa
open Go.RowKit

/-- A row of ints of the call's own. -/
def RowI (w : World) (base : Nat) (v : Value) (l : List Int) : Prop := w.ownsRow base 3 1 v l.length (l.map (Value.int .i64))

theorem RowI.kept {w w' : World} {base : Nat} {v : Value} {l : List Int} (h : RowI w base v l) (hb : Below w.heap.size w w') : RowI w' base v l :=
  World.ownsRow.kept (row := none) h ⟨hb.os, hb.tape, hb.output, hb.size, fun k hk _ => hb.block k hk⟩ (by cases v.ownBlock <;> simp)

theorem RowI.nil (w : World) (base : Nat) : RowI w base (.slice none 0 0) [] := World.ownsRow_nil _ _ _ _

theorem RowI.push {w : World} {base : Nat} {v : Value} {l : List Int} {x : Int} (h : w.ownsRow base 3 1 v (l.length + 1) (l.map (Value.int .i64) ++ [.int .i64 x])) : RowI w base v (l ++ [x]) := by
  unfold RowI
  rw [List.length_append, List.length_singleton, List.map_append]
  exact h

theorem RowI.ints {w : World} {base : Nat} {v : Value} {l : List Int} (h : RowI w base v l) : ∃ a c, v = .slice a l.length c ∧ l.length ≤ c ∧ Ints w a l.length l ∧ (l.length = 0 ∨ ∃ g, a = some ⟨g, 0, none⟩ ∧ base ≤ g) := by
  have h' := h
  rcases h.2 with ⟨hv, h0⟩ | ⟨g, cap, cur, hv, hb, _, hc, _⟩
  · exact ⟨none, 0, by rw [h0]; exact hv, by omega, ⟨rfl, Or.inl h0⟩, Or.inl h0⟩
  · subst hv
    refine ⟨_, cap, rfl, hc, Ints.ofOwn h' rfl fun j hj => ?_, Or.inr ⟨g, rfl, hb⟩⟩
    rw [List.getElem?_map, List.getElem?_eq_getElem hj]
    simp

theorem Num.swapGo_len (at' : List Int) (out s : Int) : ∀ k, (Num.swapGo at' out s k).1.length ≤ 2 * k := by
  intro k
  induction k with
  | zero => simp [Num.swapGo]
  | succ k ih =>
    unfold Num.swapGo
    dsimp only
    split <;> split <;> (try simp only [List.length_append, List.length_singleton]) <;> omega

theorem Num.swapGo_succ (at' : List Int) (out s : Int) (k : Nat) : Num.swapGo at' out s (k + 1) = (if at'[k]?.getD 0 = out then (if s < at'[k]?.getD 0 ∧ (Num.swapGo at' out s k).2 = false then (Num.swapGo at' out s k).1 ++ [s] else (Num.swapGo at' out s k).1) else (if s < at'[k]?.getD 0 ∧ (Num.swapGo at' out s k).2 = false then (Num.swapGo at' out s k).1 ++ [s] else (Num.swapGo at' out s k).1) ++ [at'[k]?.getD 0],
      (Num.swapGo at' out s k).2 || decide (s < at'[k]?.getD 0)) := rfl

set_option maxRecDepth 8000 in
set_option maxHeartbeats 3200000 in
theorem swap_any (aa : Option Addr) (al ac : Nat) (at' : List Int) (w : World) (ha : Ints w aa al at') (h4 : al ≤ 4) (out s : Int) :
    Calls Try.prog 96 #[.slice aa al ac, .int .i64 out, .int .i64 s] w fun e w' => ∃ ra rc, e = .returned (.slice ra (Num.swapN at' out s al).length rc) ∧ (Num.swapN at' out s al).length ≤ rc ∧ Ints w' ra (Num.swapN at' out s al).length (Num.swapN at' out s al) ∧ ((Num.swapN at' out s al).length = 0 ∨ ∃ g, ra = some ⟨g, 0, none⟩ ∧ w.heap.size ≤ g) ∧ Below w.heap.size w w' := by
  have HA : Hid (Ints w aa al at') := ha
  clear ha
  have HNW : Hid (Num.swapN at' out s al = if (Num.swapGo at' out s al).2 = true then (Num.swapGo at' out s al).1 else (Num.swapGo at' out s al).1 ++ [s]) := rfl
  generalize Num.swapN at' out s al = NW at *
  obtain ⟨i0, hif, hz0, hz1, hz2⟩ := info_parts Try.infoInt
  go_enter Try.func96, Try.ntmps96
  go_wp2_with fail
  go_loopw [7, 8, 9] (fun v d i wr => ∃ k : Nat, k ≤ al ∧ i = .int .i64 k ∧ d = .bool (Num.swapGo at' out s k).2 ∧ RowI wr w.heap.size v (Num.swapGo at' out s k).1 ∧ Below w.heap.size w wr) (fun _ _ i _ => al - (intOf i).toNat)
  case atStart => exact ⟨0, Nat.zero_le _, rfl, rfl, RowI.nil _ _, Below.refl _ _⟩
  case round =>
    obtain ⟨k, hk, rfl, rfl, hR, hB⟩ := hrel
    by_cases hlt : k < al
    · rcases HA.out.2 with h | ⟨b, off, ha, hbs, hc⟩
      · omega
      have c0 := hc k hlt
      clear hc
      have hlen := Num.swapGo_len at' out s k
      have HE : Hid _ := Num.swapGo_succ at' out s k
      have HR : Hid (RowI wr w.heap.size _ (Num.swapGo at' out s k).1) := hR
      obtain ⟨va, vc, hv, _⟩ := hR.ints
      have hwz : w.heap.size ≤ wr.heap.size := hB.size
      clear hR
      generalize hx : at'[k]?.getD 0 = x at *
      generalize hgo : Num.swapGo at' out s k = GO at *
      obtain ⟨gl, gd⟩ := GO
      dsimp only at *
      clear hx hgo
      subst ha
      have HCK : Hid (∀ w', Below w.heap.size w w' → w'.cell? ⟨b, off + k, none⟩ = some (.int .i64 x)) := fun w' h => by rw [(bcell h).1 b _ hbs]; exact c0
      have ck := HCK.out wr hB
      clear c0
      by_cases hsx : s < x
      · have q1 : decide (s < x) = true := decide_eq_true hsx
        cases gd with
        | false =>
          subst hv
          have HR0 : Hid (RowI (wr.alloc (.cells #[.int .i64 s] 3)) w.heap.size _ (gl)) := RowI.kept HR.out (balloc _ _)
          go_wp2_with (at_builtin; refine wpList_append_own _ rfl (.tmp 26) (.tmp 28) 45 rfl w.heap.size 3 i0 (.int .i64 0) 1 8 Try.underlying45 hif hz0 hz1 hz2 rfl (by decide) _ (gl).length ((gl).map (Value.int .i64)) rfl HR0.out ⟨wr.heap.size, 0, none⟩ 1 1 [.int .i64 s] rfl rfl ?o3a ?o4a ?o5a ?o6a ?o7a ?_)
          try (case o3a => first | exact news_one rfl _ _ | exact news_one' rfl _ _)
          try (case o4a => first | rfl | (intro u hu; simp at hu; subst hu; rfl))
          try (case o5a => unfold maxLen; (try simp only [List.length_append, List.length_singleton]); omega)
          try (case o6a => (try simp only [List.length_append, List.length_singleton]); omega)
          try (case o7a => first | omega | (simp; done) | (simp; omega))
          intro v1 w1 ho hg _
          have HR1 : Hid (RowI w1 w.heap.size v1 (gl ++ [s])) := RowI.push (by simpa using ho)
          have hB1 : Below w.heap.size w w1 := Below.grown (hB.trans ((balloc _ _).mono hwz)) hg (by simp; omega) (fun j hj => (own_lt HR0.out j (by simpa using hj)).1)
          have hwz1 : w.heap.size ≤ w1.heap.size := hB1.size
          clear ho hg HR0
          have ck1 := HCK.out w1 hB1
          obtain ⟨ta, tc, rfl, _⟩ := HR1.out.ints
          clear ck
          by_cases hxo : x = out
          · have q2 : (x == out) = true := beq_iff_eq.2 hxo
            have HXO : Hid (x = out) := hxo
            clear hxo
            go_wp2_with fail
            go_roundw
            case rel => exact ⟨k + 1, hlt, by go_num, by rw [HE.out]; simp [q1], by rw [HE.out, if_pos HXO.out, if_pos ⟨hsx, by first | rfl | trivial⟩]; exact HR1.out, hB1⟩
            case measure => simp [intOf]; omega
          · have q2 : (x == out) = false := beq_eq_false_iff_ne.2 hxo
            have HXO : Hid (¬ x = out) := hxo
            clear hxo
            have HR0 : Hid (RowI (w1.alloc (.cells #[.int .i64 x] 3)) w.heap.size _ (gl ++ [s])) := RowI.kept HR1.out (balloc _ _)
            go_wp2_with (at_builtin; refine wpList_append_own _ rfl (.tmp 36) (.tmp 41) 45 rfl w.heap.size 3 i0 (.int .i64 0) 1 8 Try.underlying45 hif hz0 hz1 hz2 rfl (by decide) _ (gl ++ [s]).length ((gl ++ [s]).map (Value.int .i64)) rfl HR0.out ⟨w1.heap.size, 0, none⟩ 1 1 [.int .i64 x] rfl rfl ?o3b ?o4b ?o5b ?o6b ?o7b ?_)
            try (case o3b => first | exact news_one rfl _ _ | exact news_one' rfl _ _)
            try (case o4b => first | rfl | (intro u hu; simp at hu; subst hu; rfl))
            try (case o5b => unfold maxLen; (try simp only [List.length_append, List.length_singleton]); omega)
            try (case o6b => (try simp only [List.length_append, List.length_singleton]); omega)
            try (case o7b => first | omega | (simp; done) | (simp; omega))
            intro v2 w2 ho hg _
            have HR2 : Hid (RowI w2 w.heap.size v2 (gl ++ [s] ++ [x])) := RowI.push (by simpa using ho)
            have hB2 : Below w.heap.size w w2 := Below.grown (hB1.trans ((balloc _ _).mono hwz1)) hg (by simp; omega) (fun j hj => (own_lt HR0.out j (by simpa using hj)).1)
            have hwz2 : w.heap.size ≤ w2.heap.size := hB2.size
            clear ho hg HR0
            obtain ⟨ua, uc, rfl, _⟩ := HR2.out.ints
            go_wp2_with fail
            go_roundw
            case rel => exact ⟨k + 1, hlt, by go_num, by rw [HE.out]; simp [q1], by rw [HE.out, if_neg HXO.out, if_pos ⟨hsx, by first | rfl | trivial⟩]; exact HR2.out, hB2⟩
            case measure => simp [intOf]; omega
        | true =>
          subst hv
          by_cases hxo : x = out
          · have q2 : (x == out) = true := beq_iff_eq.2 hxo
            have HXO : Hid (x = out) := hxo
            clear hxo
            go_wp2_with fail
            go_roundw
            case rel => exact ⟨k + 1, hlt, by go_num, by rw [HE.out]; simp, by rw [HE.out, if_pos HXO.out, if_neg (by simp)]; exact HR.out, hB⟩
            case measure => simp [intOf]; omega
          · have q2 : (x == out) = false := beq_eq_false_iff_ne.2 hxo
            have HXO : Hid (¬ x = out) := hxo
            clear hxo
            have HR0 : Hid (RowI (wr.alloc (.cells #[.int .i64 x] 3)) w.heap.size _ (gl)) := RowI.kept HR.out (balloc _ _)
            go_wp2_with (at_builtin; refine wpList_append_own _ rfl (.tmp 36) (.tmp 41) 45 rfl w.heap.size 3 i0 (.int .i64 0) 1 8 Try.underlying45 hif hz0 hz1 hz2 rfl (by decide) _ (gl).length ((gl).map (Value.int .i64)) rfl HR0.out ⟨wr.heap.size, 0, none⟩ 1 1 [.int .i64 x] rfl rfl ?o3c ?o4c ?o5c ?o6c ?o7c ?_)
            try (case o3c => first | exact news_one rfl _ _ | exact news_one' rfl _ _)
            try (case o4c => first | rfl | (intro u hu; simp at hu; subst hu; rfl))
            try (case o5c => unfold maxLen; (try simp only [List.length_append, List.length_singleton]); omega)
            try (case o6c => (try simp only [List.length_append, List.length_singleton]); omega)
            try (case o7c => first | omega | (simp; done) | (simp; omega))
            intro v2 w2 ho hg _
            have HR2 : Hid (RowI w2 w.heap.size v2 (gl ++ [x])) := RowI.push (by simpa using ho)
            have hB2 : Below w.heap.size w w2 := Below.grown (hB.trans ((balloc _ _).mono hwz)) hg (by simp; omega) (fun j hj => (own_lt HR0.out j (by simpa using hj)).1)
            have hwz2 : w.heap.size ≤ w2.heap.size := hB2.size
            clear ho hg HR0
            obtain ⟨ua, uc, rfl, _⟩ := HR2.out.ints
            go_wp2_with fail
            go_roundw
            case rel => exact ⟨k + 1, hlt, by go_num, by rw [HE.out]; simp, by rw [HE.out, if_neg HXO.out, if_neg (by simp)]; exact HR2.out, hB2⟩
            case measure => simp [intOf]; omega
      · have q1 : decide (s < x) = false := decide_eq_false hsx
        subst hv
        by_cases hxo : x = out
        · have q2 : (x == out) = true := beq_iff_eq.2 hxo
          have HXO : Hid (x = out) := hxo
          clear hxo
          go_wp2_with fail
          go_roundw
          case rel => exact ⟨k + 1, hlt, by go_num, by rw [HE.out]; simp [q1], by rw [HE.out, if_pos HXO.out, if_neg (fun h => by have := h.1; omega)]; exact HR.out, hB⟩
          case measure => simp [intOf]; omega
        · have q2 : (x == out) = false := beq_eq_false_iff_ne.2 hxo
          have HXO : Hid (¬ x = out) := hxo
          clear hxo
          have HR0 : Hid (RowI (wr.alloc (.cells #[.int .i64 x] 3)) w.heap.size _ (gl)) := RowI.kept HR.out (balloc _ _)
          go_wp2_with (at_builtin; refine wpList_append_own _ rfl (.tmp 36) (.tmp 41) 45 rfl w.heap.size 3 i0 (.int .i64 0) 1 8 Try.underlying45 hif hz0 hz1 hz2 rfl (by decide) _ (gl).length ((gl).map (Value.int .i64)) rfl HR0.out ⟨wr.heap.size, 0, none⟩ 1 1 [.int .i64 x] rfl rfl ?o3d ?o4d ?o5d ?o6d ?o7d ?_)
          try (case o3d => first | exact news_one rfl _ _ | exact news_one' rfl _ _)
          try (case o4d => first | rfl | (intro u hu; simp at hu; subst hu; rfl))
          try (case o5d => unfold maxLen; (try simp only [List.length_append, List.length_singleton]); omega)
          try (case o6d => (try simp only [List.length_append, List.length_singleton]); omega)
          try (case o7d => first | omega | (simp; done) | (simp; omega))
          intro v2 w2 ho hg _
          have HR2 : Hid (RowI w2 w.heap.size v2 (gl ++ [x])) := RowI.push (by simpa using ho)
          have hB2 : Below w.heap.size w w2 := Below.grown (hB.trans ((balloc _ _).mono hwz)) hg (by simp; omega) (fun j hj => (own_lt HR0.out j (by simpa using hj)).1)
          have hwz2 : w.heap.size ≤ w2.heap.size := hB2.size
          clear ho hg HR0
          obtain ⟨ua, uc, rfl, _⟩ := HR2.out.ints
          go_wp2_with fail
          go_roundw
          case rel => exact ⟨k + 1, hlt, by go_num, by rw [HE.out]; simp [q1], by rw [HE.out, if_neg HXO.out, if_neg (fun h => by have := h.1; omega)]; exact HR2.out, hB2⟩
          case measure => simp [intOf]; omega
    · have hke : k = al := by omega
      subst hke
      have hlen := Num.swapGo_len at' out s k
      have HR : Hid (RowI wr w.heap.size _ (Num.swapGo at' out s k).1) := hR
      obtain ⟨va, vc, hv, _⟩ := hR.ints
      have hwz : w.heap.size ≤ wr.heap.size := hB.size
      clear hR
      generalize Num.swapGo at' out s k = GO at *
      obtain ⟨gl, gd⟩ := GO
      dsimp only at *
      cases gd with
      | true =>
        obtain rfl : NW = gl := by rw [HNW.out, if_pos rfl]
        subst hv
        obtain ⟨a2, c2, e2, h1, h2, h3⟩ := HR.out.ints
        have HI : Hid (Ints wr a2 NW.length NW) := h2
        have HF : Hid (NW.length = 0 ∨ ∃ g, a2 = some ⟨g, 0, none⟩ ∧ w.heap.size ≤ g) := h3
        simp only [Value.slice.injEq, true_and] at e2
        obtain ⟨rfl, rfl⟩ := e2
        clear h2 h3
        go_wp2_with fail
        go_ret
        exact ⟨_, _, rfl, h1, HI.out, by simpa using HF.out, hB⟩
      | false =>
        obtain rfl : NW = gl ++ [s] := by rw [HNW.out, if_neg (by decide)]
        subst hv
        have HR0 : Hid (RowI (wr.alloc (.cells #[.int .i64 s] 3)) w.heap.size _ (gl)) := RowI.kept HR.out (balloc _ _)
        go_wp2_with (at_builtin; refine wpList_append_own _ rfl (.tmp 45) (.tmp 47) 45 rfl w.heap.size 3 i0 (.int .i64 0) 1 8 Try.underlying45 hif hz0 hz1 hz2 rfl (by decide) _ (gl).length ((gl).map (Value.int .i64)) rfl HR0.out ⟨wr.heap.size, 0, none⟩ 1 1 [.int .i64 s] rfl rfl ?o3e ?o4e ?o5e ?o6e ?o7e ?_)
        try (case o3e => first | exact news_one rfl _ _ | exact news_one' rfl _ _)
        try (case o4e => first | rfl | (intro u hu; simp at hu; subst hu; rfl))
        try (case o5e => unfold maxLen; (try simp only [List.length_append, List.length_singleton]); omega)
        try (case o6e => (try simp only [List.length_append, List.length_singleton]); omega)
        try (case o7e => first | omega | (simp; done) | (simp; omega))
        intro v1 w1 ho hg _
        have HR1 : Hid (RowI w1 w.heap.size v1 (gl ++ [s])) := RowI.push (by simpa using ho)
        have hB1 : Below w.heap.size w w1 := Below.grown (hB.trans ((balloc _ _).mono hwz)) hg (by simp; omega) (fun j hj => (own_lt HR0.out j (by simpa using hj)).1)
        have hwz1 : w.heap.size ≤ w1.heap.size := hB1.size
        clear ho hg HR0
        clear HR
        obtain ⟨a2, c2, rfl, h1, h2, h3⟩ := HR1.out.ints
        have HI : Hid (Ints w1 a2 (gl ++ [s]).length (gl ++ [s])) := h2
        have HF : Hid ((gl ++ [s]).length ≤ c2 ∧ ((gl ++ [s]).length = 0 ∨ ∃ g, a2 = some ⟨g, 0, none⟩ ∧ w.heap.size ≤ g)) := ⟨h1, h3⟩
        clear h1 h2 h3
        go_wp2_with fail
        go_ret
        exact ⟨a2, c2, by simp, by simpa using HF.out.1, by simpa using HI.out, by simpa using HF.out.2, hB1⟩

end Go.Proofs.Ytjlkegchkngliaa
