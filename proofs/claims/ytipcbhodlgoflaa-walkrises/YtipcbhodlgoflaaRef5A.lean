/- What the document's Swap does. -/
import Derived.Test.YtipcbhodlgoflaaPlnA
import Derived.Test.YtipcbhodlgoflaaLinesO
import Derived.Test.YtipcbhodlgoflaaRef2A
import Derived.Test.YtipcbhodlgoflaaSixA
import Derived.Test.YtipcbhodlgoflaaBxs
namespace Go.Proofs.Ytipcbhodlgoflaa
open Go.RowKit

/-- A row of ints of the call's own. -/
def RowI (w : World) (base : Nat) (v : Value) (l : List Int) : Prop := w.ownsRow base 3 1 v l.length (l.map (Value.int .i64))

theorem RowI.kept {w w' : World} {base : Nat} {v : Value} {l : List Int} (h : RowI w base v l) (hb : Below w.heap.size w w') : RowI w' base v l :=
  World.ownsRow.kept (row := none) h ⟨hb.os, hb.tape, hb.output, hb.size, fun k hk _ => hb.block k hk⟩ (by cases v.ownBlock <;> simp)

theorem RowI.nil (w : World) (base : Nat) : RowI w base (.slice none 0 0) [] := World.ownsRow_nil _ _ _ _

theorem RowI.push {w : World} {base : Nat} {v : Value} {l : List Int} {x : Int} (h : w.ownsRow base 3 1 v (l.length + 1) (l.map (Value.int .i64) ++ [.int .i64 x])) : RowI w base v (l ++ [x]) := by
  unfold RowI
  rw [List.length_append, List.length_singleton, List.map_append]
  exact h

theorem RowI.ints {w : World} {base : Nat} {v : Value} {l : List Int} (h : RowI w base v l) : ∃ a c, v = .slice a l.length c ∧ l.length ≤ c ∧ Ints w a l.length l ∧ (l.length = 0 ∨ ∃ g, a = some ⟨g, 0, none⟩ ∧ base ≤ g) := by
  have h' := h
  rcases h.2 with ⟨hv, h0⟩ | ⟨g, cap, cur, hv, hb, _, hc, _⟩
  · exact ⟨none, 0, by rw [h0]; exact hv, by omega, ⟨rfl, Or.inl h0⟩, Or.inl h0⟩
  · subst hv
    refine ⟨_, cap, rfl, hc, Ints.ofOwn h' rfl fun j hj => ?_, Or.inr ⟨g, rfl, hb⟩⟩
    rw [List.getElem?_map, List.getElem?_eq_getElem hj]
    simp

theorem Num.swapGo_len (at' : List Int) (out s : Int) : ∀ k, (Num.swapGo at' out s k).1.length ≤ 2 * k := by
  intro k
  induction k with
  | zero => simp [Num.swapGo]
  | succ k ih =>
    unfold Num.swapGo
    dsimp only
    split <;> split <;> (try simp only [List.length_append, List.length_singleton]) <;> omega

theorem Num.swapGo_succ (at' : List Int) (out s : Int) (k : Nat) : Num.swapGo at' out s (k + 1) = (if at'[k]?.getD 0 = out then (if s < at'[k]?.getD 0 ∧ (Num.swapGo at' out s k).2 = false then (Num.swapGo at' out s k).1 ++ [s] else (Num.swapGo at' out s k).1) else (if s < at'[k]?.getD 0 ∧ (Num.swapGo at' out s k).2 = false then (Num.swapGo at' out s k).1 ++ [s] else (Num.swapGo at' out s k).1) ++ [at'[k]?.getD 0],
      (Num.swapGo at' out s k).2 || decide (s < at'[k]?.getD 0)) := rfl

set_option maxRecDepth 8000 in
set_option maxHeartbeats 3200000 in
theorem swap_any (aa : Option Addr) (al ac : Nat) (at' : List Int) (w : World) (ha : Ints w aa al at') (h4 : al ≤ 4) (out s : Int) :
    Calls Try.prog 96 #[.slice aa al ac, .int .i64 out, .int .i64 s] w fun e w' => ∃ ra rc, e = .returned (.slice ra (Num.swapN at' out s al).length rc) ∧ (Num.swapN at' out s al).length ≤ rc ∧ Ints w' ra (Num.swapN at' out s al).length (Num.swapN at' out s al) ∧ ((Num.swapN at' out s al).length = 0 ∨ ∃ g, ra = some ⟨g, 0, none⟩ ∧ w.heap.size ≤ g) ∧ Below w.heap.size w w' := by
  have HA : Hid (Ints w aa al at') := ha
  clear ha
  have HNW : Hid (Num.swapN at' out s al = if (Num.swapGo at' out s al).2 = true then (Num.swapGo at' out s al).1 else (Num.swapGo at' out s al).1 ++ [s]) := rfl
  generalize Num.swapN at' out s al = NW at *
  obtain ⟨i0, hif, hz0, hz1, hz2⟩ := info_parts Try.infoInt
  go_enter Try.func96, Try.ntmps96
  go_wp2_with fail
  go_loopw [7, 8, 9] (fun v d i wr => ∃ k : Nat, k ≤ al ∧ i = .int .i64 k ∧ d = .bool (Num.swapGo at' out s k).2 ∧ RowI wr w.heap.size v (Num.swapGo at' out s k).1 ∧ Below w.heap.size w wr) (fun _ _ i _ => al - (intOf i).toNat)
  case atStart => exact ⟨0, Nat.zero_le _, rfl, rfl, RowI.nil _ _, Below.refl _ _⟩
  case round =>
    obtain ⟨k, hk, rfl, rfl, hR, hB⟩ := hrel
    by_cases hlt : k < al
    · rcases HA.out.2 with h | ⟨b, off, ha, hbs, hc⟩
      · omega
      have c0 := hc k hlt
      clear hc
      have hlen := Num.swapGo_len at' out s k
      have HE : Hid _ := Num.swapGo_succ at' out s k
      have HR : Hid (RowI wr w.heap.size _ (Num.swapGo at' out s k).1) := hR
      obtain ⟨va, vc, hv, _⟩ := hR.ints
      have hwz : w.heap.size ≤ wr.heap.size := hB.size
      clear hR
      generalize hx : at'[k]?.getD 0 = x at *
      generalize hgo : Num.swapGo at' out s k = GO at *
      obtain ⟨gl, gd⟩ := GO
      dsimp only at *
      clear hx hgo
      subst ha
      have HCK : Hid (∀ w', Below w.heap.size w w' → w'.cell? ⟨b, off + k, none⟩ = some (.int .i64 x)) := fun w' h => by rw [(bcell h).1 b _ hbs]; exact c0
      have ck := HCK.out wr hB
      clear c0
      by_cases hsx : s < x
      · have q1 : decide (s < x) = true := decide_eq_true hsx
        cases gd with
        | false =>
          subst hv
          have HR0 : Hid (RowI (wr.alloc (.cells #[.int .i64 s] 3)) w.heap.size _ (gl)) := RowI.kept HR.out (balloc _ _)
          go_wp2_with (at_builtin; refine wpList_append_own _ rfl (.tmp 26) (.tmp 28) 45 rfl w.heap.size 3 i0 (.int .i64 0) 1 8 Try.underlying45 hif hz0 hz1 hz2 rfl (by decide) _ (gl).length ((gl).map (Value.int .i64)) rfl HR0.out ⟨wr.heap.size, 0, none⟩ 1 1 [.int .i64 s] rfl rfl ?o3a ?o4a ?o5a ?o6a ?o7a ?_)
          try (case o3a => first | exact news_one rfl _ _ | exact news_one' rfl _ _)
          try (case o4a => first | rfl | (intro u hu; simp at hu; subst hu; rfl))
          try (case o5a => unfold maxLen; (try simp only [List.length_append, List.length_singleton]); omega)
          try (case o6a => (try simp only [List.length_append, List.length_singleton]); omega)
          try (case o7a => first | omega | (simp; done) | (simp; omega))
          intro v1 w1 ho hg _
          have HR1 : Hid (RowI w1 w.heap.size v1 (gl ++ [s])) := RowI.push (by simpa using ho)
          have hB1 : Below w.heap.size w w1 := Below.grown (hB.trans ((balloc _ _).mono hwz)) hg (by simp; omega) (fun j hj => (own_lt HR0.out j (by simpa using hj)).1)
          have hwz1 : w.heap.size ≤ w1.heap.size := hB1.size
          clear ho hg HR0
          have ck1 := HCK.out w1 hB1
          obtain ⟨ta, tc, rfl, _⟩ := HR1.out.ints
          clear ck
          by_cases hxo : x = out
          · have q2 : (x == out) = true := beq_iff_eq.2 hxo
            have HXO : Hid (x = out) := hxo
            clear hxo
            go_wp2_with fail
            go_roundw
            case rel => exact ⟨k + 1, hlt, by go_num, by rw [HE.out]; simp [q1], by rw [HE.out, if_pos HXO.out, if_pos ⟨hsx, by first | rfl | trivial⟩]; exact HR1.out, hB1⟩
            case measure => simp [intOf]; omega
          · have q2 : (x == out) = false := beq_eq_false_iff_ne.2 hxo
            have HXO : Hid (¬ x = out) := hxo
            clear hxo
            have HR0 : Hid (RowI (w1.alloc (.cells #[.int .i64 x] 3)) w.heap.size _ (gl ++ [s])) := RowI.kept HR1.out (balloc _ _)
            go_wp2_with (at_builtin; refine wpList_append_own _ rfl (.tmp 36) (.tmp 41) 45 rfl w.heap.size 3 i0 (.int .i64 0) 1 8 Try.underlying45 hif hz0 hz1 hz2 rfl (by decide) _ (gl ++ [s]).length ((gl ++ [s]).map (Value.int .i64)) rfl HR0.out ⟨w1.heap.size, 0, none⟩ 1 1 [.int .i64 x] rfl rfl ?o3b ?o4b ?o5b ?o6b ?o7b ?_)
            try (case o3b => first | exact news_one rfl _ _ | exact news_one' rfl _ _)
            try (case o4b => first | rfl | (intro u hu; simp at hu; subst hu; rfl))
            try (case o5b => unfold maxLen; (try simp only [List.length_append, List.length_singleton]); omega)
            try (case o6b => (try simp only [List.length_append, List.length_singleton]); omega)
            try (case o7b => first | omega | (simp; done) | (simp; omega))
            intro v2 w2 ho hg _
            have HR2 : Hid (RowI w2 w.heap.size v2 (gl ++ [s] ++ [x])) := RowI.push (by simpa using ho)
            have hB2 : Below w.heap.size w w2 := Below.grown (hB1.trans ((balloc _ _).mono hwz1)) hg (by simp; omega) (fun j hj => (own_lt HR0.out j (by simpa using hj)).1)
            have hwz2 : w.heap.size ≤ w2.heap.size := hB2.size
            clear ho hg HR0
            obtain ⟨ua, uc, rfl, _⟩ := HR2.out.ints
            go_wp2_with fail
            go_roundw
            case rel => exact ⟨k + 1, hlt, by go_num, by rw [HE.out]; simp [q1], by rw [HE.out, if_neg HXO.out, if_pos ⟨hsx, by first | rfl | trivial⟩]; exact HR2.out, hB2⟩
            case measure => simp [intOf]; omega
        | true =>
          subst hv
          by_cases hxo : x = out
          · have q2 : (x == out) = true := beq_iff_eq.2 hxo
            have HXO : Hid (x = out) := hxo
            clear hxo
            go_wp2_with fail
            go_roundw
            case rel => exact ⟨k + 1, hlt, by go_num, by rw [HE.out]; simp, by rw [HE.out, if_pos HXO.out, if_neg (by simp)]; exact HR.out, hB⟩
            case measure => simp [intOf]; omega
          · have q2 : (x == out) = false := beq_eq_false_iff_ne.2 hxo
            have HXO : Hid (¬ x = out) := hxo
            clear hxo
            have HR0 : Hid (RowI (wr.alloc (.cells #[.int .i64 x] 3)) w.heap.size _ (gl)) := RowI.kept HR.out (balloc _ _)
            go_wp2_with (at_builtin; refine wpList_append_own _ rfl (.tmp 36) (.tmp 41) 45 rfl w.heap.size 3 i0 (.int .i64 0) 1 8 Try.underlying45 hif hz0 hz1 hz2 rfl (by decide) _ (gl).length ((gl).map (Value.int .i64)) rfl HR0.out ⟨wr.heap.size, 0, none⟩ 1 1 [.int .i64 x] rfl rfl ?o3c ?o4c ?o5c ?o6c ?o7c ?_)
            try (case o3c => first | exact news_one rfl _ _ | exact news_one' rfl _ _)
            try (case o4c => first | rfl | (intro u hu; simp at hu; subst hu; rfl))
            try (case o5c => unfold maxLen; (try simp only [List.length_append, List.length_singleton]); omega)
            try (case o6c => (try simp only [List.length_append, List.length_singleton]); omega)
            try (case o7c => first | omega | (simp; done) | (simp; omega))
            intro v2 w2 ho hg _
            have HR2 : Hid (RowI w2 w.heap.size v2 (gl ++ [x])) := RowI.push (by simpa using ho)
            have hB2 : Below w.heap.size w w2 := Below.grown (hB.trans ((balloc _ _).mono hwz)) hg (by simp; omega) (fun j hj => (own_lt HR0.out j (by simpa using hj)).1)
            have hwz2 : w.heap.size ≤ w2.heap.size := hB2.size
            clear ho hg HR0
            obtain ⟨ua, uc, rfl, _⟩ := HR2.out.ints
            go_wp2_with fail
            go_roundw
            case rel => exact ⟨k + 1, hlt, by go_num, by rw [HE.out]; simp, by rw [HE.out, if_neg HXO.out, if_neg (by simp)]; exact HR2.out, hB2⟩
            case measure => simp [intOf]; omega
      · have q1 : decide (s < x) = false := decide_eq_false hsx
        subst hv
        by_cases hxo : x = out
        · have q2 : (x == out) = true := beq_iff_eq.2 hxo
          have HXO : Hid (x = out) := hxo
          clear hxo
          go_wp2_with fail
          go_roundw
          case rel => exact ⟨k + 1, hlt, by go_num, by rw [HE.out]; simp [q1], by rw [HE.out, if_pos HXO.out, if_neg (fun h => by have := h.1; omega)]; exact HR.out, hB⟩
          case measure => simp [intOf]; omega
        · have q2 : (x == out) = false := beq_eq_false_iff_ne.2 hxo
          have HXO : Hid (¬ x = out) := hxo
          clear hxo
          have HR0 : Hid (RowI (wr.alloc (.cells #[.int .i64 x] 3)) w.heap.size _ (gl)) := RowI.kept HR.out (balloc _ _)
          go_wp2_with (at_builtin; refine wpList_append_own _ rfl (.tmp 36) (.tmp 41) 45 rfl w.heap.size 3 i0 (.int .i64 0) 1 8 Try.underlying45 hif hz0 hz1 hz2 rfl (by decide) _ (gl).length ((gl).map (Value.int .i64)) rfl HR0.out ⟨wr.heap.size, 0, none⟩ 1 1 [.int .i64 x] rfl rfl ?o3d ?o4d ?o5d ?o6d ?o7d ?_)
          try (case o3d => first | exact news_one rfl _ _ | exact news_one' rfl _ _)
          try (case o4d => first | rfl | (intro u hu; simp at hu; subst hu; rfl))
          try (case o5d => unfold maxLen; (try simp only [List.length_append, List.length_singleton]); omega)
          try (case o6d => (try simp only [List.length_append, List.length_singleton]); omega)
          try (case o7d => first | omega | (simp; done) | (simp; omega))
          intro v2 w2 ho hg _
          have HR2 : Hid (RowI w2 w.heap.size v2 (gl ++ [x])) := RowI.push (by simpa using ho)
          have hB2 : Below w.heap.size w w2 := Below.grown (hB.trans ((balloc _ _).mono hwz)) hg (by simp; omega) (fun j hj => (own_lt HR0.out j (by simpa using hj)).1)
          have hwz2 : w.heap.size ≤ w2.heap.size := hB2.size
          clear ho hg HR0
          obtain ⟨ua, uc, rfl, _⟩ := HR2.out.ints
          go_wp2_with fail
          go_roundw
          case rel => exact ⟨k + 1, hlt, by go_num, by rw [HE.out]; simp [q1], by rw [HE.out, if_neg HXO.out, if_neg (fun h => by have := h.1; omega)]; exact HR2.out, hB2⟩
          case measure => simp [intOf]; omega
    · have hke : k = al := by omega
      subst hke
      have hlen := Num.swapGo_len at' out s k
      have HR : Hid (RowI wr w.heap.size _ (Num.swapGo at' out s k).1) := hR
      obtain ⟨va, vc, hv, _⟩ := hR.ints
      have hwz : w.heap.size ≤ wr.heap.size := hB.size
      clear hR
      generalize Num.swapGo at' out s k = GO at *
      obtain ⟨gl, gd⟩ := GO
      dsimp only at *
      cases gd with
      | true =>
        obtain rfl : NW = gl := by rw [HNW.out, if_pos rfl]
        subst hv
        obtain ⟨a2, c2, e2, h1, h2, h3⟩ := HR.out.ints
        have HI : Hid (Ints wr a2 NW.length NW) := h2
        have HF : Hid (NW.length = 0 ∨ ∃ g, a2 = some ⟨g, 0, none⟩ ∧ w.heap.size ≤ g) := h3
        simp only [Value.slice.injEq, true_and] at e2
        obtain ⟨rfl, rfl⟩ := e2
        clear h2 h3
        go_wp2_with fail
        go_ret
        exact ⟨_, _, rfl, h1, HI.out, by simpa using HF.out, hB⟩
      | false =>
        obtain rfl : NW = gl ++ [s] := by rw [HNW.out, if_neg (by decide)]
        subst hv
        have HR0 : Hid (RowI (wr.alloc (.cells #[.int .i64 s] 3)) w.heap.size _ (gl)) := RowI.kept HR.out (balloc _ _)
        go_wp2_with (at_builtin; refine wpList_append_own _ rfl (.tmp 45) (.tmp 47) 45 rfl w.heap.size 3 i0 (.int .i64 0) 1 8 Try.underlying45 hif hz0 hz1 hz2 rfl (by decide) _ (gl).length ((gl).map (Value.int .i64)) rfl HR0.out ⟨wr.heap.size, 0, none⟩ 1 1 [.int .i64 s] rfl rfl ?o3e ?o4e ?o5e ?o6e ?o7e ?_)
        try (case o3e => first | exact news_one rfl _ _ | exact news_one' rfl _ _)
        try (case o4e => first | rfl | (intro u hu; simp at hu; subst hu; rfl))
        try (case o5e => unfold maxLen; (try simp only [List.length_append, List.length_singleton]); omega)
        try (case o6e => (try simp only [List.length_append, List.length_singleton]); omega)
        try (case o7e => first | omega | (simp; done) | (simp; omega))
        intro v1 w1 ho hg _
        have HR1 : Hid (RowI w1 w.heap.size v1 (gl ++ [s])) := RowI.push (by simpa using ho)
        have hB1 : Below w.heap.size w w1 := Below.grown (hB.trans ((balloc _ _).mono hwz)) hg (by simp; omega) (fun j hj => (own_lt HR0.out j (by simpa using hj)).1)
        have hwz1 : w.heap.size ≤ w1.heap.size := hB1.size
        clear ho hg HR0
        clear HR
        obtain ⟨a2, c2, rfl, h1, h2, h3⟩ := HR1.out.ints
        have HI : Hid (Ints w1 a2 (gl ++ [s]).length (gl ++ [s])) := h2
        have HF : Hid ((gl ++ [s]).length ≤ c2 ∧ ((gl ++ [s]).length = 0 ∨ ∃ g, a2 = some ⟨g, 0, none⟩ ∧ w.heap.size ≤ g)) := ⟨h1, h3⟩
        clear h1 h2 h3
        go_wp2_with fail
        go_ret
        exact ⟨a2, c2, by simp, by simpa using HF.out.1, by simpa using HI.out, by simpa using HF.out.2, hB1⟩

end Go.Proofs.Ytipcbhodlgoflaa

/- What small functions of the document's chapters 1, 3 and 5 do: Ints, Above, Of, column, May. -/
namespace Go.Proofs.Ytipcbhodlgoflaa
open Go.RowKit

/-- Numbers that are not too great have a fraction: their own, times one number. -/
theorem Num.mk_is (n d : Int) (hd : 1 ≤ d ∧ d ≤ 1073741824) (hn : -1073741824 ≤ n ∧ n ≤ 1073741824) : ∃ x y, Num.mk n d = (x, y, 0) ∧ n * y = x * d ∧ 1 ≤ y ∧ y ≤ d ∧ x.natAbs ≤ n.natAbs := by
  obtain ⟨g, g0, h0, _, h2, h3, h4, h5, h6⟩ := Num.pt_ok [n] d (by omega) (by omega) (fun j => by
    match j with
    | 0 => simpa using hn
    | j + 1 => simp) (by simp)
  have hlow : (Num.low d [n]).2 = 0 := by
    unfold Num.pt at h0
    by_cases h : (Num.low d [n]).2 = 0
    · exact h
    · rw [if_neg h] at h0; exact h0
  have hmk : Num.mk n d = (n.tdiv (Num.byOf d [n]), d.tdiv (Num.byOf d [n]), 0) := by unfold Num.mk; rw [if_pos hlow]
  have hpt : Num.pt [n] d = ([n.tdiv (Num.byOf d [n])], d.tdiv (Num.byOf d [n]), 0) := by unfold Num.pt; rw [if_pos hlow]; rfl
  rw [hpt] at h2 h3 h4 h5 h6
  have e2 := h2 0
  have e6 := h6 0
  simp only [List.getElem?_cons_zero, Option.getD_some] at e2 e6
  dsimp only at h3 h4 h5
  refine ⟨_, _, hmk, ?_, h4, by omega, e6⟩
  generalize n.tdiv (Num.byOf d [n]) = x at *
  generalize d.tdiv (Num.byOf d [n]) = y at *
  rw [e2, h3]; grind

set_option maxHeartbeats 800000 in
theorem ints5_any (a1 a2 : Option Addr) (n1 c1 n2 c2 : Nat) (l1 l2 : List Int) (w : World) (h1 : Ints w a1 n1 l1) (h2 : Ints w a2 n2 l2) (hn1 : n1 ≤ 9223372036854775807) (hn2 : n2 ≤ 9223372036854775807) :
    Calls Try.prog 39 #[.slice a1 n1 c1, .slice a2 n2 c2] w fun e w' => e = .returned (.bool (l1 == l2)) ∧ ∃ n, w' = w.drewN n := by
  by_cases hn : n1 = n2
  · subst hn
    have H1 : Hid (Ints w a1 n1 l1) := h1
    have H2 : Hid (Ints w a2 n1 l2) := h2
    clear h1 h2
    have hnn : ((n1 : Int) != (n1 : Int)) = false := by simp
    go_enter Try.func39, Try.ntmps39
    go_wp2_with fail
    go_loopw [5] (fun i wr => ∃ k n : Nat, k ≤ n1 ∧ i = .int .i64 k ∧ l1.take k = l2.take k ∧ wr = w.drewN n) (fun i _ => n1 - (intOf i).toNat)
    case atStart => exact ⟨0, 0, Nat.zero_le _, rfl, rfl, rfl⟩
    case round =>
      obtain ⟨k, n, hk, rfl, ht, rfl⟩ := hrel
      have HT : Hid (l1.take k = l2.take k) := ht
      clear ht
      by_cases hlt : k < n1
      · rcases H1.out.2 with h | ⟨b1, o1, ha1, hb1, hc1⟩
        · omega
        rcases H2.out.2 with h | ⟨b2, o2, ha2, hb2, hc2⟩
        · omega
        have e1 := hc1 k hlt
        have e2 := hc2 k hlt
        have L1 := H1.out.1
        have L2 := H2.out.1
        have HTS : Hid (l1[k]?.getD 0 = l2[k]?.getD 0 → l1.take (k + 1) = l2.take (k + 1)) := take_eq_succ l1 l2 k (by omega) (by omega) HT.out
        have HNE : Hid (l1[k]?.getD 0 ≠ l2[k]?.getD 0 → (l1 == l2) = false) := by
          intro hne
          rw [beq_eq_false_iff_ne]
          intro he
          rw [he] at hne
          exact hne rfl
        clear L1 L2 hc1 hc2
        generalize l1[k]?.getD 0 = x at *
        generalize l2[k]?.getD 0 = y at *
        subst ha1 ha2
        by_cases hxy : x = y
        · subst hxy
          have hxx : (x != x) = false := by simp
          have HTT : Hid (l1.take (k + 1) = l2.take (k + 1)) := HTS.out rfl
          go_wp2_with fail
          go_region
          go_wp2_with fail
          go_roundw
          case rel => exact ⟨k + 1, n + 1, by omega, by go_num, HTT.out, rfl⟩
          case measure => simp [intOf]; omega
        · have hxx : (x != y) = true := by simpa using hxy
          go_wp2_with fail
          go_region
          go_wp2_with fail
          go_ret
          exact ⟨ret_bool (HNE.out hxy).symm, n + 1, rfl⟩
      · have hke : k = n1 := by omega
        have L1 := H1.out.1
        have L2 := H2.out.1
        have HEQ : Hid (l1 = l2) := by
          have := HT.out
          rw [List.take_of_length_le (by omega), List.take_of_length_le (by omega)] at this
          exact this
        clear L1 L2
        subst hke
        go_wp2_with fail
        go_ret
        exact ⟨ret_bool (by rw [HEQ.out]; simp), n, rfl⟩
  · have hnn : ((n1 : Int) != (n2 : Int)) = true := by simp; omega
    have HNE : Hid ((l1 == l2) = false) := by
      show (l1 == l2) = false
      rw [beq_eq_false_iff_ne]
      intro he
      have := h1.1
      have := h2.1
      rw [he] at *
      omega
    clear h1 h2
    go_enter Try.func39, Try.ntmps39
    go_wp2_with fail
    go_ret
    exact ⟨ret_bool HNE.out.symm, 0, rfl⟩

set_option maxHeartbeats 800000 in
theorem above_any (a : Option Addr) (len cap : Nat) (l : List Int) (d : Int) (w : World) (hi : Ints w a len l) (hlen : len ≤ 9223372036854775807) :
    Calls Try.prog 40 #[.agg #[.slice a len cap, .int .i64 d]] w fun e w' => e = .returned (.bool (!Num.anyNeg l)) ∧ Below w.heap.size w w' := by
  have HI : Hid (Ints w a len l) := hi
  have HL : Hid (len = l.length) := hi.1
  clear hi
  go_enter Try.func40, Try.ntmps40
  go_wp2
  have hb := balloc w (.cells #[.slice a len cap, .int .i64 d] 29)
  have e0 : (w.alloc (.cells #[.slice a len cap, .int .i64 d] 29)).cell? ⟨w.heap.size, 0, none⟩ = some (.slice a len cap) := (cell_new2 rfl _ _ _).1
  have HI2 : Hid (Ints (w.alloc (.cells #[.slice a len cap, .int .i64 d] 29)) a len l) := Ints.below HI.out hb (Nat.le_refl _)
  generalize w.alloc (.cells #[.slice a len cap, .int .i64 d] 29) = W at *
  go_loop [3] (fun i => ∃ k : Nat, k ≤ len ∧ i = .int .i64 k ∧ Num.anyNeg (l.take k) = false) (fun i => len - (intOf i).toNat)
  case atStart => exact ⟨0, Nat.zero_le _, rfl, rfl⟩
  case round =>
    obtain ⟨k, hk, rfl, hw⟩ := hrel
    have HW : Hid (Num.anyNeg (l.take k) = false) := hw
    clear hw
    by_cases hlt : k < len
    · rcases HI2.out.2 with h | ⟨b, off, ha, hbs, hc⟩
      · omega
      have hck := hc k hlt
      clear hc
      have hs := Num.anyNeg_take_succ l k (by have := HL.out; omega)
      have hf := Num.anyNeg_of l k (by have := HL.out; omega)
      generalize l[k]?.getD 0 = x at hck hs hf
      have HS : Hid _ := hs
      have HF : Hid _ := hf
      clear hs hf
      subst ha
      by_cases hx1 : x < 0
      · go_wp2
        go_ret
        exact ⟨ret_bool (by rw [HF.out hx1]; rfl), hb⟩
      go_wp2
      go_round
      case rel => exact ⟨k + 1, by omega, by go_num, by rw [HS.out, HW.out]; simp; omega⟩
      case measure => simp [intOf]; omega
    · go_wp2
      go_ret
      have hke : k = l.length := by have := HL.out; omega
      refine ⟨ret_bool ?_, hb⟩
      have := HW.out
      rw [hke, List.take_length] at this
      rw [this]; rfl

set_option maxHeartbeats 800000 in
theorem may3_any (ca : Option Addr) (cl cc : Nat) (ra : Option Addr) (rl rc : Nat) (p : Num.Lp) (w : World) (hc : Ints w ca cl p.costs) (hcl : cl ≤ 9223372036854775807) (hr : RowsAt w ra rl p.rows) (hrl : rl ≤ 9223372036854775807) :
    Calls Try.prog 75 #[.agg #[.slice ca cl cc, .slice ra rl rc]] w fun e w' => e = .returned (.bool p.may) ∧ Below w.heap.size w w' := by
  have HC : Hid (Ints w ca cl p.costs) := hc
  have HR : Hid (RowsAt w ra rl p.rows) := hr
  clear hc hr
  go_enter Try.func75, Try.ntmps75
  go_wp2_with fail
  refine (r2may_any _ _ _ _ _ _ p _ (Ints.below HC.out (balloc _ _) (Nat.le_refl _)) hcl (RowsAt.below HR.out (balloc _ _) (Nat.le_refl _)) hrl).mono ?_
  rintro e w1 ⟨rfl, hb1⟩
  go_wp2_with fail
  go_ret
  exact ⟨rfl, binto hb1⟩

end Go.Proofs.Ytipcbhodlgoflaa
