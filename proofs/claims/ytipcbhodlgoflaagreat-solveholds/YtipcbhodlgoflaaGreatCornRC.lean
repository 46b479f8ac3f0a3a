/- What the document's Has and Cost do; rows that a function appends. -/
import Derived.Test.YtipcbhodlgoflaaGreatCornW
namespace Go.Proofs.YtipcbhodlgoflaaGreat
open Go.RowKit

set_option maxHeartbeats 400000 in
theorem has_any (ca : Option Addr) (cl cc : Nat) (ra : Option Addr) (rl rc : Nat) (p : Num.Lp) (w : World) (hcl : cl = p.costs.length) (hr : RowsAt w ra rl p.rows) (hm : p.may = true) (i j : Nat) (hi : i < rl) (hj : j ≤ 8) :
    Calls Tryz.prog 40 #[.agg #[.slice ca cl cc, .slice ra rl rc], .int .i64 i, .int .i64 j] w fun e w' => e = .returned (.int .i64 (Num.hasF p j i)) ∧ Below w.heap.size w w' := by
  have h4 : rl ≤ 4 := by have := hr.1; have := (p.may_of hm).2.2.1.2; omega
  have hc4 : cl ≤ 4 := by have := (p.may_of hm).1.2; omega
  have hrow := (p.row_of hm i (by have := hr.1; omega)).1
  have HR : Hid (RowsAt w ra rl p.rows) := hr
  clear hr hm
  by_cases hjc : (j : Int) < cl
  · have HE : Hid (Num.hasF p j i = (p.rows[i]?.getD ([], 0)).1[j]?.getD 0) := Num.hasF_in p j i _ rfl (by omega)
    rcases (RowsAt.below HR.out (balloc w (.cells #[.slice ca cl cc, .slice ra rl rc] 25)) (Nat.le_refl _)).2 with h | ⟨b, off, ha, hbs, hc⟩
    · omega
    obtain ⟨xa, xl, xc, c0, c1, hx, hxl⟩ := hc i hi
    clear hc
    generalize p.rows[i]?.getD ([], 0) = r at *
    rcases hx.2 with h | ⟨b2, o2, ha2, hb2, hc2⟩
    · have := hx.1; omega
    have hxe : xl = cl := by have := hx.1; omega
    have c2 := hc2 j (by omega)
    clear hc2 hx hxl hrow
    generalize r.1[j]?.getD 0 = x at c2 HE
    clear hcl
    subst ha ha2 hxe
    go_enter Tryz.func40, Tryz.ntmps40
    go_wp2_with fail
    go_ret
    exact ⟨ret_int HE.out.symm, balloc _ _⟩
  · have hjc' : decide ((j : Int) < cl) = false := by simpa using hjc
    by_cases hje : j = cl + i
    · have HE : Hid (Num.hasF p j i = 1) := Num.hasF_one p j i (by omega)
      have hje' : ((j : Int) == cl + i) = true := beq_iff_eq.2 (by omega)
      clear hje hcl hrow
      go_enter Tryz.func40, Tryz.ntmps40
      go_wp2_with fail
      go_ret
      exact ⟨ret_int HE.out.symm, balloc _ _⟩
    · have HE : Hid (Num.hasF p j i = 0) := Num.hasF_zero p j i (by omega) (by omega)
      have hje' : ((j : Int) == cl + i) = false := beq_eq_false_iff_ne.2 (by omega)
      clear hje hcl hrow
      go_enter Tryz.func40, Tryz.ntmps40
      go_wp2_with fail
      go_ret
      exact ⟨ret_int HE.out.symm, balloc _ _⟩

set_option maxHeartbeats 400000 in
theorem cost_any (ca : Option Addr) (cl cc : Nat) (ra : Option Addr) (rl rc : Nat) (costs : List Int) (w : World) (hc : Ints w ca cl costs) (j : Nat) :
    Calls Tryz.prog 41 #[.agg #[.slice ca cl cc, .slice ra rl rc], .int .i64 j] w fun e w' => e = .returned (.int .i64 (costs[j]?.getD 0)) ∧ Below w.heap.size w w' := by
  have HL : Hid (cl = costs.length) := hc.1
  by_cases hj : (j : Int) < cl
  · rcases (Ints.below hc (balloc w (.cells #[.slice ca cl cc, .slice ra rl rc] 25)) (Nat.le_refl _)).2 with hi | ⟨b, off, ha, hb, hcc⟩
    · omega
    have hck := hcc j (by omega)
    clear hcc
    generalize costs[j]?.getD 0 = x at *
    clear hc
    subst ha
    go_enter Tryz.func41, Tryz.ntmps41
    go_wp2_with fail
    go_ret
    exact ⟨rfl, balloc _ _⟩
  · have hj' : decide ((j : Int) < cl) = false := by simpa using hj
    have HZ : Hid (costs[j]?.getD 0 = 0) := by have := HL.out; show costs[j]?.getD 0 = 0; rw [List.getElem?_eq_none (by omega)]; rfl
    clear hc
    go_enter Tryz.func41, Tryz.ntmps41
    go_wp2_with fail
    go_ret
    exact ⟨ret_int HZ.out.symm, balloc _ _⟩

/-- A row of numbers of a call's own. -/
def RowOwn (w : World) (base : Nat) (v : Value) (l : List Int) : Prop := w.ownsRow base 2 1 v l.length (l.map (Value.int .i64))

/-- A slice of the call's own of rows of its own. -/
def RowsOwn (w : World) (base : Nat) (v : Value) (ls : List (List Int)) : Prop :=
  ∃ vs : List Value, w.ownsRow base 22 1 v ls.length vs ∧ ∀ j, j < ls.length → ∃ u, vs[j]? = some u ∧ RowOwn w base u (ls[j]?.getD [])

theorem own_block {w : World} {base n : Nat} {t : TypeId} {v : Value} {xs : List Value} (h : w.ownsRow base t 1 v n xs) {g : Nat} (hg : v.ownBlock = some g) : ∃ cur, w.heap[g]? = some (.cells cur t (0, 0)) := by
  rcases h.2 with ⟨hv, _⟩ | ⟨g', cap, cur, hv, _, hh, _⟩
  · subst hv; simp [Value.ownBlock] at hg
  · subst hv
    simp [Value.ownBlock] at hg
    subst hg
    exact ⟨cur, hh⟩

/-- A row of numbers is kept where a row of slices grows. -/
theorem RowOwn.grown {w w' : World} {base n : Nat} {u v : Value} {l : List Int} {vs : List Value} (h : RowOwn w base u l) (ho : w.ownsRow base 22 1 v n vs) (hg : w.grownBy w' v.ownBlock) : RowOwn w' base u l := by
  refine World.ownsRow.kept h hg ?_
  cases e : u.ownBlock with
  | none => exact Or.inl rfl
  | some g =>
    refine Or.inr fun e2 => ?_
    obtain ⟨c1, h1⟩ := own_block h e
    obtain ⟨c2, h2⟩ := own_block ho e2.symm
    rw [h1] at h2
    simp at h2

theorem RowOwn.kept {w w' : World} {base : Nat} {u : Value} {l : List Int} (h : RowOwn w base u l) (hb : Below w.heap.size w w') : RowOwn w' base u l :=
  World.ownsRow.kept (row := none) h ⟨hb.os, hb.tape, hb.output, hb.size, fun k hk _ => hb.block k hk⟩ (by cases u.ownBlock <;> simp)

theorem RowsOwn.kept {w w' : World} {base : Nat} {v : Value} {ls : List (List Int)} (h : RowsOwn w base v ls) (hb : Below w.heap.size w w') : RowsOwn w' base v ls := by
  obtain ⟨vs, h, hin⟩ := h
  refine ⟨vs, World.ownsRow.kept (row := none) h ⟨hb.os, hb.tape, hb.output, hb.size, fun k hk _ => hb.block k hk⟩ (by cases v.ownBlock <;> simp), fun j hj => ?_⟩
  obtain ⟨u, h1, h2⟩ := hin j hj
  exact ⟨u, h1, h2.kept hb⟩

theorem RowsOwn.nil (w : World) (base : Nat) : RowsOwn w base (.slice none 0 0) [] := ⟨[], World.ownsRow_nil _ _ _ _, fun _ hj => absurd hj (Nat.not_lt_zero _)⟩

/-- One more row. -/
theorem RowsOwn.push {w w' : World} {base : Nat} {u v v' : Value} {ls : List (List Int)} {l : List Int} {vs : List Value} (ho : w.ownsRow base 22 1 v ls.length vs) (hin : ∀ j, j < ls.length → ∃ u, vs[j]? = some u ∧ RowOwn w base u (ls[j]?.getD [])) (hu : RowOwn w base u l)
    (ho' : w'.ownsRow base 22 1 v' (ls.length + 1) (vs ++ [u])) (hg : w.grownBy w' v.ownBlock) : RowsOwn w' base v' (ls ++ [l]) := by
  have hl : vs.length = ls.length := by simpa using ho.1
  refine ⟨vs ++ [u], by simpa using ho', fun j hj => ?_⟩
  rw [List.length_append, List.length_singleton] at hj
  by_cases hjk : j < ls.length
  · obtain ⟨u', h1, h2⟩ := hin j hjk
    refine ⟨u', by rw [List.getElem?_append_left (by omega)]; exact h1, ?_⟩
    rw [List.getElem?_append_left hjk]
    exact h2.grown ho hg
  · obtain rfl : j = ls.length := by omega
    refine ⟨u, by rw [List.getElem?_append_right (by omega), hl]; simp, ?_⟩
    rw [List.getElem?_append_right (by omega)]
    simpa using hu.grown ho hg

theorem RowOwn.ints {w : World} {base : Nat} {u : Value} {l : List Int} (h : RowOwn w base u l) : ∃ a c, u = .slice a l.length c ∧ l.length ≤ c ∧ Ints w a l.length l := by
  have h' := h
  rcases h.2 with ⟨hv, h0⟩ | ⟨g, cap, cur, hv, hb, _, hc, _⟩
  · refine ⟨none, 0, by rw [h0]; exact hv, by omega, ⟨rfl, Or.inl h0⟩⟩
  · subst hv
    refine ⟨_, cap, rfl, hc, Ints.ofOwn h' rfl fun j hj => ?_⟩
    rw [List.getElem?_map, List.getElem?_eq_getElem hj]
    simp

/-- Rows of the call's own, read. -/
theorem RowsOwn.lines {w : World} {base : Nat} {v : Value} {ls : List (List Int)} (h : RowsOwn w base v ls) : ∃ a c, v = .slice a ls.length c ∧ ls.length ≤ c ∧ Lines w a ls.length ls := by
  obtain ⟨vs, h, hin⟩ := h
  have hl : vs.length = ls.length := by simpa using h.1
  have h' := h
  rcases h.2 with ⟨hv, h0⟩ | ⟨g, cap, cur, hv, hb, _, hc, _⟩
  · refine ⟨none, 0, by rw [h0]; exact hv, by omega, ⟨rfl, Or.inl h0⟩⟩
  · subst hv
    refine ⟨_, cap, rfl, hc, rfl, Or.inr ⟨g, 0, rfl, (World.ownsRow.lt h' g rfl).2, fun j hj => ?_⟩⟩
    obtain ⟨u, h1, h2⟩ := hin j hj
    obtain ⟨a, c, hu, hc', hi⟩ := h2.ints
    refine ⟨a, _, c, ?_, hi, hc'⟩
    rw [Nat.zero_add, World.ownsRow.cellAt h' j (by omega), h1, hu]

end Go.Proofs.YtipcbhodlgoflaaGreat

/- What the document's det does. -/
namespace Go.Proofs.YtipcbhodlgoflaaGreat
open Go.RowKit

/-- The line i of lines. -/
theorem Lines.at {w : World} {a : Option Addr} {n : Nat} {ls : List (List Int)} (h : Lines w a n ls) (i : Nat) (hi : i < n) : ∃ b off ra rl rc, a = some ⟨b, off, none⟩ ∧ b < w.heap.size ∧ w.cell? ⟨b, off + i, none⟩ = some (.slice ra rl rc) ∧ Ints w ra rl (ls[i]?.getD []) ∧ rl ≤ rc := by
  rcases h.2 with h0 | ⟨b, off, ha, hs, hc⟩
  · omega
  · obtain ⟨ra, rl, rc, c0, h1, h2⟩ := hc i hi
    exact ⟨b, off, ra, rl, rc, ha, hs, c0, h1, h2⟩

/-- The numbers of a slice from a place on, as the law on append asks for them. -/
theorem ints_news {w w' : World} {b off n k m : Nat} {l : List Int} (h : Ints w (some ⟨b, off, none⟩) n l) (hb : Below w.heap.size w w') (hkm : k + m ≤ n) :
    ∀ (j : Nat) (u : Value), (((l.drop k).take m).map (Value.int .i64))[j]? = some u → w'.cell? ((⟨b, off + k, none⟩ : Addr).add j) = some u := by
  intro j u hu
  have hl := h.1
  rw [List.getElem?_map] at hu
  have hj : j < m := by
    rcases Nat.lt_or_ge j m with hj | hj
    · exact hj
    · rw [List.getElem?_eq_none (by simp; omega)] at hu; cases hu
  rw [List.getElem?_take_of_lt hj, List.getElem?_drop, List.getElem?_eq_getElem (by omega)] at hu
  simp only [Option.map_some, Option.some.injEq] at hu
  subst hu
  rcases h.2 with h0 | ⟨b', off', ha, hs, hc⟩
  · omega
  · simp only [Option.some.injEq, Addr.mk.injEq] at ha
    obtain ⟨rfl, rfl, _⟩ := ha
    rw [addr_add, hb.cell (p := ⟨b, off + k + j, none⟩) hs, show off + k + j = off + (k + j) by omega, hc (k + j) (by omega), List.getElem?_eq_getElem (by omega)]
    rfl

theorem ints_one (l : List Int) : ∀ u ∈ l.map (Value.int .i64), u.oneCell' = true := by
  intro u hu
  obtain ⟨x, _, rfl⟩ := List.mem_map.1 hu
  rfl

theorem app_below {w w1 : World} {o : Obj} (hg : (w.alloc o).grownBy w1 (some w.heap.size)) : Below w.heap.size w w1 :=
  Below.grown (balloc _ _) hg (by simp) (fun j hj => by simp at hj; omega)

theorem own_low {w : World} {base base' n : Nat} {t : TypeId} {v : Value} {xs : List Value} (h : w.ownsRow base t 1 v n xs) (hb : base' ≤ base) : w.ownsRow base' t 1 v n xs := by
  refine ⟨h.1, ?_⟩
  rcases h.2 with h2 | ⟨g, cap, cur, h1, h2, h3⟩
  · exact Or.inl h2
  · exact Or.inr ⟨g, cap, cur, h1, by omega, h3⟩

theorem grown_below {w w1 w2 : World} {B : Nat} {t : TypeId} {v : Value} {n : Nat} {xs : List Value} (h : Below B w w1) (hB : B ≤ w1.heap.size) (ho : w1.ownsRow B t 1 v n xs) (hg : w1.grownBy w2 v.ownBlock) : Below B w w2 :=
  Below.grown h hg hB (fun j hj => (World.ownsRow.lt ho j hj).1)

set_option maxRecDepth 4000 in
set_option maxHeartbeats 1600000 in
theorem det_any (n : Nat) : ∀ (a : Option Addr) (cap : Nat) (ls : List (List Int)) (w : World), Lines w a n ls → n ≤ cap → n ≤ 4 → (∀ l ∈ ls, l.length = n) → Num.BdL 400 ls →
    Calls Tryz.prog 42 #[.slice a n cap] w fun e w' => e = .returned (.int .i64 (Num.detN n ls)) ∧ Below w.heap.size w w' := by
  induction n with
  | zero =>
    intro a cap ls w hl hc h4 hb hB
    clear hl hb hB
    go_enter Tryz.func42, Tryz.ntmps42
    go_wp2_with fail
    go_ret
    exact ⟨rfl, Below.refl _ _⟩
  | succ n ih =>
    intro a cap ls w hl hc h4 hb hB
    have HL : Hid (Lines w a (n + 1) ls) := hl
    have HLN : Hid (n + 1 = ls.length) := hl.1
    have HLL : Hid (∀ i, i < n + 1 → (ls[i]?.getD []).length = n + 1) := fun i hi => by
      have := HLN.out
      rw [List.getElem?_eq_getElem (by omega)]
      exact hb _ (List.getElem_mem _)
    have HH : Hid (∀ j : Nat, -400 ≤ (ls[0]?.getD [])[j]?.getD 0 ∧ (ls[0]?.getD [])[j]?.getD 0 ≤ 400) := hB 0
    have HM : Hid (∀ k, ((ls.drop 1).map (Num.del k)).length = n) := fun k => by have := HLN.out; simp; omega
    have HV : Hid (∀ k, -6553600000000 ≤ Num.detN n ((ls.drop 1).map (Num.del k)) ∧ Num.detN n ((ls.drop 1).map (Num.del k)) ≤ 6553600000000) := fun k => Num.detN_bd' n _ (hB.minor (by omega) k) (by omega)
    have KC : Hid (∀ (k : Nat) (w' : World) (a' : Option Addr) (c' : Nat), k < n + 1 → Lines w' a' n ((ls.drop 1).map (Num.del k)) → n ≤ c' → Calls Tryz.prog 42 #[.slice a' n c'] w' fun e w'' => e = .returned (.int .i64 (Num.detN n ((ls.drop 1).map (Num.del k)))) ∧ Below w'.heap.size w' w'') := by
      intro k w' a' c' hk hl hc
      refine ih a' c' _ w' hl hc (by omega) ?_ (hB.minor (by omega) k)
      intro l hl
      obtain ⟨l', hl', rfl⟩ := List.mem_map.1 hl
      have := hb l' (List.mem_of_mem_drop hl')
      unfold Num.del
      simp; omega
    have HE : Hid (Num.detN (n + 1) ls = (Num.volSum (fun k => Num.detN n ((ls.drop 1).map (Num.del k))) (ls[0]?.getD []) Num.none4 (n + 1)).1) := rfl
    have HSB : Hid (∀ k : Nat, k ≤ 4 → -10485760000000000 ≤ (Num.volSum (fun k => Num.detN n ((ls.drop 1).map (Num.del k))) (ls[0]?.getD []) Num.none4 k).1 ∧ (Num.volSum (fun k => Num.detN n ((ls.drop 1).map (Num.del k))) (ls[0]?.getD []) Num.none4 k).1 ≤ 10485760000000000) := by
      intro k hk
      have := Num.volSum_bd (fun k => Num.detN n ((ls.drop 1).map (Num.del k))) (ls[0]?.getD []) Num.none4 400 6553600000000 HH.out HV.out k
      omega
    clear hl hb hB ih
    generalize hf : (fun k => Num.detN n ((ls.drop 1).map (Num.del k))) = f at *
    have HF : Hid (∀ k, Num.detN n ((ls.drop 1).map (Num.del k)) = f k) := fun k => by rw [← hf]
    clear hf
    generalize hl0 : ls[0]?.getD [] = l0 at *
    have HL0 : Hid _ := hl0
    clear hl0
    obtain ⟨i0, hif, hz0, hz1, hz2⟩ := info_parts Tryz.infoSl
    obtain ⟨j0, hjf, hy0, hy1, hy2⟩ := info_parts Tryz.info64
    go_enter Tryz.func42, Tryz.ntmps42
    go_wp2_with fail
    have ht2 : ((n : Int) + 1 == 0) = false := beq_eq_false_iff_ne.2 (by omega)
    rw [ht2]
    clear ht2
    go_loopw [3, 4, 5] (fun s g i wr => ∃ k : Nat, k ≤ n + 1 ∧ i = .int .i64 k ∧ s = .int .i64 (Num.volSum f l0 Num.none4 k).1 ∧ g = .int .i64 (Num.volSum f l0 Num.none4 k).2 ∧ Below w.heap.size w wr) (fun _ _ i _ => n + 1 - (intOf i).toNat)
    case atStart => exact ⟨0, Nat.zero_le _, rfl, rfl, rfl, Below.refl _ _⟩
    case round =>
      obtain ⟨k, hk, rfl, rfl, rfl, hB⟩ := hrel
      by_cases hlt : k < n + 1
      · go_wp2_with fail
        have hB1 := hB
        clear hB
        have ht1 : decide ((k : Int) < (n : Int) + 1) = true := decide_eq_true (by omega)
        rw [ht1]
        clear ht1
        go_loopw [6, 7] (fun v q wr => ∃ i : Nat, i ≤ n ∧ q = .int .i64 ((i : Int) + 1) ∧ RowsOwn wr w.heap.size v (((ls.drop 1).map (Num.del k)).take i) ∧ Below w.heap.size w wr) (fun _ q _ => n + 1 - (intOf q).toNat)
        case atStart => exact ⟨0, Nat.zero_le _, rfl, by rw [List.take_zero]; exact RowsOwn.nil _ _, hB1⟩
        case round =>
          obtain ⟨i, hi, rfl, hO, hB⟩ := hrel
          clear hB1
          by_cases hit : i < n
          · obtain ⟨b, off, ra, rl, rc, ha, hbs, c0, hI, hrc⟩ := (Lines.below HL.out hB (Nat.le_refl _)).at (i + 1) (by omega)
            have hrl : rl = n + 1 := by have := hI.1; have := HLL.out (i + 1) (by omega); omega
            obtain ⟨b2, o2, ha2, hb2⟩ : ∃ b2 o2, ra = some ⟨b2, o2, none⟩ ∧ b2 < wr.heap.size := by
              rcases hI.2 with h | ⟨b2, o2, h, h2, _⟩
              · omega
              · exact ⟨b2, o2, h, h2⟩
            have HI : Hid (Ints wr ra rl (ls[i + 1]?.getD [])) := hI
            have HO : Hid (RowsOwn wr w.heap.size _ (((ls.drop 1).map (Num.del k)).take i)) := hO
            clear hI hO
            obtain ⟨A, hA⟩ : ∃ A, A = ((ls[i + 1]?.getD []).take k).map (Value.int .i64) := ⟨_, rfl⟩
            obtain ⟨D, hD⟩ : ∃ D, D = ((ls[i + 1]?.getD []).drop (k + 1)).map (Value.int .i64) := ⟨_, rfl⟩
            have HA : Hid _ := hA
            have HD : Hid _ := hD
            clear hA hD
            subst ha ha2 hrl
            go_wp2_with (at_builtin; refine wpList_append_own _ rfl (.tmp 24) (.tmp 30) 22 rfl wr.heap.size 2 j0 (.int .i64 0) 1 8 Tryz.underlying22 hjf hy0 hy1 hy2 rfl (by decide) _ 0 [] rfl ?o1 ⟨b2, o2, none⟩ k rc A rfl ?o2 ?o3 ?o4 ?o5 ?o6 ?o7 ?_)
            case o1 => exact World.ownsRow_made wr #[] 0 (Nat.le_refl _) (Nat.zero_le _) rfl
            case o2 => have := HI.out.1; rw [HA.out]; simp; omega
            case o3 => rw [HA.out]; have h := ints_news (k := 0) (m := k) HI.out (balloc wr (.cells #[] 2)) (by omega); rw [List.drop_zero] at h; exact h
            case o4 => rw [HA.out]; exact ints_one _
            case o5 => unfold maxLen; omega
            case o6 => omega
            case o7 => simp
            intro v1 w1 ho1 hg1 _
            have hb1 : Below wr.heap.size wr w1 := app_below hg1
            obtain ⟨a1, k1, hv1⟩ := own_shape ho1
            subst hv1
            have HO1 : Hid _ := ho1
            have c0' := carry hb1 c0
            have hsz1 := hb1.size
            clear ho1 hg1
            by_cases hrk : rc = k + 1
            · have hkn : k = n := by omega
              subst hkn hrk
              go_wp2_with (at_builtin; refine wpList_append_own _ rfl (.tmp 33) (.tmp 40) 22 rfl wr.heap.size 2 j0 (.int .i64 0) 1 8 Tryz.underlying22 hjf hy0 hy1 hy2 rfl (by decide) _ k _ rfl HO1.out ⟨b2, o2, none⟩ (0) 0 D ?o0 ?o2 ?o3 ?o4 ?o5 ?o6 hsz1 ?_)
              case o0 => rfl
              case o2 => have := HI.out.1; rw [HD.out]; simp; omega
              case o3 => have hl := HI.out.1; intro j u hu; rw [HD.out, List.drop_of_length_le (by omega)] at hu; simp at hu
              case o4 => rw [HD.out]; exact ints_one _
              case o5 => unfold maxLen; omega
              case o6 => omega
              intro v2 w2 ho2 hg2 _
              have hb2' : Below wr.heap.size wr w2 := grown_below hb1 hsz1 HO1.out hg2
              have hsz2 := hb2'.size
              have HRO : Hid (RowOwn w2 w.heap.size v2 (Num.del k (ls[i + 1]?.getD []))) := by
                have hl := HI.out.1
                show w2.ownsRow _ _ _ _ _ _
                rw [show (Num.del k (ls[i + 1]?.getD [])).length = k by unfold Num.del; simp; omega, show (Num.del k (ls[i + 1]?.getD [])).map (Value.int .i64) = A ++ D by rw [HA.out, HD.out]; unfold Num.del; rw [List.map_append]]
                exact own_low ho2 (by have := hB.size; omega)
              obtain ⟨a2, k2, hv2⟩ := own_shape ho2
              subst hv2
              obtain ⟨vs, hov, hvin⟩ := RowsOwn.kept HO.out (bstep hb2' (balloc w2 (.cells #[.slice a2 (k) k2] 22)))
              have hti : (((ls.drop 1).map (Num.del k)).take i).length = i := by have := HM.out k; rw [List.length_take]; omega
              rw [hti] at hov
              have HOV : Hid _ := hov
              have HVIN : Hid _ := hvin
              have hBw : Below w.heap.size w (w2.alloc (.cells #[.slice a2 (k) k2] 22)) := bstep (bstep hB hb2') (balloc _ _)
              clear ho2 hg2 c0' hov hvin
              go_wp2_with (at_builtin; refine wpList_append_own _ rfl (.tmp 32) (.tmp 42) 74 rfl w.heap.size 22 i0 (.slice none 0 0) 1 24 Tryz.underlying74 hif hz0 hz1 hz2 rfl (by decide) _ i vs rfl HOV.out ⟨w2.heap.size, 0, none⟩ 1 1 [.slice a2 (k) k2] rfl rfl ?p3 ?p4 ?p5 ?p6 ?p7 ?_)
              case p3 => first | exact news_one rfl _ _ | exact news_one' rfl _ _
              case p4 => first | rfl | (intro u hu; simp at hu; subst hu; rfl)
              case p5 => unfold maxLen; omega
              case p6 => omega
              case p7 => have := hBw.size; exact this
              intro v3 w3 ho3 hg3 _
              have HR3 : Hid (RowsOwn w3 w.heap.size v3 (((ls.drop 1).map (Num.del k)).take (i + 1))) := by
                have e : ((ls.drop 1).map (Num.del k)).take (i + 1) = ((ls.drop 1).map (Num.del k)).take i ++ [Num.del k (ls[i + 1]?.getD [])] := by
                  have h1 := HM.out k
                  have h2 := HLN.out
                  rw [List.take_succ_eq_append_getElem (by omega)]
                  congr 2
                  rw [List.getElem_map, List.getElem_drop, List.getElem?_eq_getElem (by omega), Option.getD_some]
                  congr 2; omega
                show RowsOwn _ _ _ _
                rw [e]
                exact RowsOwn.push (by rw [hti]; exact HOV.out) HVIN.out (RowOwn.kept HRO.out (balloc _ _)) (by rw [hti]; exact ho3) hg3
              have hb3 : Below w.heap.size w w3 := grown_below hBw hBw.size HOV.out hg3
              clear ho3 hg3
              go_wp2_with fail
              go_roundw
              case rel => first | exact ⟨i + 1, hit, by go_num, HR3.out, hb3⟩ | ((repeat apply Exists.intro); exact ⟨⟨i + 1, hit, by go_num, HR3.out, hb3⟩, rfl⟩)
              case measure => simp [intOf]; omega
            · go_wp2_with (at_builtin; refine wpList_append_own _ rfl (.tmp 33) (.tmp 40) 22 rfl wr.heap.size 2 j0 (.int .i64 0) 1 8 Tryz.underlying22 hjf hy0 hy1 hy2 rfl (by decide) _ k _ rfl HO1.out ⟨b2, o2 + (k + 1), none⟩ (n - k) (rc - (k + 1)) D ?o0 ?o2 ?o3 ?o4 ?o5 ?o6 hsz1 ?_)
              case o0 => rfl
              case o2 => have := HI.out.1; rw [HD.out]; simp; omega
              case o3 => rw [HD.out]; have h := ints_news (k := k + 1) (m := n - k) HI.out hb1 (by omega); rw [List.take_of_length_le (by have := HI.out.1; simp; omega)] at h; exact h
              case o4 => rw [HD.out]; exact ints_one _
              case o5 => unfold maxLen; omega
              case o6 => omega
              intro v2 w2 ho2 hg2 _
              have hb2' : Below wr.heap.size wr w2 := grown_below hb1 hsz1 HO1.out hg2
              have hsz2 := hb2'.size
              have HRO : Hid (RowOwn w2 w.heap.size v2 (Num.del k (ls[i + 1]?.getD []))) := by
                have hl := HI.out.1
                show w2.ownsRow _ _ _ _ _ _
                rw [show (Num.del k (ls[i + 1]?.getD [])).length = k + (n - k) by unfold Num.del; simp; omega, show (Num.del k (ls[i + 1]?.getD [])).map (Value.int .i64) = A ++ D by rw [HA.out, HD.out]; unfold Num.del; rw [List.map_append]]
                exact own_low ho2 (by have := hB.size; omega)
              obtain ⟨a2, k2, hv2⟩ := own_shape ho2
              subst hv2
              obtain ⟨vs, hov, hvin⟩ := RowsOwn.kept HO.out (bstep hb2' (balloc w2 (.cells #[.slice a2 (k + (n - k)) k2] 22)))
              have hti : (((ls.drop 1).map (Num.del k)).take i).length = i := by have := HM.out k; rw [List.length_take]; omega
              rw [hti] at hov
              have HOV : Hid _ := hov
              have HVIN : Hid _ := hvin
              have hBw : Below w.heap.size w (w2.alloc (.cells #[.slice a2 (k + (n - k)) k2] 22)) := bstep (bstep hB hb2') (balloc _ _)
              clear ho2 hg2 c0' hov hvin
              go_wp2_with (at_builtin; refine wpList_append_own _ rfl (.tmp 32) (.tmp 42) 74 rfl w.heap.size 22 i0 (.slice none 0 0) 1 24 Tryz.underlying74 hif hz0 hz1 hz2 rfl (by decide) _ i vs rfl HOV.out ⟨w2.heap.size, 0, none⟩ 1 1 [.slice a2 (k + (n - k)) k2] rfl rfl ?p3 ?p4 ?p5 ?p6 ?p7 ?_)
              case p3 => first | exact news_one rfl _ _ | exact news_one' rfl _ _
              case p4 => first | rfl | (intro u hu; simp at hu; subst hu; rfl)
              case p5 => unfold maxLen; omega
              case p6 => omega
              case p7 => have := hBw.size; exact this
              intro v3 w3 ho3 hg3 _
              have HR3 : Hid (RowsOwn w3 w.heap.size v3 (((ls.drop 1).map (Num.del k)).take (i + 1))) := by
                have e : ((ls.drop 1).map (Num.del k)).take (i + 1) = ((ls.drop 1).map (Num.del k)).take i ++ [Num.del k (ls[i + 1]?.getD [])] := by
                  have h1 := HM.out k
                  have h2 := HLN.out
                  rw [List.take_succ_eq_append_getElem (by omega)]
                  congr 2
                  rw [List.getElem_map, List.getElem_drop, List.getElem?_eq_getElem (by omega), Option.getD_some]
                  congr 2; omega
                show RowsOwn _ _ _ _
                rw [e]
                exact RowsOwn.push (by rw [hti]; exact HOV.out) HVIN.out (RowOwn.kept HRO.out (balloc _ _)) (by rw [hti]; exact ho3) hg3
              have hb3 : Below w.heap.size w w3 := grown_below hBw hBw.size HOV.out hg3
              clear ho3 hg3
              go_wp2_with fail
              go_roundw
              case rel => first | exact ⟨i + 1, hit, by go_num, HR3.out, hb3⟩ | ((repeat apply Exists.intro); exact ⟨⟨i + 1, hit, by go_num, HR3.out, hb3⟩, rfl⟩)
              case measure => simp [intOf]; omega
          · have hin : i = n := by omega
            subst hin
            rw [List.take_of_length_le (by have := HM.out k; omega)] at hO
            obtain ⟨am, cm, hv, hcm, hLm⟩ := RowsOwn.lines hO
            rw [HM.out k] at hv hcm hLm
            clear hO
            subst hv
            obtain ⟨b, off, ra, rl, rc, ha, hbs, c0, hI, hrc⟩ := (Lines.below HL.out hB (Nat.le_refl _)).at 0 (by omega)
            rw [HL0.out] at hI
            rw [Nat.add_zero] at c0
            have hrl : rl = i + 1 := by have := hI.1; have := HLL.out 0 (by omega); rw [HL0.out] at this; omega
            rcases hI.2 with h | ⟨b2, o2, ha2, hb2, hc2⟩
            · omega
            have c1 := hc2 k (by omega)
            clear hc2 hI
            subst ha ha2 hrl
            have hx := HH.out k
            have hs := HSB.out k (by omega)
            have hg := Num.volSum_sign f l0 Num.none4 k
            have hfb := HV.out k
            rw [HF.out k] at hfb
            have HSA : Hid (Num.volSum f l0 Num.none4 (k + 1) = ((Num.volSum f l0 Num.none4 k).1 + (Num.volSum f l0 Num.none4 k).2 * l0[k]?.getD 0 * f k, -(Num.volSum f l0 Num.none4 k).2)) := volSum_add f l0 Num.none4 k rfl
            have KT : Hid (∀ m : Later wr, Calls Tryz.prog 42 #[.slice am i cm] m.w fun e w' => e = .returned (.int .i64 (f k)) ∧ Below m.w.heap.size m.w w') := by
              intro m
              have := KC.out k m.w am cm hlt (Lines.below hLm m.ok (Nat.le_refl _)) hcm
              rw [HF.out k] at this
              exact this
            clear hLm
            generalize l0[k]?.getD 0 = x at c1 hx HSA
            generalize f k = v at hfb HSA KT
            generalize (Num.volSum f l0 Num.none4 k).1 = s at *
            generalize (Num.volSum f l0 Num.none4 k).2 = g at *
            have hgx : -400 ≤ g * x ∧ g * x ≤ 400 := by rcases hg with rfl | rfl <;> omega
            have hgv := Num.mul_bd2 (g * x) v 400 6553600000000 hgx hfb
            simp only [show (400 : Int) * 6553600000000 = 2621440000000000 from rfl] at hgv
            have w1 : wrap64 (g * x) = g * x := IntWalk.wrap64_in _ (by omega)
            have w2 : wrap64 (g * x * v) = g * x * v := IntWalk.wrap64_in _ (by omega)
            have w3 : wrap64 (s + g * x * v) = s + g * x * v := IntWalk.wrap64_in _ (by omega)
            have w4 : wrap64 (0 - g) = -g := by rw [Int.zero_sub]; exact IntWalk.wrap64_in _ (by omega)
            have w5 : wrap64 (-g) = -g := IntWalk.wrap64_in _ (by omega)
            clear hgx hgv hs hg hfb hx
            go_wp2_with fail
            have q0 := later_cell (V := wr) c0 hbs
            have q1 := later_cell (V := wr) c1 hb2
            clear c0 c1
            have hne := later_some wr
            refine wp_region_later (by kernel_rfl) (by kernel_rfl) ?_
            repeat (go_big_quiet_step ((go_at_call 42; exact calls_later (KT.out _))))
            refine wpQuiet_nil ?_
            rintro w6 ⟨n6, rfl⟩
            clear q0 q1
            go_wp2_with fail
            go_roundw
            case rel => exact ⟨k + 1, hlt, by go_num, by rw [HSA.out, w3], by rw [HSA.out]; first | rw [w4] | rw [w5], bstep hB n6.ok⟩
            case measure => simp [intOf]; omega
      · go_wp2_with fail
        go_ret
        have hke : k = n + 1 := by omega
        subst hke
        exact ⟨ret_int HE.out.symm, hB⟩

end Go.Proofs.YtipcbhodlgoflaaGreat

/- What the document's put does. -/
namespace Go.Proofs.YtipcbhodlgoflaaGreat
open Go.RowKit

namespace Num
/-- Rows, with a column in the place of another one. -/
def putL (ls : List (List Int)) (k : Nat) (col : List Int) (n : Nat) : List (List Int) := (List.range n).map fun i => (ls[i]?.getD []).set k (col[i]?.getD 0)
end Num

set_option maxHeartbeats 1600000 in
theorem put_any (n : Nat) (a : Option Addr) (cap : Nat) (ls : List (List Int)) (w : World) (hl : Lines w a n ls) (h1 : 1 ≤ n) (h4 : n ≤ 4) (hb : ∀ l ∈ ls, l.length = n) (k : Nat) (hk : k < n) (ca : Option Addr) (cc : Nat) (col : List Int) (hcol : Ints w ca n col) :
    Calls Tryz.prog 43 #[.slice a n cap, .int .i64 k, .slice ca n cc] w fun e w' => ∃ a' c', e = .returned (.slice a' n c') ∧ n ≤ c' ∧ Lines w' a' n (Num.putL ls k col n) ∧ Below w.heap.size w w' := by
  have HL : Hid (Lines w a n ls) := hl
  have HLN : Hid (n = ls.length) := hl.1
  have HLL : Hid (∀ i, i < n → (ls[i]?.getD []).length = n) := fun i hi => by
    have := HLN.out
    rw [List.getElem?_eq_getElem (by omega)]
    exact hb _ (List.getElem_mem _)
  have HC : Hid (Ints w ca n col) := hcol
  have HM : Hid ((Num.putL ls k col n).length = n) := by show (Num.putL ls k col n).length = n; simp [Num.putL]
  have HP : Hid (∀ i, i < n → (Num.putL ls k col n)[i]?.getD [] = (ls[i]?.getD []).set k (col[i]?.getD 0)) := fun i hi => getD_range _ n i [] hi
  clear hl hb hcol
  generalize Num.putL ls k col n = P at *
  obtain ⟨i0, hif, hz0, hz1, hz2⟩ := info_parts Tryz.infoSl
  obtain ⟨j0, hjf, hy0, hy1, hy2⟩ := info_parts Tryz.info64
  go_enter Tryz.func43, Tryz.ntmps43
  go_wp2_with fail
  go_loopw [7, 8] (fun v q wr => ∃ i : Nat, i ≤ n ∧ q = .int .i64 i ∧ RowsOwn wr w.heap.size v (P.take i) ∧ Below w.heap.size w wr) (fun _ q _ => n - (intOf q).toNat)
  case atStart => exact ⟨0, Nat.zero_le _, rfl, by rw [List.take_zero]; exact RowsOwn.nil _ _, Below.refl _ _⟩
  case round =>
    obtain ⟨i, hi, rfl, hO, hB⟩ := hrel
    by_cases hit : i < n
    · obtain ⟨b, off, ra, rl, rc, ha, hbs, c0, hI, hrc⟩ := (Lines.below HL.out hB (Nat.le_refl _)).at i (by omega)
      have hrl : rl = n := by have := hI.1; have := HLL.out i hit; omega
      obtain ⟨b2, o2, ha2, hb2⟩ : ∃ b2 o2, ra = some ⟨b2, o2, none⟩ ∧ b2 < wr.heap.size := by
        rcases hI.2 with h | ⟨b2, o2, h, h2, _⟩
        · omega
        · exact ⟨b2, o2, h, h2⟩
      rcases (Ints.below HC.out hB (Nat.le_refl _)).2 with h | ⟨b3, o3, ha3, hb3, hc3⟩
      · omega
      have cx := hc3 i hit
      have HI : Hid (Ints wr ra rl (ls[i]?.getD [])) := hI
      have HO : Hid (RowsOwn wr w.heap.size _ (P.take i)) := hO
      have HX : Hid (P[i]?.getD [] = (ls[i]?.getD []).set k (col[i]?.getD 0)) := HP.out i hit
      clear hI hO hc3
      generalize col[i]?.getD 0 = x at cx HX
      obtain ⟨A, hA⟩ : ∃ A, A = (ls[i]?.getD []).map (Value.int .i64) := ⟨_, rfl⟩
      have HA : Hid _ := hA
      clear hA
      subst ha ha2 ha3 hrl
      go_wp2_with (at_builtin; refine wpList_append_own _ rfl (.tmp 16) (.tmp 20) 22 rfl wr.heap.size 2 j0 (.int .i64 0) 1 8 Tryz.underlying22 hjf hy0 hy1 hy2 rfl (by decide) _ 0 [] rfl ?o1 ⟨b2, o2, none⟩ rl rc A rfl ?o2 ?o3 ?o4 ?o5 ?o6 ?o7 ?_)
      case o1 => exact World.ownsRow_made wr #[] 0 (Nat.le_refl _) (Nat.zero_le _) rfl
      case o2 => have := HI.out.1; rw [HA.out]; simp; omega
      case o3 => rw [HA.out]; have h := ints_news (k := 0) (m := rl) HI.out (balloc wr (.cells #[] 2)) (by omega); rw [List.drop_zero, List.take_of_length_le (by have := HI.out.1; omega)] at h; exact h
      case o4 => rw [HA.out]; exact ints_one _
      case o5 => unfold maxLen; omega
      case o6 => omega
      case o7 => simp
      intro v1 w1 ho1 hg1 _
      have hb1 : Below wr.heap.size wr w1 := app_below hg1
      obtain ⟨g1, k1, hv1, hg1', hk1⟩ := own_some ho1 h1
      subst hv1
      obtain ⟨u, u0⟩ : ∃ u, w1.cell? ⟨g1, k, none⟩ = some u := by
        rw [World.ownsRow.cellAt ho1 k (by omega)]
        exact ⟨_, List.getElem?_eq_getElem (by have := ho1.1; omega)⟩
      have u1 := World.ownsRow.frozenAt ho1 k
      have cx' := carry hb1 cx
      have hst := (World.ownsRow.stored ho1 k (.int .i64 x)).1
      have hb2' : Below wr.heap.size wr (w1.setCell ⟨g1, k, none⟩ (.int .i64 x)) := bset hb1 hg1' _
      have HRO : Hid (RowOwn (w1.setCell ⟨g1, k, none⟩ (.int .i64 x)) w.heap.size (.slice (some ⟨g1, 0, none⟩) rl k1) (P[i]?.getD [])) := by
        have hl := HI.out.1
        rw [HX.out]
        show World.ownsRow _ _ _ _ _ _ _
        rw [List.length_set, ← hl, List.map_set, ← HA.out]
        exact own_low hst hB.size
      obtain ⟨vs, hov, hvin⟩ := RowsOwn.kept HO.out (bstep hb2' (balloc _ (.cells #[.slice (some ⟨g1, 0, none⟩) rl k1] 22)))
      have hti : (P.take i).length = i := by have := HM.out; rw [List.length_take]; omega
      rw [hti] at hov
      have HOV : Hid _ := hov
      have HVIN : Hid _ := hvin
      have hBw : Below w.heap.size w ((w1.setCell ⟨g1, k, none⟩ (.int .i64 x)).alloc (.cells #[.slice (some ⟨g1, 0, none⟩) rl k1] 22)) := bstep (bstep hB hb2') (balloc _ _)
      clear ho1 hg1 hov hvin hst cx c0
      go_wp2_with (at_builtin; refine wpList_append_own _ rfl (.tmp 29) (.tmp 31) 74 rfl w.heap.size 22 i0 (.slice none 0 0) 1 24 Tryz.underlying74 hif hz0 hz1 hz2 rfl (by decide) _ i vs rfl HOV.out ⟨w1.heap.size, 0, none⟩ 1 1 [.slice (some ⟨g1, 0, none⟩) rl k1] rfl rfl ?p3 ?p4 ?p5 ?p6 ?p7 ?_)
      case p3 => first | exact news_one (by simp) _ _ | exact news_one' (by simp) _ _
      case p4 => first | rfl | (intro u hu; simp at hu; subst hu; rfl)
      case p5 => unfold maxLen; omega
      case p6 => omega
      case p7 => have := hBw.size; exact this
      intro v3 w3 ho3 hg3 _
      have HR3 : Hid (RowsOwn w3 w.heap.size v3 (P.take (i + 1))) := by
        have e : P.take (i + 1) = P.take i ++ [P[i]?.getD []] := by
          have h1 := HM.out
          rw [List.take_succ_eq_append_getElem (by omega), List.getElem?_eq_getElem (by omega), Option.getD_some]
        show RowsOwn _ _ _ _
        rw [e]
        exact RowsOwn.push (by rw [hti]; exact HOV.out) HVIN.out (RowOwn.kept HRO.out (balloc _ _)) (by rw [hti]; exact ho3) hg3
      have hb3' : Below w.heap.size w w3 := grown_below hBw hBw.size HOV.out hg3
      clear ho3 hg3
      go_wp2_with fail
      go_roundw
      case rel => first | exact ⟨i + 1, hit, by go_num, HR3.out, hb3'⟩ | ((repeat apply Exists.intro); exact ⟨⟨i + 1, hit, by go_num, HR3.out, hb3'⟩, rfl⟩)
      case measure => simp [intOf]; omega
    · have hin : i = n := by omega
      subst hin
      rw [List.take_of_length_le (by have := HM.out; omega)] at hO
      obtain ⟨am, cm, hv, hcm, hLm⟩ := RowsOwn.lines hO
      rw [HM.out] at hv hcm hLm
      have HLM : Hid _ := hLm
      clear hO hLm
      subst hv
      go_wp2_with fail
      go_ret
      exact ⟨am, cm, rfl, hcm, HLM.out, hB⟩

end Go.Proofs.YtipcbhodlgoflaaGreat

/- The document's determinants are the program's volumes. -/
namespace Go.Proofs.YtipcbhodlgoflaaGreat
namespace Num

def downL (p : Lp) (at' : List Int) (m : Nat) : List (List Int) := (List.range m).map fun i => (List.range m).map fun k => hasF p (atF at' k) i

theorem at2_set (ls : List (List Int)) (k : Nat) (x : List Int) (i j : Nat) (hk : k < ls.length) : at2 (ls.set k x) i j = if i = k then x[j]?.getD 0 else at2 ls i j := by
  unfold at2
  rw [List.getElem?_set]
  by_cases h : k = i
  · subst h; simp [hk]
  · rw [if_neg h, if_neg (by omega)]

theorem ext_range {α : Type} (f g : Nat → α) (n : Nat) (h : ∀ i, i < n → f i = g i) : (List.range n).map f = (List.range n).map g :=
  List.map_congr_left fun i hi => h i (by simpa using hi)

theorem turn_eq (ls : List (List Int)) (m : Nat) (h : ls.length = m) : turnL ls = (List.range m).map fun i => (List.range m).map fun k => at2 ls k i := by subst h; rfl

theorem at2_grid (f : Nat → Nat → Int) (m i j : Nat) (hi : i < m) (hj : j < m) : at2 ((List.range m).map fun i => (List.range m).map fun k => f i k) i j = f i j := by
  rw [at2_range, if_pos hi, range_getD, if_pos hj]

theorem down_turn (p : Lp) (at' : List Int) (m : Nat) : downL p at' m = turnL (chosenL p at' m) := by
  rw [turn_eq _ m (chosen_len p at' m).1]
  unfold downL
  refine ext_range _ _ _ fun i hi => ext_range _ _ _ fun k hk => ?_
  unfold chosenL
  rw [at2_range, if_pos hk, range_getD, if_pos hi]

theorem sq_grid (ls : List (List Int)) (m : Nat) (h : Sq m ls) : ls = (List.range m).map fun i => (List.range m).map fun k => at2 ls i k := by
  obtain ⟨hl, hr⟩ := h
  apply List.ext_getElem?
  intro i
  by_cases hi : i < m
  · have hil : i < ls.length := by omega
    have hri : ls[i].length = m := hr ls[i] (List.getElem_mem hil)
    have hat : ∀ k, at2 ls i k = ls[i][k]?.getD 0 := fun k => by unfold at2; rw [List.getElem?_eq_getElem hil, Option.getD_some]
    rw [List.getElem?_map, List.getElem?_range hi, Option.map_some, List.getElem?_eq_getElem hil]
    congr 1
    generalize ls[i] = r at *
    apply List.ext_getElem?
    intro k
    by_cases hk : k < m
    · rw [List.getElem?_map, List.getElem?_range hk, Option.map_some, hat, List.getElem?_eq_getElem (by omega), Option.getD_some]
    · rw [List.getElem?_eq_none (l := r) (by omega), List.getElem?_eq_none (by simp; omega)]
  · rw [List.getElem?_eq_none (by omega), List.getElem?_eq_none (by simp; omega)]

theorem turn_turn (ls : List (List Int)) (m : Nat) (h : Sq m ls) : turnL (turnL ls) = ls := by
  rw [turn_eq _ m (turn_len ls m h.1).1, turn_eq ls m h.1, ]
  refine Eq.trans ?_ (sq_grid ls m h).symm
  refine ext_range _ _ _ fun i hi => ext_range _ _ _ fun k hk => ?_
  exact at2_grid (fun i k => at2 ls k i) m k i hk hi

theorem put_turn (ls : List (List Int)) (m k : Nat) (want : List Int) (h : Sq m ls) (hk : k < m) : putL (turnL ls) k want m = turnL (ls.set k want) := by
  rw [turn_eq (ls.set k want) m (by simpa using h.1)]
  unfold putL
  refine ext_range _ _ _ fun i hi => ?_
  rw [turn_eq ls m h.1, getD_range _ m i [] hi]
  apply List.ext_getElem?
  intro j
  rw [List.getElem?_set]
  by_cases hj : j < m
  · rw [List.getElem?_map, List.getElem?_map, List.getElem?_range hj, Option.map_some, Option.map_some, at2_set _ _ _ _ _ (by have := h.1; omega)]
    by_cases hkj : k = j
    · subst hkj; simp [hk]
    · rw [if_neg hkj, if_neg (by omega)]
  · rw [if_neg (by omega), List.getElem?_eq_none (by simp; omega), List.getElem?_eq_none (by simp; omega)]

theorem chosen_sq (p : Lp) (at' : List Int) (m : Nat) : Sq m (chosenL p at' m) := chosen_len p at' m

theorem set_sq (ls : List (List Int)) (m k : Nat) (want : List Int) (h : Sq m ls) (hw : want.length = m) : Sq m (ls.set k want) := by
  refine ⟨by simpa using h.1, fun l hl => ?_⟩
  rcases List.mem_or_eq_of_mem_set hl with h1 | rfl
  · exact h.2 l h1
  · exact hw

theorem turn_sq (ls : List (List Int)) (m : Nat) (h : Sq m ls) : Sq m (turnL ls) := turn_len ls m h.1

theorem den_det (p : Lp) (at' : List Int) (m : Nat) (h1 : 1 ≤ m) (h4 : m ≤ 4) : detN m (downL p at' m) = denL p at' m := by
  rw [down_turn]
  exact (vol_det m _ (chosen_sq p at' m) h1 h4).symm

theorem x_det (p : Lp) (at' : List Int) (m k : Nat) (h1 : 1 ≤ m) (h4 : m ≤ 4) (hk : k < m) : detN m (putL (downL p at' m) k (mostsL p m) m) = (sharesL (chosenL p at' m) (mostsL p m) m)[k]?.getD 0 := by
  unfold sharesL
  rw [range_getD, if_pos hk, down_turn, put_turn _ m k _ (chosen_sq p at' m) hk]
  exact (vol_det m _ (set_sq _ m k _ (chosen_sq p at' m) (by simp [mostsL])) h1 h4).symm

theorem y_det (p : Lp) (at' : List Int) (m k : Nat) (h1 : 1 ≤ m) (h4 : m ≤ 4) (hk : k < m) : detN m (putL (chosenL p at' m) k (worthsL p at' m) m) = (priceL p at' m)[k]?.getD 0 := by
  unfold priceL sharesL
  rw [range_getD, if_pos hk]
  have hs := turn_sq _ m (chosen_sq p at' m)
  have e := put_turn (turnL (chosenL p at' m)) m k (worthsL p at' m) hs hk
  rw [turn_turn _ m (chosen_sq p at' m)] at e
  rw [e]
  exact (vol_det m _ (set_sq _ m k _ hs (by simp [worthsL])) h1 h4).symm

theorem down_bd (p : Lp) (hm : p.may = true) (at' : List Int) (m : Nat) : BdL 400 (downL p at' m) := by rw [down_turn]; exact turn_bd _ _ (chosen_bd p hm at' m)

theorem put_bd (ls : List (List Int)) (k : Nat) (col : List Int) (n : Nat) (h : BdL 400 ls) (hc : ∀ j : Nat, -400 ≤ col[j]?.getD 0 ∧ col[j]?.getD 0 ≤ 400) : BdL 400 (putL ls k col n) := by
  intro i j
  unfold putL
  rw [at2_range]
  split
  · rw [List.getElem?_set]
    split
    · split
      · exact hc i
      · simp
    · exact h i j
  · omega

theorem put_len (ls : List (List Int)) (k : Nat) (col : List Int) (n : Nat) (h : Sq n ls) : ∀ l ∈ putL ls k col n, l.length = n := by
  intro l hl
  unfold putL at hl
  obtain ⟨i, hi, rfl⟩ := List.mem_map.1 hl
  simp only [List.mem_range] at hi
  have := h.1
  rw [List.length_set, List.getElem?_eq_getElem (by omega)]
  exact h.2 _ (List.getElem_mem _)

end Num
end Go.Proofs.YtipcbhodlgoflaaGreat
