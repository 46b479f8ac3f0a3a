/- Slices of slices of numbers as lists in memory; what corner.volumeBeside and corner.volume do. -/
import Derived.Test.YtloncgmgcnaalaaGreatLayG
import Derived.Test.YtloncgmgcnaalaaGreatNum
namespace Go.Proofs.YtloncgmgcnaalaaGreat
open Go.RowKit

/-- A slice of so many slices of numbers, which are those of ls. -/
def Lines (w : World) (a : Option Addr) (len : Nat) (ls : List (List Int)) : Prop :=
  len = ls.length ∧ (len = 0 ∨ ∃ b off, a = some ⟨b, off, none⟩ ∧ b < w.heap.size ∧ ∀ j, j < len → ∃ ra rl rc, w.cell? ⟨b, off + j, none⟩ = some (.slice ra rl rc) ∧ Ints w ra rl (ls[j]?.getD []) ∧ rl ≤ rc)

theorem Lines.below {w w' : World} {B : Nat} {a : Option Addr} {len : Nat} {ls : List (List Int)} (h : Lines w a len ls) (hb : Below B w w') (hB : w.heap.size ≤ B) : Lines w' a len ls := by
  obtain ⟨h1, h2⟩ := h
  refine ⟨h1, ?_⟩
  rcases h2 with h2 | ⟨b, off, ha, hs, hc⟩
  · exact Or.inl h2
  · refine Or.inr ⟨b, off, ha, Nat.lt_of_lt_of_le hs hb.size, fun j hj => ?_⟩
    obtain ⟨ra, rl, rc, c0, hi, hr⟩ := hc j hj
    refine ⟨ra, rl, rc, ?_, hi.below hb hB, hr⟩
    rw [hb.cell (p := ⟨b, off + j, none⟩) (Nat.lt_of_lt_of_le hs hB)]; exact c0

theorem Lines.tail {w : World} {a : Option Addr} {len cap : Nat} {l : List Int} {r : List (List Int)} (h : Lines w a len (l :: r)) (hc : len ≤ cap) : Lines w (if cap = 1 then a else a.map (·.add 1)) (len - 1) r := by
  obtain ⟨h1, h2⟩ := h
  rw [List.length_cons] at h1
  refine ⟨by omega, ?_⟩
  by_cases h0 : len - 1 = 0
  · exact Or.inl h0
  · rw [if_neg (by omega)]
    rcases h2 with h2 | ⟨b, off, ha, hs, hc⟩
    · omega
    · refine Or.inr ⟨b, off + 1, by rw [ha]; rfl, hs, fun j hj => ?_⟩
      obtain ⟨ra, rl, rc, c0, hi, hr⟩ := hc (j + 1) (by omega)
      refine ⟨ra, rl, rc, ?_, by simpa using hi, hr⟩
      rw [show off + 1 + j = off + (j + 1) by omega]; exact c0

theorem Lines.head {w : World} {a : Option Addr} {len : Nat} {l : List Int} {r : List (List Int)} (h : Lines w a len (l :: r)) : ∃ b off ra rl rc, a = some ⟨b, off, none⟩ ∧ b < w.heap.size ∧ w.cell? ⟨b, off, none⟩ = some (.slice ra rl rc) ∧ Ints w ra rl l ∧ rl ≤ rc := by
  obtain ⟨h1, h2⟩ := h
  rw [List.length_cons] at h1
  rcases h2 with h2 | ⟨b, off, ha, hs, hc⟩
  · omega
  · obtain ⟨ra, rl, rc, c0, hi, hr⟩ := hc 0 (by omega)
    exact ⟨b, off, ra, rl, rc, ha, hs, c0, by simpa using hi, hr⟩

/-- The places that are taken, of four. -/
def tk (a b c d : Bool) (j : Nat) : Bool := if j = 0 then a else if j = 1 then b else if j = 2 then c else if j = 3 then d else false

theorem tk0 (a b c d : Bool) : Num.mark (tk a b c d) 0 = tk true b c d := by funext j; unfold Num.mark tk; repeat' split <;> simp_all
theorem tk1 (a b c d : Bool) : Num.mark (tk a b c d) 1 = tk a true c d := by funext j; unfold Num.mark tk; repeat' split <;> simp_all
theorem tk2 (a b c d : Bool) : Num.mark (tk a b c d) 2 = tk a b true d := by funext j; unfold Num.mark tk; repeat' split <;> simp_all
theorem tk3 (a b c d : Bool) : Num.mark (tk a b c d) 3 = tk a b c true := by funext j; unfold Num.mark tk; repeat' split <;> simp_all
theorem tk_none : tk false false false false = Num.none4 := by funext j; unfold Num.none4 tk; simp

theorem volSum_skip (f : Nat → Int) (l : List Int) (t : Nat → Bool) (k : Nat) (h : t k = true) : Num.volSum f l t (k + 1) = Num.volSum f l t k := by
  show (if t k then _ else _) = _
  rw [h]; rfl
theorem volSum_add (f : Nat → Int) (l : List Int) (t : Nat → Bool) (k : Nat) (h : t k = false) : Num.volSum f l t (k + 1) = ((Num.volSum f l t k).1 + (Num.volSum f l t k).2 * l[k]?.getD 0 * f k, -(Num.volSum f l t k).2) := by
  show (if t k then _ else _) = _
  rw [h]; rfl

/-- A box of four cells. -/
theorem box4 {w w1 : World} {a b c d : Value} {t : TypeId} (hb : Below (w.alloc (.cells #[a, b, c, d] t)).heap.size (w.alloc (.cells #[a, b, c, d] t)) w1) :
    w1.cell? ⟨w.heap.size, 0, none⟩ = some a ∧ w1.cell? ⟨w.heap.size, 1, none⟩ = some b ∧ w1.cell? ⟨w.heap.size, 2, none⟩ = some c ∧ w1.cell? ⟨w.heap.size, 3, none⟩ = some d ∧ w.heap.size < w1.heap.size ∧ Below w.heap.size w w1 := by
  refine ⟨?_, ?_, ?_, ?_, ?_, ?_⟩
  · rw [hb.cell (by simp)]; go_simp
  · rw [hb.cell (by simp)]; go_simp
  · rw [hb.cell (by simp)]; go_simp
  · rw [hb.cell (by simp)]; go_simp
  · have := hb.size; simp at this; omega
  · exact binto hb

set_option maxHeartbeats 1600000 in
theorem volB_any (ls : List (List Int)) : ∀ (a : Option Addr) (len cap : Nat) (w : World) (t0 t1 t2 t3 : Bool), Lines w a len ls → len ≤ cap → len ≤ 4 → (∀ l ∈ ls, l.length ≤ 4) → Num.BdL 400 ls →
    Calls Tryz.prog 71 #[.slice a len cap, .agg #[.bool t0, .bool t1, .bool t2, .bool t3]] w fun e w' => e = .returned (.int .i64 (Num.vol ls (tk t0 t1 t2 t3))) ∧ Below w.heap.size w w' := by
  induction ls with
  | nil =>
    intro a len cap w t0 t1 t2 t3 hl hc h4 hb hB
    obtain rfl : len = 0 := hl.1
    go_enter Tryz.func71, Tryz.ntmps71
    go_wp2_with fail
    go_ret
    exact ⟨rfl, balloc _ _⟩
  | cons l r ih =>
    intro a len cap w t0 t1 t2 t3 hl hc h4 hb hB
    have hlen : len = r.length + 1 := hl.1
    obtain ⟨b, off, ra, rl, rc, ha, hbs, c0, hi, hrc⟩ := hl.head
    have HT : Hid (Lines w (if cap = 1 then a else a.map (·.add 1)) (len - 1) r) := hl.tail hc
    have HI : Hid (Ints w ra rl l) := hi
    have HL : Hid (rl = l.length) := hi.1
    have h4l : rl ≤ 4 := by have := hi.1; have := hb l List.mem_cons_self; omega
    have HH : Hid (∀ j : Nat, -400 ≤ l[j]?.getD 0 ∧ l[j]?.getD 0 ≤ 400) := hB.head
    have HV : Hid (∀ t, -6553600000000 ≤ Num.vol r t ∧ Num.vol r t ≤ 6553600000000) := fun t => Num.vol_bd' r t hB.tail (fun x hx => hb x (List.mem_cons_of_mem _ hx)) (by omega)
    have KC : Hid (∀ (w' : World) (t0 t1 t2 t3 : Bool), Below w.heap.size w w' → Calls Tryz.prog 71 #[.slice (if cap = 1 then a else a.map (·.add 1)) (len - 1) (cap - 1), .agg #[.bool t0, .bool t1, .bool t2, .bool t3]] w' fun e w'' => e = .returned (.int .i64 (Num.vol r (tk t0 t1 t2 t3))) ∧ Below w'.heap.size w' w'') :=
      fun w' t0 t1 t2 t3 hw => ih _ _ _ w' t0 t1 t2 t3 (Lines.below HT.out hw (Nat.le_refl _)) (by omega) (by omega) (fun x hx => hb x (List.mem_cons_of_mem _ hx)) hB.tail
    have HE : Hid (Num.vol (l :: r) (tk t0 t1 t2 t3) = (Num.volSum (fun i => Num.vol r (Num.mark (tk t0 t1 t2 t3) i)) l (tk t0 t1 t2 t3) rl).1) := by have := HL.out; rw [this]; exact rfl
    have HSB : Hid (∀ k : Nat, k ≤ 4 → -10485760000000000 ≤ (Num.volSum (fun i => Num.vol r (Num.mark (tk t0 t1 t2 t3) i)) l (tk t0 t1 t2 t3) k).1 ∧ (Num.volSum (fun i => Num.vol r (Num.mark (tk t0 t1 t2 t3) i)) l (tk t0 t1 t2 t3) k).1 ≤ 10485760000000000) := by
      intro k hk
      have := Num.volSum_bd (fun i => Num.vol r (Num.mark (tk t0 t1 t2 t3) i)) l (tk t0 t1 t2 t3) 400 6553600000000 HH.out (fun j => HV.out _) k
      omega
    generalize hf : (fun i => Num.vol r (Num.mark (tk t0 t1 t2 t3) i)) = f at *
    have HF : Hid _ := hf
    have HBD : Hid _ := hB
    clear hl hi hb hB ih hf
    subst ha
    go_enter Tryz.func71, Tryz.ntmps71
    go_wp2_with fail
    go_loopw [5, 6, 17] (fun s g i wr => ∃ k : Nat, k ≤ rl ∧ i = .int .i64 k ∧ s = .int .i64 (Num.volSum f l (tk t0 t1 t2 t3) k).1 ∧ g = .int .i64 (Num.volSum f l (tk t0 t1 t2 t3) k).2 ∧
      Below (w.alloc (.cells #[.bool t0, .bool t1, .bool t2, .bool t3] 104)).heap.size (w.alloc (.cells #[.bool t0, .bool t1, .bool t2, .bool t3] 104)) wr) (fun _ _ i _ => rl - (intOf i).toNat)
    case atStart => exact ⟨0, Nat.zero_le _, rfl, rfl, rfl, Below.refl _ _⟩
    case round =>
      obtain ⟨k, hk, rfl, rfl, rfl, hbl⟩ := hrel
      obtain ⟨e0, e1, e2, e3, hsz, hB2⟩ := box4 hbl
      by_cases hlt : k < rl
      · rcases (Ints.below HI.out hB2 (Nat.le_refl _)).2 with h | ⟨b1, o1, ha, hb1, hc1⟩
        · omega
        have hck := hc1 k hlt
        clear hc1
        subst ha
        have hx := HH.out k
        have hs := HSB.out k (by omega)
        have hg := Num.volSum_sign f l (tk t0 t1 t2 t3) k
        have hfk : Num.vol r (Num.mark (tk t0 t1 t2 t3) k) = f k := by rw [← HF.out]
        have hfb := HV.out (Num.mark (tk t0 t1 t2 t3) k)
        have HSA : Hid (_ → _) := volSum_add f l (tk t0 t1 t2 t3) k
        rw [hfk] at hfb
        have HFK : Hid _ := hfk
        clear hfk
        generalize l[k]?.getD 0 = x at *
        generalize f k = v at *
        have HSK1 : Hid (tk t0 t1 t2 t3 k = true → (Num.volSum f l (tk t0 t1 t2 t3) (k + 1)).1 = (Num.volSum f l (tk t0 t1 t2 t3) k).1) := fun h => by rw [volSum_skip _ _ _ _ h]
        have HSK2 : Hid (tk t0 t1 t2 t3 k = true → (Num.volSum f l (tk t0 t1 t2 t3) (k + 1)).2 = (Num.volSum f l (tk t0 t1 t2 t3) k).2) := fun h => by rw [volSum_skip _ _ _ _ h]
        generalize (Num.volSum f l (tk t0 t1 t2 t3) k).1 = s at *
        generalize (Num.volSum f l (tk t0 t1 t2 t3) k).2 = g at *
        have hgx : -400 ≤ g * x ∧ g * x ≤ 400 := by rcases hg with rfl | rfl <;> omega
        have hgv := Num.mul_bd2 (g * x) v 400 6553600000000 hgx hfb
        simp only [show (400 : Int) * 6553600000000 = 2621440000000000 from rfl] at hgv
        have w1 : wrap64 (g * x) = g * x := IntWalk.wrap64_in _ (by omega)
        have w2 : wrap64 (g * x * v) = g * x * v := IntWalk.wrap64_in _ (by omega)
        have w3 : wrap64 (s + g * x * v) = s + g * x * v := IntWalk.wrap64_in _ (by omega)
        have w4 : wrap64 (-g) = -g := IntWalk.wrap64_in _ (by omega)
        clear hgx hgv hs hg hfb hx
        rcases (by omega : k = 0 ∨ k = 1 ∨ k = 2 ∨ k = 3) with rfl | rfl | rfl | rfl
        · rw [Nat.add_zero] at hck
          simp only [Int.natCast_zero]
          cases t0 with
          | true =>
            go_wp2_with fail
            go_roundw
            case rel => exact ⟨1, hlt, by go_num, by rw [HSK1.out rfl], by rw [HSK2.out rfl], hbl⟩
            case measure => simp [intOf]; omega
          | false =>
            go_wp2_with fail
            obtain ⟨d0, d1, d2, d3, dz, _⟩ := box4 (Below.refl (wr.alloc (.cells #[.bool true, .bool t1, .bool t2, .bool t3] 104)).heap.size (wr.alloc (.cells #[.bool true, .bool t1, .bool t2, .bool t3] 104)))
            have q0 := later_cell d0 dz
            have q1 := later_cell d1 dz
            have q2 := later_cell d2 dz
            have q3 := later_cell d3 dz
            have hBV : Below w.heap.size w (wr.alloc (.cells #[.bool true, .bool t1, .bool t2, .bool t3] 104)) := bstep hB2 (balloc _ _)
            have hBL := bstep hbl (balloc wr (.cells #[.bool true, .bool t1, .bool t2, .bool t3] 104))
            clear d0 d1 d2 d3 dz e0 e1 e2 e3
            generalize wr.alloc (.cells #[.bool true, .bool t1, .bool t2, .bool t3] 104) = V at *
            have hne := later_some V
            have KT : Hid (∀ n : Later V, Calls Tryz.prog 71 #[.slice (if cap = 1 then some ⟨b, off, none⟩ else some ⟨b, off + 1, none⟩) r.length (cap - 1), .agg #[.bool true, .bool t1, .bool t2, .bool t3]] n.w fun e w' => e = .returned (.int .i64 v) ∧ Below n.w.heap.size n.w w') := by
              intro n
              have := KC.out n.w true t1 t2 t3 (bstep hBV n.ok)
              rw [← tk0 false t1 t2 t3, HFK.out, show len - 1 = r.length by omega] at this
              exact this
            refine wp_region_later (by kernel_rfl) (by kernel_rfl) ?_
            repeat (go_big_quiet_step ((go_at_call 71; exact calls_later (KT.out _))))
            refine wpQuiet_nil ?_
            rintro w5 ⟨n5, rfl⟩
            clear q0 q1 q2 q3
            go_wp2_with fail
            go_roundw
            case rel => exact ⟨1, hlt, by go_num, by rw [HSA.out rfl, w3], by rw [HSA.out rfl, w4], bstep hBL n5.ok⟩
            case measure => simp [intOf]; omega
        · skip
          simp only [Int.natCast_one]
          cases t1 with
          | true =>
            go_wp2_with fail
            go_roundw
            case rel => exact ⟨2, hlt, by go_num, by rw [HSK1.out rfl], by rw [HSK2.out rfl], hbl⟩
            case measure => simp [intOf]; omega
          | false =>
            go_wp2_with fail
            obtain ⟨d0, d1, d2, d3, dz, _⟩ := box4 (Below.refl (wr.alloc (.cells #[.bool t0, .bool true, .bool t2, .bool t3] 104)).heap.size (wr.alloc (.cells #[.bool t0, .bool true, .bool t2, .bool t3] 104)))
            have q0 := later_cell d0 dz
            have q1 := later_cell d1 dz
            have q2 := later_cell d2 dz
            have q3 := later_cell d3 dz
            have hBV : Below w.heap.size w (wr.alloc (.cells #[.bool t0, .bool true, .bool t2, .bool t3] 104)) := bstep hB2 (balloc _ _)
            have hBL := bstep hbl (balloc wr (.cells #[.bool t0, .bool true, .bool t2, .bool t3] 104))
            clear d0 d1 d2 d3 dz e0 e1 e2 e3
            generalize wr.alloc (.cells #[.bool t0, .bool true, .bool t2, .bool t3] 104) = V at *
            have hne := later_some V
            have KT : Hid (∀ n : Later V, Calls Tryz.prog 71 #[.slice (if cap = 1 then some ⟨b, off, none⟩ else some ⟨b, off + 1, none⟩) r.length (cap - 1), .agg #[.bool t0, .bool true, .bool t2, .bool t3]] n.w fun e w' => e = .returned (.int .i64 v) ∧ Below n.w.heap.size n.w w') := by
              intro n
              have := KC.out n.w t0 true t2 t3 (bstep hBV n.ok)
              rw [← tk1 t0 false t2 t3, HFK.out, show len - 1 = r.length by omega] at this
              exact this
            refine wp_region_later (by kernel_rfl) (by kernel_rfl) ?_
            repeat (go_big_quiet_step ((go_at_call 71; exact calls_later (KT.out _))))
            refine wpQuiet_nil ?_
            rintro w5 ⟨n5, rfl⟩
            clear q0 q1 q2 q3
            go_wp2_with fail
            go_roundw
            case rel => exact ⟨2, hlt, by go_num, by rw [HSA.out rfl, w3], by rw [HSA.out rfl, w4], bstep hBL n5.ok⟩
            case measure => simp [intOf]; omega
        · skip
          simp only [show ((2 : Nat) : Int) = 2 from rfl]
          cases t2 with
          | true =>
            go_wp2_with fail
            go_roundw
            case rel => exact ⟨3, hlt, by go_num, by rw [HSK1.out rfl], by rw [HSK2.out rfl], hbl⟩
            case measure => simp [intOf]; omega
          | false =>
            go_wp2_with fail
            obtain ⟨d0, d1, d2, d3, dz, _⟩ := box4 (Below.refl (wr.alloc (.cells #[.bool t0, .bool t1, .bool true, .bool t3] 104)).heap.size (wr.alloc (.cells #[.bool t0, .bool t1, .bool true, .bool t3] 104)))
            have q0 := later_cell d0 dz
            have q1 := later_cell d1 dz
            have q2 := later_cell d2 dz
            have q3 := later_cell d3 dz
            have hBV : Below w.heap.size w (wr.alloc (.cells #[.bool t0, .bool t1, .bool true, .bool t3] 104)) := bstep hB2 (balloc _ _)
            have hBL := bstep hbl (balloc wr (.cells #[.bool t0, .bool t1, .bool true, .bool t3] 104))
            clear d0 d1 d2 d3 dz e0 e1 e2 e3
            generalize wr.alloc (.cells #[.bool t0, .bool t1, .bool true, .bool t3] 104) = V at *
            have hne := later_some V
            have KT : Hid (∀ n : Later V, Calls Tryz.prog 71 #[.slice (if cap = 1 then some ⟨b, off, none⟩ else some ⟨b, off + 1, none⟩) r.length (cap - 1), .agg #[.bool t0, .bool t1, .bool true, .bool t3]] n.w fun e w' => e = .returned (.int .i64 v) ∧ Below n.w.heap.size n.w w') := by
              intro n
              have := KC.out n.w t0 t1 true t3 (bstep hBV n.ok)
              rw [← tk2 t0 t1 false t3, HFK.out, show len - 1 = r.length by omega] at this
              exact this
            refine wp_region_later (by kernel_rfl) (by kernel_rfl) ?_
            repeat (go_big_quiet_step ((go_at_call 71; exact calls_later (KT.out _))))
            refine wpQuiet_nil ?_
            rintro w5 ⟨n5, rfl⟩
            clear q0 q1 q2 q3
            go_wp2_with fail
            go_roundw
            case rel => exact ⟨3, hlt, by go_num, by rw [HSA.out rfl, w3], by rw [HSA.out rfl, w4], bstep hBL n5.ok⟩
            case measure => simp [intOf]; omega
        · skip
          simp only [show ((3 : Nat) : Int) = 3 from rfl]
          cases t3 with
          | true =>
            go_wp2_with fail
            go_roundw
            case rel => exact ⟨4, hlt, by go_num, by rw [HSK1.out rfl], by rw [HSK2.out rfl], hbl⟩
            case measure => simp [intOf]; omega
          | false =>
            go_wp2_with fail
            obtain ⟨d0, d1, d2, d3, dz, _⟩ := box4 (Below.refl (wr.alloc (.cells #[.bool t0, .bool t1, .bool t2, .bool true] 104)).heap.size (wr.alloc (.cells #[.bool t0, .bool t1, .bool t2, .bool true] 104)))
            have q0 := later_cell d0 dz
            have q1 := later_cell d1 dz
            have q2 := later_cell d2 dz
            have q3 := later_cell d3 dz
            have hBV : Below w.heap.size w (wr.alloc (.cells #[.bool t0, .bool t1, .bool t2, .bool true] 104)) := bstep hB2 (balloc _ _)
            have hBL := bstep hbl (balloc wr (.cells #[.bool t0, .bool t1, .bool t2, .bool true] 104))
            clear d0 d1 d2 d3 dz e0 e1 e2 e3
            generalize wr.alloc (.cells #[.bool t0, .bool t1, .bool t2, .bool true] 104) = V at *
            have hne := later_some V
            have KT : Hid (∀ n : Later V, Calls Tryz.prog 71 #[.slice (if cap = 1 then some ⟨b, off, none⟩ else some ⟨b, off + 1, none⟩) r.length (cap - 1), .agg #[.bool t0, .bool t1, .bool t2, .bool true]] n.w fun e w' => e = .returned (.int .i64 v) ∧ Below n.w.heap.size n.w w') := by
              intro n
              have := KC.out n.w t0 t1 t2 true (bstep hBV n.ok)
              rw [← tk3 t0 t1 t2 false, HFK.out, show len - 1 = r.length by omega] at this
              exact this
            refine wp_region_later (by kernel_rfl) (by kernel_rfl) ?_
            repeat (go_big_quiet_step ((go_at_call 71; exact calls_later (KT.out _))))
            refine wpQuiet_nil ?_
            rintro w5 ⟨n5, rfl⟩
            clear q0 q1 q2 q3
            go_wp2_with fail
            go_roundw
            case rel => exact ⟨4, hlt, by go_num, by rw [HSA.out rfl, w3], by rw [HSA.out rfl, w4], bstep hBL n5.ok⟩
            case measure => simp [intOf]; omega
      · go_wp2_with fail
        go_ret
        have hke : k = rl := by omega
        subst hke
        exact ⟨ret_int HE.out.symm, hB2⟩

set_option maxHeartbeats 400000 in
theorem volume_any (ls : List (List Int)) (a : Option Addr) (len cap : Nat) (w : World) (hl : Lines w a len ls) (hc : len ≤ cap) (h4 : len ≤ 4) (hb : ∀ l ∈ ls, l.length ≤ 4) (hB : Num.BdL 400 ls) :
    Calls Tryz.prog 46 #[.slice a len cap] w fun e w' => e = .returned (.int .i64 (Num.vol ls Num.none4)) ∧ Below w.heap.size w w' := by
  have K : Hid (Calls Tryz.prog 71 #[.slice a len cap, .agg #[.bool false, .bool false, .bool false, .bool false]] w fun e w' => e = .returned (.int .i64 (Num.vol ls Num.none4)) ∧ Below w.heap.size w w') := by
    rw [← tk_none]
    exact volB_any ls a len cap w _ _ _ _ hl hc h4 hb hB
  clear hl hb hB
  go_enter Tryz.func46, Tryz.ntmps46
  go_wp2_with fail
  refine K.out.mono ?_
  rintro e w' ⟨rfl, hb⟩
  go_wp2_with fail
  go_ret
  exact ⟨rfl, hb⟩

end Go.Proofs.YtloncgmgcnaalaaGreat

/- Slices that a function makes and fills; what corner.width, worth, mosts and worths do. -/
namespace Go.Proofs.YtloncgmgcnaalaaGreat
open Go.RowKit

namespace Num

/-- The first k of n numbers, the others being 0. -/
def fill (f : Nat → Int) (n k : Nat) : List Int := (List.range n).map fun j => if j < k then f j else 0

theorem fill_zero (f : Nat → Int) (n : Nat) : fill f n 0 = List.replicate n 0 := by
  unfold fill
  apply List.ext_getElem?
  intro j
  simp [List.getElem?_replicate]
  by_cases h : j < n <;> simp [h]

theorem fill_all (f : Nat → Int) (n : Nat) : fill f n n = (List.range n).map f := by
  unfold fill
  apply List.map_congr_left
  intro j hj
  simp at hj
  simp [hj]

theorem fill_len (f : Nat → Int) (n k : Nat) : (fill f n k).length = n := by simp [fill]

theorem fill_getD (f : Nat → Int) (n k j : Nat) : (fill f n k)[j]?.getD 0 = if j < n ∧ j < k then f j else 0 := by
  unfold fill
  rw [List.getElem?_map]
  by_cases h : j < n
  · simp [h]
  · rw [List.getElem?_eq_none (by simp; omega)]; simp [h]

theorem fill_set (f : Nat → Int) (n k : Nat) (v : Int) (h : k < n) (hv : v = f k) : (fill f n k).set k v = fill f n (k + 1) := by
  subst hv
  unfold fill
  apply List.ext_getElem?
  intro j
  rw [List.getElem?_set]
  by_cases hj : k = j
  · subst hj; simp [h]
  · rw [if_neg hj]
    by_cases hn : j < n
    · simp [hn]
      by_cases hk : j < k
      · rw [if_pos hk, if_pos (by omega)]
      · rw [if_neg hk, if_neg (by omega)]
    · rw [List.getElem?_eq_none (by simp; omega), List.getElem?_eq_none (by simp; omega)]

theorem fill_skip (f : Nat → Int) (n k : Nat) (hv : f k = 0) : fill f n k = fill f n (k + 1) := by
  unfold fill
  apply List.map_congr_left
  intro j _
  by_cases hk : j = k
  · subst hk; simp [hv]
  · by_cases h : j < k
    · rw [if_pos h, if_pos (by omega)]
    · rw [if_neg h, if_neg (by omega)]

theorem range_getD (f : Nat → Int) (n j : Nat) : ((List.range n).map f)[j]?.getD 0 = if j < n then f j else 0 := by
  rw [List.getElem?_map]
  by_cases h : j < n
  · simp [h]
  · rw [List.getElem?_eq_none (by simp; omega)]; simp [h]

end Num

/-- A slice of the call's own: n numbers, which are those of l. -/
def Own (w : World) (base g n : Nat) (l : List Int) : Prop := w.ownsRow base 2 1 (.slice (some ⟨g, 0, none⟩) n n) n (l.map (Value.int .i64))

theorem Own.made {w : World} {base g n : Nat} (f : Nat → Int) (h : w.ownsRow base 2 1 (.slice (some ⟨g, 0, none⟩) n n) n (madeCells (Value.int .i64 0).cells (n * 1)).toList) : Own w base g n (Num.fill f n 0) := by
  unfold Own
  rw [Num.fill_zero, List.map_replicate]
  have e : (madeCells (Value.int .i64 0).cells (n * 1)).toList = List.replicate n (Value.int .i64 0) := by rw [Nat.mul_one]; exact toList_madeCells_one _ _
  rw [e] at h
  exact h

theorem Own.len {w : World} {base g n : Nat} {l : List Int} (h : Own w base g n l) : l.length = n := by simpa using h.1

theorem Own.cell {w : World} {base g n : Nat} {l : List Int} (h : Own w base g n l) (k : Nat) (hk : k < n) : w.cell? ⟨g, k, none⟩ = some (.int .i64 (l[k]?.getD 0)) ∧ w.frozen? ⟨g, k, none⟩ = false := by
  refine ⟨?_, World.ownsRow.frozenAt h k⟩
  have := World.ownsRow.cellAt h k (by omega)
  rw [this, List.getElem?_map, List.getElem?_eq_getElem (by have := h.len; omega)]
  simp

theorem Own.cell' {w : World} {base g n : Nat} {l : List Int} (h : Own w base g n l) (k : Nat) (hk : k < n) : (∃ u, w.cell? ⟨g, k, none⟩ = some u) ∧ w.frozen? ⟨g, k, none⟩ = false := ⟨⟨_, (h.cell k hk).1⟩, (h.cell k hk).2⟩

theorem Own.store {w : World} {base g n : Nat} {l : List Int} (h : Own w base g n l) (k : Nat) (v : Int) : Own (w.setCell ⟨g, k, none⟩ (.int .i64 v)) base g n (l.set k v) := by
  unfold Own
  rw [List.map_set]
  exact (World.ownsRow.stored h k (.int .i64 v)).1

theorem Own.lt {w : World} {base g n : Nat} {l : List Int} (h : Own w base g n l) : base ≤ g ∧ g < w.heap.size := World.ownsRow.lt h g rfl

theorem own_below {w w' : World} {base n : Nat} {t : TypeId} {g c : Nat} {xs : List Value} (h : w.ownsRow base t 1 (.slice (some ⟨g, 0, none⟩) n c) n xs) {B : Nat} (hb : Below B w w') (hB : g < B) : w'.ownsRow base t 1 (.slice (some ⟨g, 0, none⟩) n c) n xs := by
  refine ⟨h.1, ?_⟩
  rcases h.2 with ⟨h2, _⟩ | ⟨g', cap, cur, e, h3, h4, h5⟩
  · cases h2
  · refine Or.inr ⟨g', cap, cur, e, h3, ?_, h5⟩
    simp only [Value.slice.injEq, Option.some.injEq, Addr.mk.injEq] at e
    rw [hb.block g' (by omega)]
    exact h4

theorem Own.below {w w' : World} {base g n : Nat} {l : List Int} (h : Own w base g n l) {B : Nat} (hb : Below B w w') (hB : g < B) : Own w' base g n l := own_below h hb hB

theorem Own.alloc {w : World} {base g n : Nat} {l : List Int} (h : Own w base g n l) (o : Obj) : Own (w.alloc o) base g n l := h.below (balloc _ _) h.lt.2

theorem Own.ints {w : World} {base g n : Nat} {l : List Int} (h : Own w base g n l) : Ints w (some ⟨g, 0, none⟩) n l :=
  ⟨h.len.symm, Or.inr ⟨g, 0, rfl, h.lt.2, fun j hj => by rw [Nat.zero_add]; exact (h.cell j hj).1⟩⟩

/-- A store into a block from B on. -/
theorem bset {B : Nat} {a w : World} (h : Below B a w) {g k : Nat} (hg : B ≤ g) (v : Value) : Below B a (w.setCell ⟨g, k, none⟩ v) := h.setCell hg v

theorem made_below {w w' : World} (h : w.grownBy w' none) : Below w.heap.size w w' := (Below.refl _ _).grown h (Nat.le_refl _) (fun _ hk => by cases hk)

set_option maxHeartbeats 400000 in
theorem width_any (ca : Option Addr) (cl cc : Nat) (ra : Option Addr) (rl rc : Nat) (w : World) (N : Nat) (hN : cl + rl = N) (h : N ≤ 8) :
    Calls Tryz.prog 26 #[.agg #[.slice ca cl cc, .slice ra rl rc]] w fun e w' => e = .returned (.int .i64 N) ∧ Below w.heap.size w w' := by
  have HN : Hid ((cl : Int) + rl = N) := by show (cl : Int) + rl = N; omega
  have h' : cl + rl ≤ 8 := by omega
  clear hN
  go_enter Tryz.func26, Tryz.ntmps26
  go_wp2_with fail
  go_ret
  exact ⟨ret_int HN.out, balloc _ _⟩

set_option maxHeartbeats 400000 in
theorem worthC_any (ca : Option Addr) (cl cc : Nat) (ra : Option Addr) (rl rc : Nat) (costs : List Int) (w : World) (hc : Ints w ca cl costs) (j : Nat) :
    Calls Tryz.prog 73 #[.agg #[.slice ca cl cc, .slice ra rl rc], .int .i64 j] w fun e w' => e = .returned (.int .i64 (costs[j]?.getD 0)) ∧ Below w.heap.size w w' := by
  have HL : Hid (cl = costs.length) := hc.1
  by_cases hj : (j : Int) < cl
  · rcases (Ints.below hc (balloc w (.cells #[.slice ca cl cc, .slice ra rl rc] 25)) (Nat.le_refl _)).2 with hi | ⟨b, off, ha, hb, hcc⟩
    · omega
    have hck := hcc j (by omega)
    clear hcc
    generalize costs[j]?.getD 0 = x at *
    clear hc
    subst ha
    go_enter Tryz.func73, Tryz.ntmps73
    go_wp2_with fail
    go_ret
    exact ⟨rfl, balloc _ _⟩
  · have hj' : decide ((j : Int) < cl) = false := by simpa using hj
    have HZ : Hid (costs[j]?.getD 0 = 0) := by have := HL.out; show costs[j]?.getD 0 = 0; rw [List.getElem?_eq_none (by omega)]; rfl
    clear hc
    go_enter Tryz.func73, Tryz.ntmps73
    go_wp2_with fail
    go_ret
    exact ⟨ret_int HZ.out.symm, balloc _ _⟩

def Num.mostF (p : Num.Lp) (i : Nat) : Int := (p.rows[i]?.getD ([], 0)).2

set_option maxHeartbeats 800000 in
theorem mosts_any (ca : Option Addr) (cl cc : Nat) (ra : Option Addr) (rl rc : Nat) (p : Num.Lp) (w : World) (hr : RowsAt w ra rl p.rows) (h4 : rl ≤ 4) :
    Calls Tryz.prog 51 #[.agg #[.slice ca cl cc, .slice ra rl rc]] w fun e w' => ∃ g, e = .returned (.slice (some ⟨g, 0, none⟩) rl rl) ∧ w.heap.size ≤ g ∧ Ints w' (some ⟨g, 0, none⟩) rl ((List.range rl).map (Num.mostF p)) ∧ Below w.heap.size w w' := by
  have HR : Hid (RowsAt w ra rl p.rows) := hr
  clear hr
  obtain ⟨i0, hif, hz0, hz1, hz2⟩ := info_parts Tryz.info64
  have hB0 := balloc w (.cells #[.slice ca cl cc, .slice ra rl rc] 25)
  have hc2 := cell_new2 (w := w) rfl (.slice ca cl cc) (.slice ra rl rc) 25
  have hs0 : (w.alloc (.cells #[.slice ca cl cc, .slice ra rl rc] 25)).heap.size = w.heap.size + 1 := by simp
  go_enter Tryz.func51, Tryz.ntmps51
  go_wp2_with (at_make; refine wpList_make_full _ rfl (.tmp 8) (.tmp 8) 22 rfl (w.heap.size + 1) 2 i0 (.int .i64 0) 1 Tryz.underlying22 hif hz0 hz1 .i64 .i64 _ _ rl rfl rfl rfl rfl (by rw [hz2]; omega) (by unfold maxLen; omega) (by simp) ?_; intro w3 hown hgrow; have hb3 := made_below hgrow; obtain ⟨⟨k0, k1⟩, _⟩ := kept2 hb3; have HO : Hid _ := hown; clear hown hgrow)
  have HO3 : Hid (Own w3 (w.heap.size + 1) (w.heap.size + 1) rl (Num.fill (Num.mostF p) rl 0)) := Own.made _ (by rw [hs0] at HO; exact HO.out)
  clear HO
  go_loopw [13] (fun i wr => ∃ k : Nat, k ≤ rl ∧ i = .int .i64 k ∧ Own wr (w.heap.size + 1) (w.heap.size + 1) rl (Num.fill (Num.mostF p) rl k) ∧ Below (w.alloc (.cells #[.slice ca cl cc, .slice ra rl rc] 25)).heap.size (w.alloc (.cells #[.slice ca cl cc, .slice ra rl rc] 25)) wr) (fun i _ => rl - (intOf i).toNat)
  case atStart => exact ⟨0, Nat.zero_le _, rfl, HO3.out, hb3⟩
  case round =>
    obtain ⟨k, hk, rfl, hO, hbl⟩ := hrel
    have HO : Hid _ := hO
    clear HO3 hb3 k0 k1
    have hB : Below w.heap.size w wr := binto hbl
    by_cases hlt : k < rl
    · rcases (RowsAt.below HR.out hB (Nat.le_refl _)).2 with h | ⟨b, off, ha, hbs, hc⟩
      · omega
      obtain ⟨xa, xl, xc, c0, c1, hx, hxl⟩ := hc k hlt
      clear hc hx
      obtain ⟨⟨u, u0⟩, u1⟩ := hO.cell' k hlt
      have hg := hO.lt.2
      clear hO
      have HE : Hid ((p.rows[k]?.getD ([], 0)).2 = Num.mostF p k) := rfl
      generalize (p.rows[k]?.getD ([], 0)).2 = x at *
      subst ha
      go_wp2_with fail
      go_roundw
      case rel => exact ⟨k + 1, hlt, by go_num, by rw [← Num.fill_set _ _ _ x hlt HE.out]; exact (Own.store HO.out k x).alloc _, bstep (bset hbl (by simp) _) (balloc _ _)⟩
      case measure => simp [intOf]; omega
    · have hke : k = rl := by omega
      subst hke
      clear hO
      go_wp2_with fail
      go_ret
      refine ⟨w.heap.size + 1, rfl, by omega, ?_, hB⟩
      rw [← Num.fill_all]
      exact Own.ints HO.out

def Num.atF (at' : List Int) (k : Nat) : Nat := (at'[k]?.getD 0).toNat

set_option maxHeartbeats 800000 in
theorem worths_any (ca : Option Addr) (cl cc : Nat) (ra : Option Addr) (rl rc : Nat) (p : Num.Lp) (w : World) (hc : Ints w ca cl p.costs) (aa : Option Addr) (al ac : Nat) (at' : List Int) (ha : Ints w aa al at')
    (h4 : al ≤ 4) (hat : ∀ k, k < al → 0 ≤ at'[k]?.getD 0) :
    Calls Tryz.prog 49 #[.agg #[.slice ca cl cc, .slice ra rl rc], .slice aa al ac] w fun e w' => ∃ g, e = .returned (.slice (some ⟨g, 0, none⟩) al al) ∧ w.heap.size ≤ g ∧
      Ints w' (some ⟨g, 0, none⟩) al ((List.range al).map fun k => p.costs[Num.atF at' k]?.getD 0) ∧ Below w.heap.size w w' := by
  have HC : Hid (Ints w ca cl p.costs) := hc
  have HA : Hid (Ints w aa al at') := ha
  have HAT : Hid (∀ k, k < al → 0 ≤ at'[k]?.getD 0) := hat
  clear hc ha hat
  generalize hf : (fun k => p.costs[Num.atF at' k]?.getD 0) = f
  have HF : Hid _ := hf
  clear hf
  obtain ⟨i0, hif, hz0, hz1, hz2⟩ := info_parts Tryz.info64
  have hs0 : (w.alloc (.cells #[.slice ca cl cc, .slice ra rl rc] 25)).heap.size = w.heap.size + 1 := by simp
  go_enter Tryz.func49, Tryz.ntmps49
  go_wp2_with (at_make; refine wpList_make_full _ rfl (.tmp 9) (.tmp 9) 22 rfl (w.heap.size + 1) 2 i0 (.int .i64 0) 1 Tryz.underlying22 hif hz0 hz1 .i64 .i64 _ _ al rfl rfl rfl rfl (by rw [hz2]; omega) (by unfold maxLen; omega) (by simp) ?_; intro w3 hown hgrow; have hb3 := made_below hgrow; have HO : Hid _ := hown; clear hown hgrow)
  have HO3 : Hid (Own w3 (w.heap.size + 1) (w.heap.size + 1) al (Num.fill f al 0)) := Own.made _ (by rw [hs0] at HO; exact HO.out)
  clear HO
  go_loopw [13] (fun i wr => ∃ k : Nat, k ≤ al ∧ i = .int .i64 k ∧ Own wr (w.heap.size + 1) (w.heap.size + 1) al (Num.fill f al k) ∧ Below (w.alloc (.cells #[.slice ca cl cc, .slice ra rl rc] 25)).heap.size (w.alloc (.cells #[.slice ca cl cc, .slice ra rl rc] 25)) wr) (fun i _ => al - (intOf i).toNat)
  case atStart => exact ⟨0, Nat.zero_le _, rfl, HO3.out, hb3⟩
  case round =>
    obtain ⟨k, hk, rfl, hO, hbl⟩ := hrel
    have HO : Hid _ := hO
    clear HO3 hb3
    have hB : Below w.heap.size w wr := binto hbl
    by_cases hlt : k < al
    · rcases (Ints.below HA.out hB (Nat.le_refl _)).2 with h | ⟨b, off, ha, hbs, hc⟩
      · omega
      have hck := hc k hlt
      have h0 := HAT.out k hlt
      clear hc
      obtain ⟨⟨e0, e1⟩, _⟩ := kept2 hbl
      have HE : Hid (p.costs[Num.atF at' k]?.getD 0 = f k) := by rw [← HF.out]; exact rfl
      obtain ⟨j, hj⟩ : ∃ j : Nat, at'[k]?.getD 0 = j := ⟨_, (Int.toNat_of_nonneg h0).symm⟩
      have HJ : Hid (Num.atF at' k = j) := by show (at'[k]?.getD 0).toNat = j; rw [hj]; rfl
      rw [hj] at hck
      clear h0 hj
      obtain ⟨⟨u, u0⟩, u1⟩ := hO.cell' k hlt
      have hg := hO.lt.2
      clear hO
      subst ha
      go_wp2_with fail
      refine (worthC_any _ _ _ _ _ _ p.costs _ (Ints.below HC.out hB (Nat.le_refl _)) j).mono ?_
      rintro e w5 ⟨rfl, hb5⟩
      have HO5 : Hid (Own w5 (w.heap.size + 1) (w.heap.size + 1) al (Num.fill f al k)) := Own.below HO.out hb5 hg
      obtain ⟨⟨v, v0⟩, v1⟩ := HO5.out.cell' k hlt
      have hbl5 := bstep hbl hb5
      clear e0 e1 u0 u1 hb5 hbl
      rw [← HJ.out, HE.out]
      go_wp2_with fail
      go_roundw
      case rel => exact ⟨k + 1, hlt, by go_num, by rw [← Num.fill_set _ _ _ (f k) hlt rfl]; exact Own.store HO5.out k (f k), bset hbl5 (by simp) _⟩
      case measure => simp [intOf]; omega
    · have hke : k = al := by omega
      subst hke
      clear hO
      go_wp2_with fail
      go_ret
      refine ⟨w.heap.size + 1, rfl, by omega, ?_, hB⟩
      rw [← Num.fill_all]
      exact Own.ints HO.out

end Go.Proofs.YtloncgmgcnaalaaGreat
