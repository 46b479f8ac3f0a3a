/- Slices of slices of numbers as lists in memory; what corner.volumeBeside and corner.volume do. -/
import Derived.Test.YtipcbhodlgoflabGreatLayH
import Derived.Test.YtipcbhodlgoflabGreatNum
namespace Go.Proofs.YtipcbhodlgoflabGreat
open Go.RowKit

/-- A slice of so many slices of numbers, which are those of ls. -/
def Lines (w : World) (a : Option Addr) (len : Nat) (ls : List (List Int)) : Prop :=
  len = ls.length ∧ (len = 0 ∨ ∃ b off, a = some ⟨b, off, none⟩ ∧ b < w.heap.size ∧ ∀ j, j < len → ∃ ra rl rc, w.cell? ⟨b, off + j, none⟩ = some (.slice ra rl rc) ∧ Ints w ra rl (ls[j]?.getD []) ∧ rl ≤ rc)

theorem Lines.below {w w' : World} {B : Nat} {a : Option Addr} {len : Nat} {ls : List (List Int)} (h : Lines w a len ls) (hb : Below B w w') (hB : w.heap.size ≤ B) : Lines w' a len ls := by
  obtain ⟨h1, h2⟩ := h
  refine ⟨h1, ?_⟩
  rcases h2 with h2 | ⟨b, off, ha, hs, hc⟩
  · exact Or.inl h2
  · refine Or.inr ⟨b, off, ha, Nat.lt_of_lt_of_le hs hb.size, fun j hj => ?_⟩
    obtain ⟨ra, rl, rc, c0, hi, hr⟩ := hc j hj
    refine ⟨ra, rl, rc, ?_, hi.below hb hB, hr⟩
    rw [hb.cell (p := ⟨b, off + j, none⟩) (Nat.lt_of_lt_of_le hs hB)]; exact c0

theorem Lines.tail {w : World} {a : Option Addr} {len cap : Nat} {l : List Int} {r : List (List Int)} (h : Lines w a len (l :: r)) (hc : len ≤ cap) : Lines w (if cap = 1 then a else a.map (·.add 1)) (len - 1) r := by
  obtain ⟨h1, h2⟩ := h
  rw [List.length_cons] at h1
  refine ⟨by omega, ?_⟩
  by_cases h0 : len - 1 = 0
  · exact Or.inl h0
  · rw [if_neg (by omega)]
    rcases h2 with h2 | ⟨b, off, ha, hs, hc⟩
    · omega
    · refine Or.inr ⟨b, off + 1, by rw [ha]; rfl, hs, fun j hj => ?_⟩
      obtain ⟨ra, rl, rc, c0, hi, hr⟩ := hc (j + 1) (by omega)
      refine ⟨ra, rl, rc, ?_, by simpa using hi, hr⟩
      rw [show off + 1 + j = off + (j + 1) by omega]; exact c0

theorem Lines.head {w : World} {a : Option Addr} {len : Nat} {l : List Int} {r : List (List Int)} (h : Lines w a len (l :: r)) : ∃ b off ra rl rc, a = some ⟨b, off, none⟩ ∧ b < w.heap.size ∧ w.cell? ⟨b, off, none⟩ = some (.slice ra rl rc) ∧ Ints w ra rl l ∧ rl ≤ rc := by
  obtain ⟨h1, h2⟩ := h
  rw [List.length_cons] at h1
  rcases h2 with h2 | ⟨b, off, ha, hs, hc⟩
  · omega
  · obtain ⟨ra, rl, rc, c0, hi, hr⟩ := hc 0 (by omega)
    exact ⟨b, off, ra, rl, rc, ha, hs, c0, by simpa using hi, hr⟩

/-- The places that are taken, of four. -/
def tk (a b c d : Bool) (j : Nat) : Bool := if j = 0 then a else if j = 1 then b else if j = 2 then c else if j = 3 then d else false

theorem tk0 (a b c d : Bool) : Num.mark (tk a b c d) 0 = tk true b c d := by funext j; unfold Num.mark tk; repeat' split <;> simp_all
theorem tk1 (a b c d : Bool) : Num.mark (tk a b c d) 1 = tk a true c d := by funext j; unfold Num.mark tk; repeat' split <;> simp_all
theorem tk2 (a b c d : Bool) : Num.mark (tk a b c d) 2 = tk a b true d := by funext j; unfold Num.mark tk; repeat' split <;> simp_all
theorem tk3 (a b c d : Bool) : Num.mark (tk a b c d) 3 = tk a b c true := by funext j; unfold Num.mark tk; repeat' split <;> simp_all
theorem tk_none : tk false false false false = Num.none4 := by funext j; unfold Num.none4 tk; simp

theorem volSum_skip (f : Nat → Int) (l : List Int) (t : Nat → Bool) (k : Nat) (h : t k = true) : Num.volSum f l t (k + 1) = Num.volSum f l t k := by
  show (if t k then _ else _) = _
  rw [h]; rfl
theorem volSum_add (f : Nat → Int) (l : List Int) (t : Nat → Bool) (k : Nat) (h : t k = false) : Num.volSum f l t (k + 1) = ((Num.volSum f l t k).1 + (Num.volSum f l t k).2 * l[k]?.getD 0 * f k, -(Num.volSum f l t k).2) := by
  show (if t k then _ else _) = _
  rw [h]; rfl

/-- A box of four cells. -/
theorem box4 {w w1 : World} {a b c d : Value} {t : TypeId} (hb : Below (w.alloc (.cells #[a, b, c, d] t)).heap.size (w.alloc (.cells #[a, b, c, d] t)) w1) :
    w1.cell? ⟨w.heap.size, 0, none⟩ = some a ∧ w1.cell? ⟨w.heap.size, 1, none⟩ = some b ∧ w1.cell? ⟨w.heap.size, 2, none⟩ = some c ∧ w1.cell? ⟨w.heap.size, 3, none⟩ = some d ∧ w.heap.size < w1.heap.size ∧ Below w.heap.size w w1 := by
  refine ⟨?_, ?_, ?_, ?_, ?_, ?_⟩
  · rw [hb.cell (by simp)]; go_simp
  · rw [hb.cell (by simp)]; go_simp
  · rw [hb.cell (by simp)]; go_simp
  · rw [hb.cell (by simp)]; go_simp
  · have := hb.size; simp at this; omega
  · exact binto hb

set_option maxHeartbeats 1600000 in
theorem volB_any (ls : List (List Int)) : ∀ (a : Option Addr) (len cap : Nat) (w : World) (t0 t1 t2 t3 : Bool), Lines w a len ls → len ≤ cap → len ≤ 4 → (∀ l ∈ ls, l.length ≤ 4) → Num.BdL 400 ls →
    Calls Tryz.prog 82 #[.slice a len cap, .agg #[.bool t0, .bool t1, .bool t2, .bool t3]] w fun e w' => e = .returned (.int .i64 (Num.vol ls (tk t0 t1 t2 t3))) ∧ Below w.heap.size w w' := by
  induction ls with
  | nil =>
    intro a len cap w t0 t1 t2 t3 hl hc h4 hb hB
    obtain rfl : len = 0 := hl.1
    go_enter Tryz.func82, Tryz.ntmps82
    go_wp2_with fail
    go_ret
    exact ⟨rfl, balloc _ _⟩
  | cons l r ih =>
    intro a len cap w t0 t1 t2 t3 hl hc h4 hb hB
    have hlen : len = r.length + 1 := hl.1
    obtain ⟨b, off, ra, rl, rc, ha, hbs, c0, hi, hrc⟩ := hl.head
    have HT : Hid (Lines w (if cap = 1 then a else a.map (·.add 1)) (len - 1) r) := hl.tail hc
    have HI : Hid (Ints w ra rl l) := hi
    have HL : Hid (rl = l.length) := hi.1
    have h4l : rl ≤ 4 := by have := hi.1; have := hb l List.mem_cons_self; omega
    have HH : Hid (∀ j : Nat, -400 ≤ l[j]?.getD 0 ∧ l[j]?.getD 0 ≤ 400) := hB.head
    have HV : Hid (∀ t, -6553600000000 ≤ Num.vol r t ∧ Num.vol r t ≤ 6553600000000) := fun t => Num.vol_bd' r t hB.tail (fun x hx => hb x (List.mem_cons_of_mem _ hx)) (by omega)
    have KC : Hid (∀ (w' : World) (t0 t1 t2 t3 : Bool), Below w.heap.size w w' → Calls Tryz.prog 82 #[.slice (if cap = 1 then a else a.map (·.add 1)) (len - 1) (cap - 1), .agg #[.bool t0, .bool t1, .bool t2, .bool t3]] w' fun e w'' => e = .returned (.int .i64 (Num.vol r (tk t0 t1 t2 t3))) ∧ Below w'.heap.size w' w'') :=
      fun w' t0 t1 t2 t3 hw => ih _ _ _ w' t0 t1 t2 t3 (Lines.below HT.out hw (Nat.le_refl _)) (by omega) (by omega) (fun x hx => hb x (List.mem_cons_of_mem _ hx)) hB.tail
    have HE : Hid (Num.vol (l :: r) (tk t0 t1 t2 t3) = (Num.volSum (fun i => Num.vol r (Num.mark (tk t0 t1 t2 t3) i)) l (tk t0 t1 t2 t3) rl).1) := by have := HL.out; rw [this]; exact rfl
    have HSB : Hid (∀ k : Nat, k ≤ 4 → -10485760000000000 ≤ (Num.volSum (fun i => Num.vol r (Num.mark (tk t0 t1 t2 t3) i)) l (tk t0 t1 t2 t3) k).1 ∧ (Num.volSum (fun i => Num.vol r (Num.mark (tk t0 t1 t2 t3) i)) l (tk t0 t1 t2 t3) k).1 ≤ 10485760000000000) := by
      intro k hk
      have := Num.volSum_bd (fun i => Num.vol r (Num.mark (tk t0 t1 t2 t3) i)) l (tk t0 t1 t2 t3) 400 6553600000000 HH.out (fun j => HV.out _) k
      omega
    generalize hf : (fun i => Num.vol r (Num.mark (tk t0 t1 t2 t3) i)) = f at *
    have HF : Hid _ := hf
    have HBD : Hid _ := hB
    clear hl hi hb hB ih hf
    subst ha
    go_enter Tryz.func82, Tryz.ntmps82
    go_wp2_with fail
    go_loopw [5, 6, 17] (fun s g i wr => ∃ k : Nat, k ≤ rl ∧ i = .int .i64 k ∧ s = .int .i64 (Num.volSum f l (tk t0 t1 t2 t3) k).1 ∧ g = .int .i64 (Num.volSum f l (tk t0 t1 t2 t3) k).2 ∧
      Below (w.alloc (.cells #[.bool t0, .bool t1, .bool t2, .bool t3] 141)).heap.size (w.alloc (.cells #[.bool t0, .bool t1, .bool t2, .bool t3] 141)) wr) (fun _ _ i _ => rl - (intOf i).toNat)
    case atStart => exact ⟨0, Nat.zero_le _, rfl, rfl, rfl, Below.refl _ _⟩
    case round =>
      obtain ⟨k, hk, rfl, rfl, rfl, hbl⟩ := hrel
      obtain ⟨e0, e1, e2, e3, hsz, hB2⟩ := box4 hbl
      by_cases hlt : k < rl
      · rcases (Ints.below HI.out hB2 (Nat.le_refl _)).2 with h | ⟨b1, o1, ha, hb1, hc1⟩
        · omega
        have hck := hc1 k hlt
        clear hc1
        subst ha
        have hx := HH.out k
        have hs := HSB.out k (by omega)
        have hg := Num.volSum_sign f l (tk t0 t1 t2 t3) k
        have hfk : Num.vol r (Num.mark (tk t0 t1 t2 t3) k) = f k := by rw [← HF.out]
        have hfb := HV.out (Num.mark (tk t0 t1 t2 t3) k)
        have HSA : Hid (_ → _) := volSum_add f l (tk t0 t1 t2 t3) k
        rw [hfk] at hfb
        have HFK : Hid _ := hfk
        clear hfk
        generalize l[k]?.getD 0 = x at *
        generalize f k = v at *
        have HSK1 : Hid (tk t0 t1 t2 t3 k = true → (Num.volSum f l (tk t0 t1 t2 t3) (k + 1)).1 = (Num.volSum f l (tk t0 t1 t2 t3) k).1) := fun h => by rw [volSum_skip _ _ _ _ h]
        have HSK2 : Hid (tk t0 t1 t2 t3 k = true → (Num.volSum f l (tk t0 t1 t2 t3) (k + 1)).2 = (Num.volSum f l (tk t0 t1 t2 t3) k).2) := fun h => by rw [volSum_skip _ _ _ _ h]
        generalize (Num.volSum f l (tk t0 t1 t2 t3) k).1 = s at *
        generalize (Num.volSum f l (tk t0 t1 t2 t3) k).2 = g at *
        have hgx : -400 ≤ g * x ∧ g * x ≤ 400 := by rcases hg with rfl | rfl <;> omega
        have hgv := Num.mul_bd2 (g * x) v 400 6553600000000 hgx hfb
        simp only [show (400 : Int) * 6553600000000 = 2621440000000000 from rfl] at hgv
        have w1 : wrap64 (g * x) = g * x := IntWalk.wrap64_in _ (by omega)
        have w2 : wrap64 (g * x * v) = g * x * v := IntWalk.wrap64_in _ (by omega)
        have w3 : wrap64 (s + g * x * v) = s + g * x * v := IntWalk.wrap64_in _ (by omega)
        have w4 : wrap64 (-g) = -g := IntWalk.wrap64_in _ (by omega)
        clear hgx hgv hs hg hfb hx
        rcases (by omega : k = 0 ∨ k = 1 ∨ k = 2 ∨ k = 3) with rfl | rfl | rfl | rfl
        · rw [Nat.add_zero] at hck
          simp only [Int.natCast_zero]
          cases t0 with
          | true =>
            go_wp2_with fail
            go_roundw
            case rel => exact ⟨1, hlt, by go_num, by rw [HSK1.out rfl], by rw [HSK2.out rfl], hbl⟩
            case measure => simp [intOf]; omega
          | false =>
            go_wp2_with fail
            obtain ⟨d0, d1, d2, d3, dz, _⟩ := box4 (Below.refl (wr.alloc (.cells #[.bool true, .bool t1, .bool t2, .bool t3] 141)).heap.size (wr.alloc (.cells #[.bool true, .bool t1, .bool t2, .bool t3] 141)))
            have q0 := later_cell d0 dz
            have q1 := later_cell d1 dz
            have q2 := later_cell d2 dz
            have q3 := later_cell d3 dz
            have hBV : Below w.heap.size w (wr.alloc (.cells #[.bool true, .bool t1, .bool t2, .bool t3] 141)) := bstep hB2 (balloc _ _)
            have hBL := bstep hbl (balloc wr (.cells #[.bool true, .bool t1, .bool t2, .bool t3] 141))
            clear d0 d1 d2 d3 dz e0 e1 e2 e3
            generalize wr.alloc (.cells #[.bool true, .bool t1, .bool t2, .bool t3] 141) = V at *
            have hne := later_some V
            have KT : Hid (∀ n : Later V, Calls Tryz.prog 82 #[.slice (if cap = 1 then some ⟨b, off, none⟩ else some ⟨b, off + 1, none⟩) r.length (cap - 1), .agg #[.bool true, .bool t1, .bool t2, .bool t3]] n.w fun e w' => e = .returned (.int .i64 v) ∧ Below n.w.heap.size n.w w') := by
              intro n
              have := KC.out n.w true t1 t2 t3 (bstep hBV n.ok)
              rw [← tk0 false t1 t2 t3, HFK.out, show len - 1 = r.length by omega] at this
              exact this
            refine wp_region_later (by kernel_rfl) (by kernel_rfl) ?_
            repeat (go_big_quiet_step ((go_at_call 82; exact calls_later (KT.out _))))
            refine wpQuiet_nil ?_
            rintro w5 ⟨n5, rfl⟩
            clear q0 q1 q2 q3
            go_wp2_with fail
            go_roundw
            case rel => exact ⟨1, hlt, by go_num, by rw [HSA.out rfl, w3], by rw [HSA.out rfl, w4], bstep hBL n5.ok⟩
            case measure => simp [intOf]; omega
        · skip
          simp only [Int.natCast_one]
          cases t1 with
          | true =>
            go_wp2_with fail
            go_roundw
            case rel => exact ⟨2, hlt, by go_num, by rw [HSK1.out rfl], by rw [HSK2.out rfl], hbl⟩
            case measure => simp [intOf]; omega
          | false =>
            go_wp2_with fail
            obtain ⟨d0, d1, d2, d3, dz, _⟩ := box4 (Below.refl (wr.alloc (.cells #[.bool t0, .bool true, .bool t2, .bool t3] 141)).heap.size (wr.alloc (.cells #[.bool t0, .bool true, .bool t2, .bool t3] 141)))
            have q0 := later_cell d0 dz
            have q1 := later_cell d1 dz
            have q2 := later_cell d2 dz
            have q3 := later_cell d3 dz
            have hBV : Below w.heap.size w (wr.alloc (.cells #[.bool t0, .bool true, .bool t2, .bool t3] 141)) := bstep hB2 (balloc _ _)
            have hBL := bstep hbl (balloc wr (.cells #[.bool t0, .bool true, .bool t2, .bool t3] 141))
            clear d0 d1 d2 d3 dz e0 e1 e2 e3
            generalize wr.alloc (.cells #[.bool t0, .bool true, .bool t2, .bool t3] 141) = V at *
            have hne := later_some V
            have KT : Hid (∀ n : Later V, Calls Tryz.prog 82 #[.slice (if cap = 1 then some ⟨b, off, none⟩ else some ⟨b, off + 1, none⟩) r.length (cap - 1), .agg #[.bool t0, .bool true, .bool t2, .bool t3]] n.w fun e w' => e = .returned (.int .i64 v) ∧ Below n.w.heap.size n.w w') := by
              intro n
              have := KC.out n.w t0 true t2 t3 (bstep hBV n.ok)
              rw [← tk1 t0 false t2 t3, HFK.out, show len - 1 = r.length by omega] at this
              exact this
            refine wp_region_later (by kernel_rfl) (by kernel_rfl) ?_
            repeat (go_big_quiet_step ((go_at_call 82; exact calls_later (KT.out _))))
            refine wpQuiet_nil ?_
            rintro w5 ⟨n5, rfl⟩
            clear q0 q1 q2 q3
            go_wp2_with fail
            go_roundw
            case rel => exact ⟨2, hlt, by go_num, by rw [HSA.out rfl, w3], by rw [HSA.out rfl, w4], bstep hBL n5.ok⟩
            case measure => simp [intOf]; omega
        · skip
          simp only [show ((2 : Nat) : Int) = 2 from rfl]
          cases t2 with
          | true =>
            go_wp2_with fail
            go_roundw
            case rel => exact ⟨3, hlt, by go_num, by rw [HSK1.out rfl], by rw [HSK2.out rfl], hbl⟩
            case measure => simp [intOf]; omega
          | false =>
            go_wp2_with fail
            obtain ⟨d0, d1, d2, d3, dz, _⟩ := box4 (Below.refl (wr.alloc (.cells #[.bool t0, .bool t1, .bool true, .bool t3] 141)).heap.size (wr.alloc (.cells #[.bool t0, .bool t1, .bool true, .bool t3] 141)))
            have q0 := later_cell d0 dz
            have q1 := later_cell d1 dz
            have q2 := later_cell d2 dz
            have q3 := later_cell d3 dz
            have hBV : Below w.heap.size w (wr.alloc (.cells #[.bool t0, .bool t1, .bool true, .bool t3] 141)) := bstep hB2 (balloc _ _)
            have hBL := bstep hbl (balloc wr (.cells #[.bool t0, .bool t1, .bool true, .bool t3] 141))
            clear d0 d1 d2 d3 dz e0 e1 e2 e3
            generalize wr.alloc (.cells #[.bool t0, .bool t1, .bool true, .bool t3] 141) = V at *
            have hne := later_some V
            have KT : Hid (∀ n : Later V, Calls Tryz.prog 82 #[.slice (if cap = 1 then some ⟨b, off, none⟩ else some ⟨b, off + 1, none⟩) r.length (cap - 1), .agg #[.bool t0, .bool t1, .bool true, .bool t3]] n.w fun e w' => e = .returned (.int .i64 v) ∧ Below n.w.heap.size n.w w') := by
              intro n
              have := KC.out n.w t0 t1 true t3 (bstep hBV n.ok)
              rw [← tk2 t0 t1 false t3, HFK.out, show len - 1 = r.length by omega] at this
              exact this
            refine wp_region_later (by kernel_rfl) (by kernel_rfl) ?_
            repeat (go_big_quiet_step ((go_at_call 82; exact calls_later (KT.out _))))
            refine wpQuiet_nil ?_
            rintro w5 ⟨n5, rfl⟩
            clear q0 q1 q2 q3
            go_wp2_with fail
            go_roundw
            case rel => exact ⟨3, hlt, by go_num, by rw [HSA.out rfl, w3], by rw [HSA.out rfl, w4], bstep hBL n5.ok⟩
            case measure => simp [intOf]; omega
        · skip
          simp only [show ((3 : Nat) : Int) = 3 from rfl]
          cases t3 with
          | true =>
            go_wp2_with fail
            go_roundw
            case rel => exact ⟨4, hlt, by go_num, by rw [HSK1.out rfl], by rw [HSK2.out rfl], hbl⟩
            case measure => simp [intOf]; omega
          | false =>
            go_wp2_with fail
            obtain ⟨d0, d1, d2, d3, dz, _⟩ := box4 (Below.refl (wr.alloc (.cells #[.bool t0, .bool t1, .bool t2, .bool true] 141)).heap.size (wr.alloc (.cells #[.bool t0, .bool t1, .bool t2, .bool true] 141)))
            have q0 := later_cell d0 dz
            have q1 := later_cell d1 dz
            have q2 := later_cell d2 dz
            have q3 := later_cell d3 dz
            have hBV : Below w.heap.size w (wr.alloc (.cells #[.bool t0, .bool t1, .bool t2, .bool true] 141)) := bstep hB2 (balloc _ _)
            have hBL := bstep hbl (balloc wr (.cells #[.bool t0, .bool t1, .bool t2, .bool true] 141))
            clear d0 d1 d2 d3 dz e0 e1 e2 e3
            generalize wr.alloc (.cells #[.bool t0, .bool t1, .bool t2, .bool true] 141) = V at *
            have hne := later_some V
            have KT : Hid (∀ n : Later V, Calls Tryz.prog 82 #[.slice (if cap = 1 then some ⟨b, off, none⟩ else some ⟨b, off + 1, none⟩) r.length (cap - 1), .agg #[.bool t0, .bool t1, .bool t2, .bool true]] n.w fun e w' => e = .returned (.int .i64 v) ∧ Below n.w.heap.size n.w w') := by
              intro n
              have := KC.out n.w t0 t1 t2 true (bstep hBV n.ok)
              rw [← tk3 t0 t1 t2 false, HFK.out, show len - 1 = r.length by omega] at this
              exact this
            refine wp_region_later (by kernel_rfl) (by kernel_rfl) ?_
            repeat (go_big_quiet_step ((go_at_call 82; exact calls_later (KT.out _))))
            refine wpQuiet_nil ?_
            rintro w5 ⟨n5, rfl⟩
            clear q0 q1 q2 q3
            go_wp2_with fail
            go_roundw
            case rel => exact ⟨4, hlt, by go_num, by rw [HSA.out rfl, w3], by rw [HSA.out rfl, w4], bstep hBL n5.ok⟩
            case measure => simp [intOf]; omega
      · go_wp2_with fail
        go_ret
        have hke : k = rl := by omega
        subst hke
        exact ⟨ret_int HE.out.symm, hB2⟩

set_option maxHeartbeats 400000 in
theorem volume_any (ls : List (List Int)) (a : Option Addr) (len cap : Nat) (w : World) (hl : Lines w a len ls) (hc : len ≤ cap) (h4 : len ≤ 4) (hb : ∀ l ∈ ls, l.length ≤ 4) (hB : Num.BdL 400 ls) :
    Calls Tryz.prog 47 #[.slice a len cap] w fun e w' => e = .returned (.int .i64 (Num.vol ls Num.none4)) ∧ Below w.heap.size w w' := by
  have K : Hid (Calls Tryz.prog 82 #[.slice a len cap, .agg #[.bool false, .bool false, .bool false, .bool false]] w fun e w' => e = .returned (.int .i64 (Num.vol ls Num.none4)) ∧ Below w.heap.size w w') := by
    rw [← tk_none]
    exact volB_any ls a len cap w _ _ _ _ hl hc h4 hb hB
  clear hl hb hB
  go_enter Tryz.func47, Tryz.ntmps47
  go_wp2_with fail
  refine K.out.mono ?_
  rintro e w' ⟨rfl, hb⟩
  go_wp2_with fail
  go_ret
  exact ⟨rfl, hb⟩

end Go.Proofs.YtipcbhodlgoflabGreat

/- Slices that a function makes and fills; what corner.width, worth, mosts and worths do. -/
namespace Go.Proofs.YtipcbhodlgoflabGreat
open Go.RowKit

namespace Num

/-- The first k of n numbers, the others being 0. -/
def fill (f : Nat → Int) (n k : Nat) : List Int := (List.range n).map fun j => if j < k then f j else 0

theorem fill_zero (f : Nat → Int) (n : Nat) : fill f n 0 = List.replicate n 0 := by
  unfold fill
  apply List.ext_getElem?
  intro j
  simp [List.getElem?_replicate]
  by_cases h : j < n <;> simp [h]

theorem fill_all (f : Nat → Int) (n : Nat) : fill f n n = (List.range n).map f := by
  unfold fill
  apply List.map_congr_left
  intro j hj
  simp at hj
  simp [hj]

theorem fill_len (f : Nat → Int) (n k : Nat) : (fill f n k).length = n := by simp [fill]

theorem fill_set (f : Nat → Int) (n k : Nat) (v : Int) (h : k < n) (hv : v = f k) : (fill f n k).set k v = fill f n (k + 1) := by
  subst hv
  unfold fill
  apply List.ext_getElem?
  intro j
  rw [List.getElem?_set]
  by_cases hj : k = j
  · subst hj; simp [h]
  · rw [if_neg hj]
    by_cases hn : j < n
    · simp [hn]
      by_cases hk : j < k
      · rw [if_pos hk, if_pos (by omega)]
      · rw [if_neg hk, if_neg (by omega)]
    · rw [List.getElem?_eq_none (by simp; omega), List.getElem?_eq_none (by simp; omega)]

theorem fill_skip (f : Nat → Int) (n k : Nat) (hv : f k = 0) : fill f n k = fill f n (k + 1) := by
  unfold fill
  apply List.map_congr_left
  intro j _
  by_cases hk : j = k
  · subst hk; simp [hv]
  · by_cases h : j < k
    · rw [if_pos h, if_pos (by omega)]
    · rw [if_neg h, if_neg (by omega)]

theorem range_getD (f : Nat → Int) (n j : Nat) : ((List.range n).map f)[j]?.getD 0 = if j < n then f j else 0 := by
  rw [List.getElem?_map]
  by_cases h : j < n
  · simp [h]
  · rw [List.getElem?_eq_none (by simp; omega)]; simp [h]

end Num

/-- A slice of the call's own: n numbers, which are those of l. -/
def Own (w : World) (base g n : Nat) (l : List Int) : Prop := w.ownsRow base 2 1 (.slice (some ⟨g, 0, none⟩) n n) n (l.map (Value.int .i64))

theorem Own.made {w : World} {base g n : Nat} (f : Nat → Int) (h : w.ownsRow base 2 1 (.slice (some ⟨g, 0, none⟩) n n) n (madeCells (Value.int .i64 0).cells (n * 1)).toList) : Own w base g n (Num.fill f n 0) := by
  unfold Own
  rw [Num.fill_zero, List.map_replicate]
  have e : (madeCells (Value.int .i64 0).cells (n * 1)).toList = List.replicate n (Value.int .i64 0) := by rw [Nat.mul_one]; exact toList_madeCells_one _ _
  rw [e] at h
  exact h

theorem Own.len {w : World} {base g n : Nat} {l : List Int} (h : Own w base g n l) : l.length = n := by simpa using h.1

theorem Own.cell {w : World} {base g n : Nat} {l : List Int} (h : Own w base g n l) (k : Nat) (hk : k < n) : w.cell? ⟨g, k, none⟩ = some (.int .i64 (l[k]?.getD 0)) ∧ w.frozen? ⟨g, k, none⟩ = false := by
  refine ⟨?_, World.ownsRow.frozenAt h k⟩
  have := World.ownsRow.cellAt h k (by omega)
  rw [this, List.getElem?_map, List.getElem?_eq_getElem (by have := h.len; omega)]
  simp

theorem Own.cell' {w : World} {base g n : Nat} {l : List Int} (h : Own w base g n l) (k : Nat) (hk : k < n) : (∃ u, w.cell? ⟨g, k, none⟩ = some u) ∧ w.frozen? ⟨g, k, none⟩ = false := ⟨⟨_, (h.cell k hk).1⟩, (h.cell k hk).2⟩

theorem Own.store {w : World} {base g n : Nat} {l : List Int} (h : Own w base g n l) (k : Nat) (v : Int) : Own (w.setCell ⟨g, k, none⟩ (.int .i64 v)) base g n (l.set k v) := by
  unfold Own
  rw [List.map_set]
  exact (World.ownsRow.stored h k (.int .i64 v)).1

theorem Own.lt {w : World} {base g n : Nat} {l : List Int} (h : Own w base g n l) : base ≤ g ∧ g < w.heap.size := World.ownsRow.lt h g rfl

theorem own_below {w w' : World} {base n : Nat} {t : TypeId} {g c : Nat} {xs : List Value} (h : w.ownsRow base t 1 (.slice (some ⟨g, 0, none⟩) n c) n xs) {B : Nat} (hb : Below B w w') (hB : g < B) : w'.ownsRow base t 1 (.slice (some ⟨g, 0, none⟩) n c) n xs := by
  refine ⟨h.1, ?_⟩
  rcases h.2 with ⟨h2, _⟩ | ⟨g', cap, cur, e, h3, h4, h5⟩
  · cases h2
  · refine Or.inr ⟨g', cap, cur, e, h3, ?_, h5⟩
    simp only [Value.slice.injEq, Option.some.injEq, Addr.mk.injEq] at e
    rw [hb.block g' (by omega)]
    exact h4

theorem Own.below {w w' : World} {base g n : Nat} {l : List Int} (h : Own w base g n l) {B : Nat} (hb : Below B w w') (hB : g < B) : Own w' base g n l := own_below h hb hB

theorem Own.alloc {w : World} {base g n : Nat} {l : List Int} (h : Own w base g n l) (o : Obj) : Own (w.alloc o) base g n l := h.below (balloc _ _) h.lt.2

theorem Own.ints {w : World} {base g n : Nat} {l : List Int} (h : Own w base g n l) : Ints w (some ⟨g, 0, none⟩) n l :=
  ⟨h.len.symm, Or.inr ⟨g, 0, rfl, h.lt.2, fun j hj => by rw [Nat.zero_add]; exact (h.cell j hj).1⟩⟩

/-- A store into a block from B on. -/
theorem bset {B : Nat} {a w : World} (h : Below B a w) {g k : Nat} (hg : B ≤ g) (v : Value) : Below B a (w.setCell ⟨g, k, none⟩ v) := h.setCell hg v

theorem made_below {w w' : World} (h : w.grownBy w' none) : Below w.heap.size w w' := (Below.refl _ _).grown h (Nat.le_refl _) (fun _ hk => by cases hk)

set_option maxHeartbeats 400000 in
theorem width_any (ca : Option Addr) (cl cc : Nat) (ra : Option Addr) (rl rc : Nat) (w : World) (N : Nat) (hN : cl + rl = N) (h : N ≤ 8) :
    Calls Tryz.prog 27 #[.agg #[.slice ca cl cc, .slice ra rl rc]] w fun e w' => e = .returned (.int .i64 N) ∧ Below w.heap.size w w' := by
  have HN : Hid ((cl : Int) + rl = N) := by show (cl : Int) + rl = N; omega
  have h' : cl + rl ≤ 8 := by omega
  clear hN
  go_enter Tryz.func27, Tryz.ntmps27
  go_wp2_with fail
  go_ret
  exact ⟨ret_int HN.out, balloc _ _⟩

set_option maxHeartbeats 400000 in
theorem worthC_any (ca : Option Addr) (cl cc : Nat) (ra : Option Addr) (rl rc : Nat) (costs : List Int) (w : World) (hc : Ints w ca cl costs) (j : Nat) :
    Calls Tryz.prog 84 #[.agg #[.slice ca cl cc, .slice ra rl rc], .int .i64 j] w fun e w' => e = .returned (.int .i64 (costs[j]?.getD 0)) ∧ Below w.heap.size w w' := by
  have HL : Hid (cl = costs.length) := hc.1
  by_cases hj : (j : Int) < cl
  · rcases (Ints.below hc (balloc w (.cells #[.slice ca cl cc, .slice ra rl rc] 25)) (Nat.le_refl _)).2 with hi | ⟨b, off, ha, hb, hcc⟩
    · omega
    have hck := hcc j (by omega)
    clear hcc
    generalize costs[j]?.getD 0 = x at *
    clear hc
    subst ha
    go_enter Tryz.func84, Tryz.ntmps84
    go_wp2_with fail
    go_ret
    exact ⟨rfl, balloc _ _⟩
  · have hj' : decide ((j : Int) < cl) = false := by simpa using hj
    have HZ : Hid (costs[j]?.getD 0 = 0) := by have := HL.out; show costs[j]?.getD 0 = 0; rw [List.getElem?_eq_none (by omega)]; rfl
    clear hc
    go_enter Tryz.func84, Tryz.ntmps84
    go_wp2_with fail
    go_ret
    exact ⟨ret_int HZ.out.symm, balloc _ _⟩

def Num.mostF (p : Num.Lp) (i : Nat) : Int := (p.rows[i]?.getD ([], 0)).2

set_option maxHeartbeats 800000 in
theorem mosts_any (ca : Option Addr) (cl cc : Nat) (ra : Option Addr) (rl rc : Nat) (p : Num.Lp) (w : World) (hr : RowsAt w ra rl p.rows) (h4 : rl ≤ 4) :
    Calls Tryz.prog 52 #[.agg #[.slice ca cl cc, .slice ra rl rc]] w fun e w' => ∃ g, e = .returned (.slice (some ⟨g, 0, none⟩) rl rl) ∧ w.heap.size ≤ g ∧ Ints w' (some ⟨g, 0, none⟩) rl ((List.range rl).map (Num.mostF p)) ∧ Below w.heap.size w w' := by
  have HR : Hid (RowsAt w ra rl p.rows) := hr
  clear hr
  obtain ⟨i0, hif, hz0, hz1, hz2⟩ := info_parts Tryz.info64
  have hB0 := balloc w (.cells #[.slice ca cl cc, .slice ra rl rc] 25)
  have hc2 := cell_new2 (w := w) rfl (.slice ca cl cc) (.slice ra rl rc) 25
  have hs0 : (w.alloc (.cells #[.slice ca cl cc, .slice ra rl rc] 25)).heap.size = w.heap.size + 1 := by simp
  go_enter Tryz.func52, Tryz.ntmps52
  go_wp2_with (at_make; refine wpList_make_full _ rfl (.tmp 8) (.tmp 8) 22 rfl (w.heap.size + 1) 2 i0 (.int .i64 0) 1 Tryz.underlying22 hif hz0 hz1 .i64 .i64 _ _ rl rfl rfl rfl rfl (by rw [hz2]; omega) (by unfold maxLen; omega) (by simp) ?_; intro w3 hown hgrow; have hb3 := made_below hgrow; obtain ⟨⟨k0, k1⟩, _⟩ := kept2 hb3; have HO : Hid _ := hown; clear hown hgrow)
  have HO3 : Hid (Own w3 (w.heap.size + 1) (w.heap.size + 1) rl (Num.fill (Num.mostF p) rl 0)) := Own.made _ (by rw [hs0] at HO; exact HO.out)
  clear HO
  go_loopw [13] (fun i wr => ∃ k : Nat, k ≤ rl ∧ i = .int .i64 k ∧ Own wr (w.heap.size + 1) (w.heap.size + 1) rl (Num.fill (Num.mostF p) rl k) ∧ Below (w.alloc (.cells #[.slice ca cl cc, .slice ra rl rc] 25)).heap.size (w.alloc (.cells #[.slice ca cl cc, .slice ra rl rc] 25)) wr) (fun i _ => rl - (intOf i).toNat)
  case atStart => exact ⟨0, Nat.zero_le _, rfl, HO3.out, hb3⟩
  case round =>
    obtain ⟨k, hk, rfl, hO, hbl⟩ := hrel
    have HO : Hid _ := hO
    clear HO3 hb3 k0 k1
    have hB : Below w.heap.size w wr := binto hbl
    by_cases hlt : k < rl
    · rcases (RowsAt.below HR.out hB (Nat.le_refl _)).2 with h | ⟨b, off, ha, hbs, hc⟩
      · omega
      obtain ⟨xa, xl, xc, c0, c1, hx, hxl⟩ := hc k hlt
      clear hc hx
      obtain ⟨⟨u, u0⟩, u1⟩ := hO.cell' k hlt
      have hg := hO.lt.2
      clear hO
      have HE : Hid ((p.rows[k]?.getD ([], 0)).2 = Num.mostF p k) := rfl
      generalize (p.rows[k]?.getD ([], 0)).2 = x at *
      subst ha
      go_wp2_with fail
      go_roundw
      case rel => exact ⟨k + 1, hlt, by go_num, by rw [← Num.fill_set _ _ _ x hlt HE.out]; exact (Own.store HO.out k x).alloc _, bstep (bset hbl (by simp) _) (balloc _ _)⟩
      case measure => simp [intOf]; omega
    · have hke : k = rl := by omega
      subst hke
      clear hO
      go_wp2_with fail
      go_ret
      refine ⟨w.heap.size + 1, rfl, by omega, ?_, hB⟩
      rw [← Num.fill_all]
      exact Own.ints HO.out

def Num.atF (at' : List Int) (k : Nat) : Nat := (at'[k]?.getD 0).toNat

set_option maxHeartbeats 800000 in
theorem worths_any (ca : Option Addr) (cl cc : Nat) (ra : Option Addr) (rl rc : Nat) (p : Num.Lp) (w : World) (hc : Ints w ca cl p.costs) (aa : Option Addr) (al ac : Nat) (at' : List Int) (ha : Ints w aa al at')
    (h4 : al ≤ 4) (hat : ∀ k, k < al → 0 ≤ at'[k]?.getD 0) :
    Calls Tryz.prog 50 #[.agg #[.slice ca cl cc, .slice ra rl rc], .slice aa al ac] w fun e w' => ∃ g, e = .returned (.slice (some ⟨g, 0, none⟩) al al) ∧ w.heap.size ≤ g ∧
      Ints w' (some ⟨g, 0, none⟩) al ((List.range al).map fun k => p.costs[Num.atF at' k]?.getD 0) ∧ Below w.heap.size w w' := by
  have HC : Hid (Ints w ca cl p.costs) := hc
  have HA : Hid (Ints w aa al at') := ha
  have HAT : Hid (∀ k, k < al → 0 ≤ at'[k]?.getD 0) := hat
  clear hc ha hat
  generalize hf : (fun k => p.costs[Num.atF at' k]?.getD 0) = f
  have HF : Hid _ := hf
  clear hf
  obtain ⟨i0, hif, hz0, hz1, hz2⟩ := info_parts Tryz.info64
  have hs0 : (w.alloc (.cells #[.slice ca cl cc, .slice ra rl rc] 25)).heap.size = w.heap.size + 1 := by simp
  go_enter Tryz.func50, Tryz.ntmps50
  go_wp2_with (at_make; refine wpList_make_full _ rfl (.tmp 9) (.tmp 9) 22 rfl (w.heap.size + 1) 2 i0 (.int .i64 0) 1 Tryz.underlying22 hif hz0 hz1 .i64 .i64 _ _ al rfl rfl rfl rfl (by rw [hz2]; omega) (by unfold maxLen; omega) (by simp) ?_; intro w3 hown hgrow; have hb3 := made_below hgrow; have HO : Hid _ := hown; clear hown hgrow)
  have HO3 : Hid (Own w3 (w.heap.size + 1) (w.heap.size + 1) al (Num.fill f al 0)) := Own.made _ (by rw [hs0] at HO; exact HO.out)
  clear HO
  go_loopw [13] (fun i wr => ∃ k : Nat, k ≤ al ∧ i = .int .i64 k ∧ Own wr (w.heap.size + 1) (w.heap.size + 1) al (Num.fill f al k) ∧ Below (w.alloc (.cells #[.slice ca cl cc, .slice ra rl rc] 25)).heap.size (w.alloc (.cells #[.slice ca cl cc, .slice ra rl rc] 25)) wr) (fun i _ => al - (intOf i).toNat)
  case atStart => exact ⟨0, Nat.zero_le _, rfl, HO3.out, hb3⟩
  case round =>
    obtain ⟨k, hk, rfl, hO, hbl⟩ := hrel
    have HO : Hid _ := hO
    clear HO3 hb3
    have hB : Below w.heap.size w wr := binto hbl
    by_cases hlt : k < al
    · rcases (Ints.below HA.out hB (Nat.le_refl _)).2 with h | ⟨b, off, ha, hbs, hc⟩
      · omega
      have hck := hc k hlt
      have h0 := HAT.out k hlt
      clear hc
      obtain ⟨⟨e0, e1⟩, _⟩ := kept2 hbl
      have HE : Hid (p.costs[Num.atF at' k]?.getD 0 = f k) := by rw [← HF.out]; exact rfl
      obtain ⟨j, hj⟩ : ∃ j : Nat, at'[k]?.getD 0 = j := ⟨_, (Int.toNat_of_nonneg h0).symm⟩
      have HJ : Hid (Num.atF at' k = j) := by show (at'[k]?.getD 0).toNat = j; rw [hj]; rfl
      rw [hj] at hck
      clear h0 hj
      obtain ⟨⟨u, u0⟩, u1⟩ := hO.cell' k hlt
      have hg := hO.lt.2
      clear hO
      subst ha
      go_wp2_with fail
      refine (worthC_any _ _ _ _ _ _ p.costs _ (Ints.below HC.out hB (Nat.le_refl _)) j).mono ?_
      rintro e w5 ⟨rfl, hb5⟩
      have HO5 : Hid (Own w5 (w.heap.size + 1) (w.heap.size + 1) al (Num.fill f al k)) := Own.below HO.out hb5 hg
      obtain ⟨⟨v, v0⟩, v1⟩ := HO5.out.cell' k hlt
      have hbl5 := bstep hbl hb5
      clear e0 e1 u0 u1 hb5 hbl
      rw [← HJ.out, HE.out]
      go_wp2_with fail
      go_roundw
      case rel => exact ⟨k + 1, hlt, by go_num, by rw [← Num.fill_set _ _ _ (f k) hlt rfl]; exact Own.store HO5.out k (f k), bset hbl5 (by simp) _⟩
      case measure => simp [intOf]; omega
    · have hke : k = al := by omega
      subst hke
      clear hO
      go_wp2_with fail
      go_ret
      refine ⟨w.heap.size + 1, rfl, by omega, ?_, hB⟩
      rw [← Num.fill_all]
      exact Own.ints HO.out

end Go.Proofs.YtipcbhodlgoflabGreat

/- What corner.column, columns and spread do. -/
namespace Go.Proofs.YtipcbhodlgoflabGreat
open Go.RowKit

namespace Num
/-- What the column j has in row i. -/
def hasF (p : Lp) (j i : Nat) : Int := if j < p.costs.length then (p.rows[i]?.getD ([], 0)).1[j]?.getD 0 else if j = p.costs.length + i then 1 else 0

theorem hasF_in (p : Lp) (j i : Nat) (r : List Int × Int) (hr : p.rows[i]?.getD ([], 0) = r) (h : j < p.costs.length) : hasF p j i = r.1[j]?.getD 0 := by unfold hasF; rw [if_pos h, hr]
theorem hasF_one (p : Lp) (j i : Nat) (h : j = p.costs.length + i) : hasF p j i = 1 := by unfold hasF; rw [if_neg (by omega), if_pos h]
theorem hasF_zero (p : Lp) (j i : Nat) (h : ¬ j < p.costs.length) (h2 : j ≠ p.costs.length + i) : hasF p j i = 0 := by unfold hasF; rw [if_neg h, if_neg h2]

theorem hasF_bd (p : Lp) (hm : p.may = true) (j i : Nat) : -12 ≤ hasF p j i ∧ hasF p j i ≤ 12 := by
  unfold hasF
  split
  · by_cases hi : i < p.rows.length
    · exact withinB_iff _ _ (p.row_of hm i hi).2.1 (by omega) j
    · rw [List.getElem?_eq_none (l := p.rows) (by omega)]; simp
  · split <;> omega
end Num

set_option maxHeartbeats 800000 in
theorem column_any (ca : Option Addr) (cl cc : Nat) (ra : Option Addr) (rl rc : Nat) (p : Num.Lp) (w : World) (hr : RowsAt w ra rl p.rows) (hm : p.may = true) (j : Nat) (hj8 : j ≤ 8) :
    Calls Tryz.prog 81 #[.agg #[.slice ca cl cc, .slice ra rl rc], .int .i64 j] w fun e w' => ∃ g, e = .returned (.slice (some ⟨g, 0, none⟩) rl rl) ∧ w.heap.size ≤ g ∧ Ints w' (some ⟨g, 0, none⟩) rl ((List.range rl).map (Num.hasF p j)) ∧ Below w.heap.size w w' := by
  have HR : Hid (RowsAt w ra rl p.rows) := hr
  have HM : Hid (p.may = true) := hm
  have hn4 := (p.may_of hm).1.2
  have h4 : rl ≤ 4 := by have := hr.1; have := (p.may_of hm).2.2.1.2; omega
  have HRL : Hid (rl = p.rows.length) := hr.1
  clear hr hm
  obtain ⟨i0, hif, hz0, hz1, hz2⟩ := info_parts Tryz.info64
  have hs0 : (w.alloc (.cells #[.slice ca cl cc, .slice ra rl rc] 25)).heap.size = w.heap.size + 1 := by simp
  go_enter Tryz.func81, Tryz.ntmps81
  go_wp2_with (at_make; refine wpList_make_full _ rfl (.tmp 10) (.tmp 10) 22 rfl (w.heap.size + 1) 2 i0 (.int .i64 0) 1 Tryz.underlying22 hif hz0 hz1 .i64 .i64 _ _ rl rfl rfl rfl rfl (by rw [hz2]; omega) (by unfold maxLen; omega) (by simp) ?_; intro w3 hown hgrow; have hb3 := made_below hgrow; obtain ⟨⟨k0, k1⟩, _⟩ := kept2 hb3; have HO : Hid _ := hown; clear hown hgrow)
  have HO3 : Hid (Own w3 (w.heap.size + 1) (w.heap.size + 1) rl (Num.fill (Num.hasF p j) rl 0)) := Own.made _ (by rw [hs0] at HO; exact HO.out)
  clear HO
  go_loopw [15] (fun i wr => ∃ k : Nat, k ≤ rl ∧ i = .int .i64 k ∧ Own wr (w.heap.size + 1) (w.heap.size + 1) rl (Num.fill (Num.hasF p j) rl k) ∧ Below (w.alloc (.cells #[.slice ca cl cc, .slice ra rl rc] 25)).heap.size (w.alloc (.cells #[.slice ca cl cc, .slice ra rl rc] 25)) wr) (fun i _ => rl - (intOf i).toNat)
  case atStart => exact ⟨0, Nat.zero_le _, rfl, HO3.out, hb3⟩
  case round =>
    obtain ⟨k, hk, rfl, hO, hbl⟩ := hrel
    have HO : Hid _ := hO
    clear HO3 hb3 k0 k1
    have hB : Below w.heap.size w wr := binto hbl
    by_cases hlt : k < rl
    · rcases (RowsAt.below HR.out hB (Nat.le_refl _)).2 with h | ⟨b, off, ha, hbs, hc⟩
      · omega
      obtain ⟨xa, xl, xc, c0, c1, hx, hxl⟩ := hc k hlt
      clear hc
      have hxn : xl = p.costs.length := by have := hx.1; have := (p.row_of HM.out k (by have := HRL.out; omega)).1; omega
      obtain ⟨⟨u, u0⟩, u1⟩ := hO.cell' k hlt
      have hg := hO.lt.2
      clear hO
      have HE1 : Hid (j < xl → Num.hasF p j k = (p.rows[k]?.getD ([], 0)).1[j]?.getD 0) := fun h => Num.hasF_in p j k _ rfl (by omega)
      have HE2 : Hid (j = xl + k → Num.hasF p j k = 1) := fun h => Num.hasF_one p j k (by omega)
      have HE3 : Hid (¬ j < xl → j ≠ xl + k → Num.hasF p j k = 0) := fun h h2 => Num.hasF_zero p j k (by omega) (by omega)
      generalize (p.rows[k]?.getD ([], 0)) = r at *
      obtain ⟨r1, r2⟩ := r
      dsimp only at *
      have hx4 : xl ≤ 4 := by omega
      clear hxn hn4 hxl
      subst ha
      by_cases hj : (j : Int) < xl
      · rcases hx.2 with h | ⟨b', o', ha, hb', hc'⟩
        · omega
        have hck := hc' j (by omega)
        clear hc' hx
        generalize r1[j]?.getD 0 = x at hck HE1
        subst ha
        go_wp2_with fail
        go_roundw
        case rel => exact ⟨k + 1, hlt, by go_num, by rw [← Num.fill_set _ _ _ x hlt (HE1.out (by omega)).symm]; exact (Own.store HO.out k x).alloc _, bstep (bset hbl (by simp) _) (balloc _ _)⟩
        case measure => simp [intOf]; omega
      · have hj' : decide ((j : Int) < xl) = false := by simpa using hj
        clear hx
        by_cases hj2 : j = xl + k
        · have hj2' : ((j : Int) == xl + k) = true := beq_iff_eq.2 (by omega)
          have HJ2 : Hid _ := hj2
          clear hj2
          go_wp2_with fail
          go_roundw
          case rel => exact ⟨k + 1, hlt, by go_num, by rw [← Num.fill_set _ _ _ 1 hlt (HE2.out HJ2.out).symm]; exact (Own.store HO.out k 1).alloc _, bstep (bset hbl (by simp) _) (balloc _ _)⟩
          case measure => simp [intOf]; omega
        · have hj2' : ((j : Int) == xl + k) = false := beq_eq_false_iff_ne.2 (by omega)
          go_wp2_with fail
          go_roundw
          case rel => exact ⟨k + 1, hlt, by go_num, by rw [← Num.fill_skip _ _ _ (HE3.out (by omega) hj2)]; exact Own.alloc HO.out _, bstep hbl (balloc _ _)⟩
          case measure => simp [intOf]; omega
    · have hke : k = rl := by omega
      subst hke
      clear hO
      go_wp2_with fail
      go_ret
      refine ⟨w.heap.size + 1, rfl, by omega, ?_, hB⟩
      rw [← Num.fill_all]
      exact Own.ints HO.out

end Go.Proofs.YtipcbhodlgoflabGreat

/- Slices of slices that a function makes and fills; what corner.columns and spread do. -/
namespace Go.Proofs.YtipcbhodlgoflabGreat
open Go.RowKit

theorem Tryz.infoSl : (Tryz.prog.info? 22).map (fun i => (i.zero, i.size, i.bytes)) = some (some (.slice none 0 0), 1, 24) := by kernel_rfl

/-- A slice of the call's own of n slices, of which the first k lie behind it and hold the numbers that f says. -/
def OwnL (w : World) (base g n k : Nat) (f : Nat → List Int) : Prop :=
  ∃ vs : List Value, w.ownsRow base 22 1 (.slice (some ⟨g, 0, none⟩) n n) n vs ∧ ∀ j, j < k → ∃ gj m, vs[j]? = some (.slice (some ⟨gj, 0, none⟩) m m) ∧ g < gj ∧ Ints w (some ⟨gj, 0, none⟩) m (f j)

theorem OwnL.made {w : World} {base g n : Nat} {xs : List Value} (f : Nat → List Int) (h : w.ownsRow base 22 1 (.slice (some ⟨g, 0, none⟩) n n) n xs) : OwnL w base g n 0 f :=
  ⟨xs, h, fun _ hj => absurd hj (Nat.not_lt_zero _)⟩

theorem OwnL.lt {w : World} {base g n k : Nat} {f : Nat → List Int} (h : OwnL w base g n k f) : base ≤ g ∧ g < w.heap.size := by
  obtain ⟨vs, h, _⟩ := h
  exact World.ownsRow.lt h g rfl

theorem OwnL.cell' {w : World} {base g n k : Nat} {f : Nat → List Int} (h : OwnL w base g n k f) (j : Nat) (hj : j < n) : (∃ u, w.cell? ⟨g, j, none⟩ = some u) ∧ w.frozen? ⟨g, j, none⟩ = false := by
  obtain ⟨vs, h, _⟩ := h
  have hl : vs.length = n := by simpa using h.1
  refine ⟨⟨vs[j], ?_⟩, World.ownsRow.frozenAt h j⟩
  rw [World.ownsRow.cellAt h j (by omega)]
  exact List.getElem?_eq_getElem (by omega)

theorem Ints.setOff {w : World} {g' n : Nat} {l : List Int} (h : Ints w (some ⟨g', 0, none⟩) n l) {g j : Nat} (hg : g < g') (u : Value) : Ints (w.setCell ⟨g, j, none⟩ u) (some ⟨g', 0, none⟩) n l :=
  Ints.set (base := g + 1) h (Or.inr ⟨g', rfl, by omega⟩) (by show g < g + 1; omega) u

theorem OwnL.store {w : World} {base g n k : Nat} {f : Nat → List Int} (h : OwnL w base g n k f) (hk : k < n) {gk m : Nat} (hg : g < gk) (hi : Ints w (some ⟨gk, 0, none⟩) m (f k)) :
    OwnL (w.setCell ⟨g, k, none⟩ (.slice (some ⟨gk, 0, none⟩) m m)) base g n (k + 1) f := by
  obtain ⟨vs, h, hin⟩ := h
  have hl : vs.length = n := by simpa using h.1
  refine ⟨vs.set k (.slice (some ⟨gk, 0, none⟩) m m), (World.ownsRow.stored h k _).1, fun j hj => ?_⟩
  by_cases hjk : j = k
  · subst hjk
    exact ⟨gk, m, by rw [List.getElem?_set_self (by omega)], hg, hi.setOff hg _⟩
  · obtain ⟨gj, m', h1, h2, h3⟩ := hin j (by omega)
    exact ⟨gj, m', by rw [List.getElem?_set_ne (by omega)]; exact h1, h2, h3.setOff h2 _⟩

theorem OwnL.below {w w' : World} {base g n k : Nat} {f : Nat → List Int} (h : OwnL w base g n k f) {B : Nat} (hb : Below B w w') (hB : w.heap.size ≤ B) : OwnL w' base g n k f := by
  have hlt := h.lt.2
  obtain ⟨vs, h, hin⟩ := h
  refine ⟨vs, own_below h hb (by omega), fun j hj => ?_⟩
  obtain ⟨gj, m', h1, h2, h3⟩ := hin j hj
  exact ⟨gj, m', h1, h2, h3.below hb hB⟩

theorem getD_range {α : Type} (f : Nat → α) (n j : Nat) (d : α) (h : j < n) : ((List.range n).map f)[j]?.getD d = f j := by
  rw [List.getElem?_map]; simp [h]

theorem OwnL.lines {w : World} {base g n : Nat} {f : Nat → List Int} (h : OwnL w base g n n f) : Lines w (some ⟨g, 0, none⟩) n ((List.range n).map f) := by
  have hlt := h.lt.2
  obtain ⟨vs, h, hin⟩ := h
  have hl : vs.length = n := by simpa using h.1
  refine ⟨by simp, Or.inr ⟨g, 0, rfl, hlt, fun j hj => ?_⟩⟩
  obtain ⟨gj, m', h1, h2, h3⟩ := hin j hj
  refine ⟨_, _, _, ?_, by rw [getD_range f n j [] hj]; exact h3, Nat.le_refl _⟩
  rw [Nat.zero_add, World.ownsRow.cellAt h j (by omega)]
  exact h1

set_option maxHeartbeats 800000 in
theorem columns_any (ca : Option Addr) (cl cc : Nat) (ra : Option Addr) (rl rc : Nat) (p : Num.Lp) (w : World) (hr : RowsAt w ra rl p.rows) (hm : p.may = true) (aa : Option Addr) (al ac : Nat) (at' : List Int) (ha : Ints w aa al at')
    (h4 : al ≤ 4) (hat : ∀ k, k < al → 0 ≤ at'[k]?.getD 0 ∧ at'[k]?.getD 0 ≤ 8) :
    Calls Tryz.prog 46 #[.agg #[.slice ca cl cc, .slice ra rl rc], .slice aa al ac] w fun e w' => ∃ g, e = .returned (.slice (some ⟨g, 0, none⟩) al al) ∧ w.heap.size ≤ g ∧
      Lines w' (some ⟨g, 0, none⟩) al ((List.range al).map fun k => (List.range rl).map (Num.hasF p (Num.atF at' k))) ∧ Below w.heap.size w w' := by
  have HR : Hid (RowsAt w ra rl p.rows) := hr
  have HM : Hid (p.may = true) := hm
  have HA : Hid (Ints w aa al at') := ha
  have HAT : Hid (∀ k, k < al → 0 ≤ at'[k]?.getD 0 ∧ at'[k]?.getD 0 ≤ 8) := hat
  clear hr ha hat hm
  generalize hf : (fun k => (List.range rl).map (Num.hasF p (Num.atF at' k))) = f
  have HF : Hid _ := hf
  clear hf
  obtain ⟨i0, hif, hz0, hz1, hz2⟩ := info_parts Tryz.infoSl
  have hs0 : (w.alloc (.cells #[.slice ca cl cc, .slice ra rl rc] 25)).heap.size = w.heap.size + 1 := by simp
  go_enter Tryz.func46, Tryz.ntmps46
  go_wp2_with (at_make; refine wpList_make_full _ rfl (.tmp 9) (.tmp 9) 102 rfl (w.heap.size + 1) 22 i0 (.slice none 0 0) 1 Tryz.underlying102 hif hz0 hz1 .i64 .i64 _ _ al rfl rfl rfl rfl (by rw [hz2]; omega) (by unfold maxLen; omega) (by simp) ?_; intro w3 hown hgrow; have hb3 := made_below hgrow; have HO : Hid _ := hown; clear hown hgrow)
  have HO3 : Hid (OwnL w3 (w.heap.size + 1) (w.heap.size + 1) al 0 f) := OwnL.made _ (by rw [hs0] at HO; exact HO.out)
  clear HO
  go_loopw [13] (fun i wr => ∃ k : Nat, k ≤ al ∧ i = .int .i64 k ∧ OwnL wr (w.heap.size + 1) (w.heap.size + 1) al k f ∧ Below (w.alloc (.cells #[.slice ca cl cc, .slice ra rl rc] 25)).heap.size (w.alloc (.cells #[.slice ca cl cc, .slice ra rl rc] 25)) wr) (fun i _ => al - (intOf i).toNat)
  case atStart => exact ⟨0, Nat.zero_le _, rfl, HO3.out, hb3⟩
  case round =>
    obtain ⟨k, hk, rfl, hO, hbl⟩ := hrel
    have HO : Hid (OwnL wr (w.heap.size + 1) (w.heap.size + 1) al k f) := hO
    clear HO3 hb3
    have hB : Below w.heap.size w wr := binto hbl
    by_cases hlt : k < al
    · rcases (Ints.below HA.out hB (Nat.le_refl _)).2 with h | ⟨b, off, ha, hbs, hc⟩
      · omega
      have hck := hc k hlt
      have h0 := HAT.out k hlt
      clear hc
      obtain ⟨⟨e0, e1⟩, _⟩ := kept2 hbl
      have HE : Hid ((List.range rl).map (Num.hasF p (Num.atF at' k)) = f k) := by rw [← HF.out]; exact rfl
      obtain ⟨j, hj⟩ : ∃ j : Nat, at'[k]?.getD 0 = j := ⟨_, (Int.toNat_of_nonneg h0.1).symm⟩
      have HJ : Hid (Num.atF at' k = j) := by show (at'[k]?.getD 0).toNat = j; rw [hj]; rfl
      rw [hj] at hck h0
      clear hj
      have hg := hO.lt.2
      clear hO
      subst ha
      go_wp2_with fail
      refine (column_any _ _ _ _ _ _ p _ (RowsAt.below HR.out hB (Nat.le_refl _)) HM.out j (by omega)).mono ?_
      rintro e w5 ⟨g5, rfl, hg5, hi5, hb5⟩
      have HO5 : Hid (OwnL w5 (w.heap.size + 1) (w.heap.size + 1) al k f) := OwnL.below HO.out hb5 (Nat.le_refl _)
      have HI5 : Hid (Ints w5 (some ⟨g5, 0, none⟩) rl (f k)) := by rw [← HE.out, HJ.out]; exact hi5
      obtain ⟨⟨v, v0⟩, v1⟩ := OwnL.cell' HO5.out k hlt
      have hbl5 := bstep hbl hb5
      clear e0 e1 hb5 hbl hi5
      go_wp2_with fail
      go_roundw
      case rel => exact ⟨k + 1, hlt, by go_num, OwnL.store HO5.out hlt (by omega) HI5.out, bset hbl5 (by simp) _⟩
      case measure => simp [intOf]; omega
    · have hke : k = al := by omega
      subst hke
      clear hO
      go_wp2_with fail
      go_ret
      exact ⟨w.heap.size + 1, rfl, by omega, OwnL.lines HO.out, hB⟩

namespace Num
/-- Numbers of the columns at, as numbers of all columns, the others being 0: after k of them. -/
def spreadN (N : Nat) (at' nums : List Int) : Nat → List Int
  | 0 => List.replicate N 0
  | k + 1 => (spreadN N at' nums k).set (atF at' k) (nums[k]?.getD 0)
end Num

set_option maxHeartbeats 800000 in
theorem spread_any (ca : Option Addr) (cl cc : Nat) (ra : Option Addr) (rl rc : Nat) (w : World) (aa : Option Addr) (al ac : Nat) (at' : List Int) (ha : Ints w aa al at') (na : Option Addr) (nc : Nat) (nums : List Int) (hn : Ints w na al nums)
    (h4 : al ≤ 4) (N : Nat) (hN : cl + rl = N) (h8 : N ≤ 8) (hat : ∀ k, k < al → 0 ≤ at'[k]?.getD 0 ∧ at'[k]?.getD 0 < N) :
    Calls Tryz.prog 51 #[.agg #[.slice ca cl cc, .slice ra rl rc], .slice aa al ac, .slice na al nc] w fun e w' => ∃ g, e = .returned (.slice (some ⟨g, 0, none⟩) N N) ∧ w.heap.size ≤ g ∧
      Ints w' (some ⟨g, 0, none⟩) N (Num.spreadN N at' nums al) ∧ Below w.heap.size w w' := by
  have HA : Hid (Ints w aa al at') := ha
  have HN : Hid (Ints w na al nums) := hn
  have HAT : Hid (∀ k, k < al → 0 ≤ at'[k]?.getD 0 ∧ at'[k]?.getD 0 < N) := hat
  have HNN : Hid (cl + rl = N) := hN
  clear ha hn hat hN
  obtain ⟨i0, hif, hz0, hz1, hz2⟩ := info_parts Tryz.info64
  have hs0 : (w.alloc (.cells #[.slice ca cl cc, .slice ra rl rc] 25)).heap.size = w.heap.size + 1 := by simp
  go_enter Tryz.func51, Tryz.ntmps51
  go_wp2_with fail
  refine (width_any _ _ _ _ _ _ _ N HNN.out h8).mono ?_
  rintro e w1 ⟨rfl, hb1⟩
  obtain ⟨⟨e0, e1⟩, _⟩ := kept2 hb1
  go_wp2_with (at_make; refine wpList_make_full _ rfl (.tmp 11) (.tmp 11) 22 rfl w1.heap.size 2 i0 (.int .i64 0) 1 Tryz.underlying22 hif hz0 hz1 .i64 .i64 _ _ N rfl rfl rfl rfl (by rw [hz2]; omega) (by unfold maxLen; omega) (Nat.le_refl _) ?_; intro w3 hown hgrow; have hb3 := made_below hgrow; have HO : Hid _ := hown; clear hown hgrow)
  have HO3 : Hid (Own w3 w1.heap.size w1.heap.size N (Num.spreadN N at' nums 0)) := by
    have := Own.made (fun _ => 0) HO.out
    rw [Num.fill_zero] at this
    exact this
  have hW : w.heap.size < w1.heap.size := by have := hb1.size; simp at this; omega
  have hb13 : Below (w.alloc (.cells #[.slice ca cl cc, .slice ra rl rc] 25)).heap.size (w.alloc (.cells #[.slice ca cl cc, .slice ra rl rc] 25)) w3 := bstep hb1 hb3
  clear HO hb1 hb3 e0 e1
  go_loopw [15] (fun i wr => ∃ k : Nat, k ≤ al ∧ i = .int .i64 k ∧ Own wr w1.heap.size w1.heap.size N (Num.spreadN N at' nums k) ∧ Below w.heap.size w wr) (fun i _ => al - (intOf i).toNat)
  case atStart => exact ⟨0, Nat.zero_le _, rfl, HO3.out, binto hb13⟩
  case round =>
    obtain ⟨k, hk, rfl, hO, hB⟩ := hrel
    have HO : Hid _ := hO
    clear HO3 hb13
    by_cases hlt : k < al
    · rcases (Ints.below HA.out hB (Nat.le_refl _)).2 with h | ⟨b, off, ha, hbs, hc⟩
      · omega
      rcases (Ints.below HN.out hB (Nat.le_refl _)).2 with h | ⟨b', off', ha', hbs', hc'⟩
      · omega
      have hck := hc k hlt
      have hck' := hc' k hlt
      have h0 := HAT.out k hlt
      clear hc hc'
      obtain ⟨j, hj⟩ : ∃ j : Nat, at'[k]?.getD 0 = j := ⟨_, (Int.toNat_of_nonneg h0.1).symm⟩
      have HJ : Hid (Num.atF at' k = j) := by show (at'[k]?.getD 0).toNat = j; rw [hj]; rfl
      have hjN : j < N := by have := h0.2; rw [hj] at this; omega
      rw [hj] at hck
      clear hj h0
      obtain ⟨⟨u, u0⟩, u1⟩ := hO.cell' j hjN
      have hg := hO.lt.2
      clear hO
      have HX : Hid (Num.spreadN N at' nums (k + 1) = (Num.spreadN N at' nums k).set j (nums[k]?.getD 0)) := by rw [← HJ.out]; exact rfl
      generalize nums[k]?.getD 0 = x at hck' HX
      subst ha ha'
      go_wp2_with fail
      go_roundw
      case rel => exact ⟨k + 1, hlt, by go_num, by rw [HX.out]; exact Own.store HO.out j x, bset hB (by omega) _⟩
      case measure => simp [intOf]; omega
    · have hke : k = al := by omega
      subst hke
      clear hO
      go_wp2_with fail
      go_ret
      exact ⟨w1.heap.size, rfl, by omega, Own.ints HO.out, hB⟩

end Go.Proofs.YtipcbhodlgoflabGreat

/- What corner.gains does. -/
namespace Go.Proofs.YtipcbhodlgoflabGreat
open Go.RowKit

/-- Below B all is as in V; the row of the call's own is l, or has x at k already. -/
structure Rowed (V : World) (base g n k : Nat) (l : List Int) (x : Int) (w : World) : Prop where
  bel : Below V.heap.size V w
  row : ∃ l', Own w base g n l' ∧ (l' = l ∨ l' = l.set k x)

theorem Rowed.start {V : World} {base g n k : Nat} {l : List Int} {x : Int} {w : World} (h : Below V.heap.size V w) (ho : Own w base g n l) : Rowed V base g n k l x w := ⟨h, l, ho, Or.inl rfl⟩

theorem Rowed.drew {V : World} {base g n k : Nat} {l : List Int} {x : Int} {w : World} (h : Rowed V base g n k l x w) : Rowed V base g n k l x w.drew :=
  ⟨h.bel.drew, by obtain ⟨l', ho, hl⟩ := h.row; exact ⟨l', ho, hl⟩⟩

theorem Rowed.step {V : World} {base g n k : Nat} {l : List Int} {x : Int} {w w' : World} (h : Rowed V base g n k l x w) (hb : Below w.heap.size w w') : Rowed V base g n k l x w' :=
  ⟨bstep h.bel hb, by obtain ⟨l', ho, hl⟩ := h.row; exact ⟨l', ho.below hb ho.lt.2, hl⟩⟩

theorem Rowed.stored {V : World} {base g n k : Nat} {l : List Int} {x : Int} {w : World} (h : Rowed V base g n k l x w) : Own (w.setCell ⟨g, k, none⟩ (.int .i64 x)) base g n (l.set k x) := by
  obtain ⟨l', ho, hl⟩ := h.row
  have := ho.store k x
  rcases hl with rfl | rfl
  · exact this
  · rw [List.set_set] at this; exact this

theorem Rowed.set {V : World} {base g n k : Nat} {l : List Int} {x : Int} {w : World} (h : Rowed V base g n k l x w) (hg : V.heap.size ≤ g) : Rowed V base g n k l x (w.setCell ⟨g, k, none⟩ (.int .i64 x)) :=
  ⟨bset h.bel hg _, _, h.stored, Or.inr rfl⟩

theorem Rowed.cell {V : World} {base g n k : Nat} {l : List Int} {x : Int} (hk : k < n) : ∃ F : World → Value, (∀ w, Rowed V base g n k l x w → w.cell? ⟨g, k, none⟩ = some (F w)) ∧ (∀ w, Rowed V base g n k l x w → w.frozen? ⟨g, k, none⟩ = false) := by
  refine ⟨fun w => (w.cell? ⟨g, k, none⟩).getD undef, ?_, ?_⟩
  · intro w h
    obtain ⟨l', ho, _⟩ := h.row
    show w.cell? ⟨g, k, none⟩ = some ((w.cell? ⟨g, k, none⟩).getD undef)
    rw [(ho.cell k hk).1]; rfl
  · intro w h
    obtain ⟨l', ho, _⟩ := h.row
    exact (ho.cell k hk).2

def Num.gainF (p : Num.Lp) (y : List Int) (d : Int) (j : Nat) : Int := p.costs[j]?.getD 0 * d - Num.dotN ((List.range p.rows.length).map (Num.hasF p j)) y p.rows.length

set_option maxHeartbeats 800000 in
theorem gains_any (ca : Option Addr) (cl cc : Nat) (ra : Option Addr) (rl rc : Nat) (p : Num.Lp) (w : World) (hc : Ints w ca cl p.costs) (hr : RowsAt w ra rl p.rows) (hm : p.may = true) (ya : Option Addr) (yc : Nat) (y : List Int) (hy : Ints w ya rl y) (d : Int)
    (N : Nat) (hN : cl + rl = N) (hd : -6553600000000 ≤ d ∧ d ≤ 6553600000000) (hyb : ∀ j : Nat, -6553600000000 ≤ y[j]?.getD 0 ∧ y[j]?.getD 0 ≤ 6553600000000) :
    Calls Tryz.prog 53 #[.agg #[.slice ca cl cc, .slice ra rl rc], .slice ya rl yc, .int .i64 d] w fun e w' => ∃ g, e = .returned (.slice (some ⟨g, 0, none⟩) N N) ∧ w.heap.size ≤ g ∧
      Ints w' (some ⟨g, 0, none⟩) N ((List.range N).map (Num.gainF p y d)) ∧ Below w.heap.size w w' := by
  have HC : Hid (Ints w ca cl p.costs) := hc
  have HR : Hid (RowsAt w ra rl p.rows) := hr
  have HY : Hid (Ints w ya rl y) := hy
  have HM : Hid (p.may = true) := hm
  have HNN : Hid (cl + rl = N) := hN
  have HYB : Hid (∀ j : Nat, -6553600000000 ≤ y[j]?.getD 0 ∧ y[j]?.getD 0 ≤ 6553600000000) := hyb
  have h4 : rl ≤ 4 := by have := hr.1; have := (p.may_of hm).2.2.1.2; omega
  have h8 : N ≤ 8 := by have := hc.1; have := (p.may_of hm).1.2; omega
  have HRL : Hid (rl = p.rows.length) := hr.1
  have HCB : Hid (∀ j : Nat, -400 ≤ p.costs[j]?.getD 0 ∧ p.costs[j]?.getD 0 ≤ 400) := Num.withinB_iff _ _ (p.may_of hm).2.1 (by omega)
  clear hc hr hy hm hN hyb
  obtain ⟨i0, hif, hz0, hz1, hz2⟩ := info_parts Tryz.info64
  go_enter Tryz.func53, Tryz.ntmps53
  go_wp2_with fail
  refine (width_any _ _ _ _ _ _ _ N HNN.out h8).mono ?_
  rintro e w1 ⟨rfl, hb1⟩
  obtain ⟨⟨e0, e1⟩, _⟩ := kept2 hb1
  go_wp2_with (at_make; refine wpList_make_full _ rfl (.tmp 10) (.tmp 10) 22 rfl w1.heap.size 2 i0 (.int .i64 0) 1 Tryz.underlying22 hif hz0 hz1 .i64 .i64 _ _ N rfl rfl rfl rfl (by rw [hz2]; omega) (by unfold maxLen; omega) (Nat.le_refl _) ?_; intro w3 hown hgrow; have hb3 := made_below hgrow; have HO : Hid _ := hown; clear hown hgrow)
  have HO3 : Hid (Own w3 w1.heap.size w1.heap.size N (Num.fill (Num.gainF p y d) N 0)) := Own.made _ HO.out
  have hW : w.heap.size < w1.heap.size := by have := hb1.size; simp at this; omega
  generalize hV0 : w.alloc (.cells #[.slice ca cl cc, .slice ra rl rc] 25) = V0 at *
  have hs0 : V0.heap.size = w.heap.size + 1 := by rw [← hV0]; simp
  have hBV : Below w.heap.size w V0 := by rw [← hV0]; exact balloc _ _
  have hcv : V0.cell? ⟨w.heap.size, 0, none⟩ = some (.slice ca cl cc) ∧ V0.cell? ⟨w.heap.size, 1, none⟩ = some (.slice ra rl rc) := by rw [← hV0]; exact cell_new2 rfl _ _ _
  have hb13 : Below V0.heap.size V0 w3 := bstep hb1 hb3
  clear HO hb1 hb3 e0 e1 hV0
  go_loopw [14] (fun i wr => ∃ k : Nat, k ≤ N ∧ i = .int .i64 k ∧ Own wr w1.heap.size w1.heap.size N (Num.fill (Num.gainF p y d) N k) ∧ Below V0.heap.size V0 wr) (fun i _ => N - (intOf i).toNat)
  case atStart => exact ⟨0, Nat.zero_le _, rfl, HO3.out, hb13⟩
  case round =>
    obtain ⟨k, hk, rfl, hO, hB⟩ := hrel
    have HO : Hid _ := hO
    clear HO3 hb13
    by_cases hlt : k < N
    · have HX : Hid (Num.gainF p y d k = p.costs[k]?.getD 0 * d - Num.dotN ((List.range rl).map (Num.hasF p k)) y rl) := by have := HRL.out; rw [this]; exact rfl
      have hcb := HCB.out k
      have hq := Num.mul_bd2 _ _ _ _ hcb hd
      have hD := Num.dotN_bd ((List.range rl).map (Num.hasF p k)) y 12 6553600000000 (fun j => by rw [Num.range_getD]; split; exact Num.hasF_bd p HM.out k j; omega) HYB.out rl
      have hD' : -314572800000000 ≤ Num.dotN ((List.range rl).map (Num.hasF p k)) y rl ∧ Num.dotN ((List.range rl).map (Num.hasF p k)) y rl ≤ 314572800000000 := by omega
      have KW : Hid (∀ w', Rowed V0 w1.heap.size w1.heap.size N k (Num.fill (Num.gainF p y d) N k) (Num.gainF p y d k) w' → Calls Tryz.prog 84 #[.agg #[.slice ca cl cc, .slice ra rl rc], .int .i64 k] w' fun e w'' => e = .returned (.int .i64 (p.costs[k]?.getD 0)) ∧
          Rowed V0 w1.heap.size w1.heap.size N k (Num.fill (Num.gainF p y d) N k) (Num.gainF p y d k) w'' ∧ Below w'.heap.size w' w'') := by
        intro w' h
        exact (worthC_any _ _ _ _ _ _ p.costs w' (Ints.below HC.out (hBV.trans (h.bel.mono (by omega))) (Nat.le_refl _)) k).mono fun _ _ q => ⟨q.1, h.step q.2, q.2⟩
      have KC : Hid (∀ w', Rowed V0 w1.heap.size w1.heap.size N k (Num.fill (Num.gainF p y d) N k) (Num.gainF p y d k) w' → Calls Tryz.prog 81 #[.agg #[.slice ca cl cc, .slice ra rl rc], .int .i64 k] w' fun e w'' => ∃ g2, e = .returned (.slice (some ⟨g2, 0, none⟩) rl rl) ∧
          Rowed V0 w1.heap.size w1.heap.size N k (Num.fill (Num.gainF p y d) N k) (Num.gainF p y d k) w'' ∧ Ints w'' (some ⟨g2, 0, none⟩) rl ((List.range rl).map (Num.hasF p k))) := by
        intro w' h
        refine (column_any _ _ _ _ _ _ p w' (RowsAt.below HR.out (hBV.trans (h.bel.mono (by omega))) (Nat.le_refl _)) HM.out k (by omega)).mono ?_
        rintro e w'' ⟨g2, rfl, _, hi, hb⟩
        exact ⟨g2, rfl, h.step hb, hi⟩
      have KT : Hid (∀ w' g2, Rowed V0 w1.heap.size w1.heap.size N k (Num.fill (Num.gainF p y d) N k) (Num.gainF p y d k) w' → Ints w' (some ⟨g2, 0, none⟩) rl ((List.range rl).map (Num.hasF p k)) → Calls Tryz.prog 41 #[.slice (some ⟨g2, 0, none⟩) rl rl, .slice ya rl yc] w' fun e w'' => e = .returned (.int .i64 (Num.dotN ((List.range rl).map (Num.hasF p k)) y rl)) ∧
          Rowed V0 w1.heap.size w1.heap.size N k (Num.fill (Num.gainF p y d) N k) (Num.gainF p y d k) w'') := by
        intro w' g2 h hi
        exact (below_of_drew (together_any _ _ _ _ _ _ ((List.range rl).map (Num.hasF p k)) y w' 12 6553600000000 hi (Ints.below HY.out (hBV.trans (h.bel.mono (by omega))) (Nat.le_refl _)) rfl (by omega) (fun j => by rw [Num.range_getD]; split; exact Num.hasF_bd p HM.out k j; omega) HYB.out (by omega))).mono fun _ _ q => ⟨q.1, h.step q.2⟩
      obtain ⟨F, qF, qZ⟩ := Rowed.cell (V := V0) (base := w1.heap.size) (g := w1.heap.size) (l := Num.fill (Num.gainF p y d) N k) (x := Num.gainF p y d k) hlt
      have hR := Rowed.drew (Rowed.start (k := k) (x := Num.gainF p y d k) hB hO)
      have HST : Hid (∀ w', Rowed V0 w1.heap.size w1.heap.size N k (Num.fill (Num.gainF p y d) N k) (Num.gainF p y d k) w' → Own (w'.setCell ⟨w1.heap.size, k, none⟩ (.int .i64 (Num.gainF p y d k))) w1.heap.size w1.heap.size N (Num.fill (Num.gainF p y d) N (k + 1)) ∧ Below V0.heap.size V0 (w'.setCell ⟨w1.heap.size, k, none⟩ (.int .i64 (Num.gainF p y d k)))) := by
        intro w' h
        refine ⟨?_, bset h.bel (by omega) _⟩
        rw [← Num.fill_set _ _ _ (Num.gainF p y d k) hlt rfl]
        exact h.stored
      have HSS : Hid (∀ w', Rowed V0 w1.heap.size w1.heap.size N k (Num.fill (Num.gainF p y d) N k) (Num.gainF p y d k) w' → Rowed V0 w1.heap.size w1.heap.size N k (Num.fill (Num.gainF p y d) N k) (Num.gainF p y d k) (w'.setCell ⟨w1.heap.size, k, none⟩ (.int .i64 (Num.gainF p y d k)))) := fun w' h => h.set (by omega)
      have q0 : ∀ w', Rowed V0 w1.heap.size w1.heap.size N k (Num.fill (Num.gainF p y d) N k) (Num.gainF p y d k) w' → w'.cell? ⟨w.heap.size, 0, none⟩ = some (.slice ca cl cc) := fun w' h => by rw [h.bel.cell (by show w.heap.size < _; omega)]; exact hcv.1
      have q1 : ∀ w', Rowed V0 w1.heap.size w1.heap.size N k (Num.fill (Num.gainF p y d) N k) (Num.gainF p y d k) w' → w'.cell? ⟨w.heap.size, 1, none⟩ = some (.slice ra rl rc) := fun w' h => by rw [h.bel.cell (by show w.heap.size < _; omega)]; exact hcv.2
      clear hO
      generalize Num.gainF p y d k = x at *
      generalize Num.fill (Num.gainF p y d) N k = l0 at *
      generalize Num.dotN ((List.range rl).map (Num.hasF p k)) y rl = D at *
      generalize p.costs[k]?.getD 0 = c at HX hcb hq KW
      have e1 : wrap64 (c * d) = c * d := IntWalk.wrap64_in _ (by omega)
      have e2 : wrap64 (c * d - D) = x := by rw [HX.out]; exact IntWalk.wrap64_in _ (by omega)
      have e3 : IntKind.i64.wrap (IntKind.i64.wrap (c * d) - D) = x := by rw [IntWalk.i64_left, IntWalk.i64_left, e1, e2]
      have E3 : Hid _ := e3
      clear hcb hD hcv e1 e2 e3
      go_wp2_with fail
      go_region_held3 (fun w' => Rowed V0 w1.heap.size w1.heap.size N k l0 x w') (first | assumption | (rw [E3.out]; apply HSS.out; assumption))
        (first | (go_at_call 84; refine (KW.out _ ?_).mono ?_; assumption; rintro e v1 ⟨rfl, hb1, hk1⟩; (try (have hI := Ints.below hI hk1 (Nat.le_refl _))))
               | (go_at_call 81; refine (KC.out _ ?_).mono ?_; assumption; rintro e v2 ⟨g2, rfl, hb2, hI⟩)
               | (go_at_call 41; refine (KT.out _ _ ?_ hI).mono ?_; assumption; rintro e v3 ⟨rfl, hb3⟩))
      all_goals
        rename_i hfin
        obtain ⟨r1, r2⟩ := HST.out v3 hb3
        have R1 : Hid _ := r1
        clear q0 q1 qF qZ KW KC KT r1 hfin
        rw [E3.out]
        go_wp2_with fail
        go_roundw
        case rel => exact ⟨k + 1, hlt, by go_num, R1.out, r2⟩
        case measure => simp [intOf]; omega
    · have hke : k = N := by omega
      subst hke
      clear hO
      go_wp2_with fail
      go_ret
      exact ⟨w1.heap.size, rfl, by omega, by rw [← Num.fill_all]; exact Own.ints HO.out, hBV.trans (hB.mono (by omega))⟩

end Go.Proofs.YtipcbhodlgoflabGreat

/- What slices.Clone, corner.shares and corner.turned do. -/
namespace Go.Proofs.YtipcbhodlgoflabGreat
open Go.RowKit

theorem Lines.shape {w : World} {a : Option Addr} {n : Nat} {ls : List (List Int)} (h : Lines w a n ls) (h1 : 1 ≤ n) : ∃ b off, a = some ⟨b, off, none⟩ ∧ b < w.heap.size ∧ ∃ vs : List Value, vs.length = n ∧ (∀ j, j < n → w.cell? ⟨b, off + j, none⟩ = vs[j]?) ∧
    ∀ j, j < n → ∃ ra rl rc, vs[j]? = some (.slice ra rl rc) ∧ Ints w ra rl (ls[j]?.getD []) ∧ rl ≤ rc := by
  rcases h.2 with h0 | ⟨b, off, ha, hs, hc⟩
  · omega
  · refine ⟨b, off, ha, hs, (List.range n).map (fun j => (w.cell? ⟨b, off + j, none⟩).getD undef), by simp, fun j hj => ?_, fun j hj => ?_⟩
    · obtain ⟨ra, rl, rc, c0, _⟩ := hc j hj
      rw [List.getElem?_map]
      simp [hj, c0]
    · obtain ⟨ra, rl, rc, c0, c1, c2⟩ := hc j hj
      refine ⟨ra, rl, rc, ?_, c1, c2⟩
      rw [List.getElem?_map]
      simp [hj, c0]

theorem addr_add (b off j : Nat) : (⟨b, off, none⟩ : Addr).add j = ⟨b, off + j, none⟩ := by unfold Addr.add; split <;> simp_all

/-- Cells of a slice that was there, as the law on append asks for them. -/
theorem news_at {w w' : World} {b off n : Nat} {vs : List Value} (hb : Below w.heap.size w w') (hlt : b < w.heap.size) (hv : vs.length = n) (hc : ∀ j, j < n → w.cell? ⟨b, off + j, none⟩ = vs[j]?) :
    ∀ (j : Nat) (u : Value), vs[j]? = some u → w'.cell? ((⟨b, off, none⟩ : Addr).add j) = some u := by
  intro j u hu
  have hj : j < n := by
    rcases Nat.lt_or_ge j vs.length with h | h
    · omega
    · rw [List.getElem?_eq_none h] at hu; cases hu
  rw [addr_add, hb.cell (p := ⟨b, off + j, none⟩) hlt, hc j hj, hu]

theorem one_cells {vs : List Value} {n : Nat} (hv : vs.length = n) (hs : ∀ j, j < n → ∃ ra rl rc, vs[j]? = some (.slice ra rl rc)) : ∀ u ∈ vs, u.oneCell' = true := by
  intro u hu
  obtain ⟨j, hj, rfl⟩ := List.getElem_of_mem hu
  obtain ⟨ra, rl, rc, h⟩ := hs j (by omega)
  rw [List.getElem?_eq_getElem hj] at h
  simp only [Option.some.injEq] at h
  rw [h]; rfl

theorem own_some {w : World} {base n : Nat} {t : TypeId} {v : Value} {xs : List Value} (h : w.ownsRow base t 1 v n xs) (h1 : 1 ≤ n) : ∃ g c, v = .slice (some ⟨g, 0, none⟩) n c ∧ base ≤ g ∧ n ≤ c := by
  rcases h.2 with ⟨_, h0⟩ | ⟨g, cap, cur, hv, hb, _, hc, _⟩
  · omega
  · exact ⟨g, cap, hv, hb, hc⟩

set_option maxHeartbeats 400000 in
theorem clone_any (b off n cap : Nat) (w : World) (vs : List Value) (hv : vs.length = n) (hc : ∀ j, j < n → w.cell? ⟨b, off + j, none⟩ = vs[j]?) (hs : ∀ j, j < n → ∃ ra rl rc, vs[j]? = some (.slice ra rl rc)) (h1 : 1 ≤ n) (h4 : n ≤ 4) (hb : b < w.heap.size) :
    Calls Tryz.prog 83 #[.slice (some ⟨b, off, none⟩) n cap] w fun e w' => ∃ g c, e = .returned (.slice (some ⟨g, 0, none⟩) n c) ∧ w.heap.size ≤ g ∧ n ≤ c ∧ w'.ownsRow w.heap.size 22 1 (.slice (some ⟨g, 0, none⟩) n c) n vs ∧ Below w.heap.size w w' := by
  have HC : Hid (∀ j, j < n → w.cell? ⟨b, off + j, none⟩ = vs[j]?) := hc
  have HS : Hid (∀ j, j < n → ∃ ra rl rc, vs[j]? = some (.slice ra rl rc)) := hs
  have HV : Hid (vs.length = n) := hv
  clear hc hs hv
  obtain ⟨i0, hif, hz0, hz1, hz2⟩ := info_parts Tryz.infoSl
  go_enter Tryz.func83, Tryz.ntmps83
  have qn : ∀ (w : World) (a : Option Addr) (n c n' c' : Nat), (binOp .eql 102 (.slice a n c) (.slice none n' c')).run Tryz.prog w = .ok (.bool a.isNone) w := fun w a n c n' c' => Lib.run_eql_slice_nil w _ _ a n c n' c' Tryz.underlying102
  go_wp2_with (at_builtin; refine wpList_append_own _ rfl (.tmp 5) (.tmp 6) 102 rfl w.heap.size 22 i0 (.slice none 0 0) 1 24 Tryz.underlying102 hif hz0 hz1 hz2 rfl (by decide) _ 0 [] rfl ?o1 ⟨b, off, none⟩ n cap vs rfl ?o2 ?o3 ?o4 ?o5 ?o6 ?o7 ?_)
  case o1 => exact World.ownsRow_made w #[] 0 (Nat.le_refl _) (Nat.zero_le _) rfl
  case o2 => rw [HV.out, Nat.mul_one]
  case o3 => exact news_at (balloc _ _) hb HV.out HC.out
  case o4 => exact one_cells HV.out HS.out
  case o5 => unfold maxLen; omega
  case o6 => omega
  case o7 => simp
  intro v' w1 hown hgrow _
  obtain ⟨g, c, hv, hg, hn⟩ := own_some hown h1
  subst hv
  have HO : Hid _ := hown
  have hB : Below w.heap.size w w1 := Below.grown (balloc _ _) hgrow (by simp) (fun j hj => by simp [Value.ownBlock] at hj; omega)
  clear hown hgrow
  go_wp2_with fail
  go_ret
  exact ⟨g, c, rfl, hg, hn, HO.out, hB⟩

namespace Num
theorem BdL.set {B : Int} {ls : List (List Int)} (h : BdL B ls) (k : Nat) (l : List Int) (hl : ∀ j : Nat, -B ≤ l[j]?.getD 0 ∧ l[j]?.getD 0 ≤ B) : BdL B (ls.set k l) := by
  intro i j
  unfold at2
  rw [List.getElem?_set]
  by_cases hk : k = i
  · by_cases hi : k < ls.length
    · simp only [hk, if_true]; rw [if_pos (by omega)]; exact hl j
    · rw [if_pos hk, if_neg hi]; have := hl 0; simp; omega
  · rw [if_neg hk]; exact h i j

theorem mem_set_le {ls : List (List Int)} {n : Nat} (h : ∀ l ∈ ls, l.length ≤ n) (k : Nat) (x : List Int) (hx : x.length ≤ n) : ∀ l ∈ ls.set k x, l.length ≤ n := by
  intro l hl
  rcases List.mem_or_eq_of_mem_set hl with h1 | rfl
  · exact h l h1
  · exact hx
end Num

/-- Lines, one of them put in the place of another in a row of the call's own. -/
theorem lines_set {w w' : World} {base g c n k : Nat} {vs : List Value} {ls : List (List Int)} {wa : Option Addr} {wl wc : Nat} {want : List Int} (hls : ls.length = n) (ho : w'.ownsRow base 22 1 (.slice (some ⟨g, 0, none⟩) n c) n vs) (hb : Below w.heap.size w w') (hg : w.heap.size ≤ g)
    (hin : ∀ j, j < n → ∃ ra rl rc, vs[j]? = some (.slice ra rl rc) ∧ Ints w ra rl (ls[j]?.getD []) ∧ rl ≤ rc) (hk : k < n) (hw : Ints w wa wl want) (hwc : wl ≤ wc) :
    Lines (w'.setCell ⟨g, k, none⟩ (.slice wa wl wc)) (some ⟨g, 0, none⟩) n (ls.set k want) := by
  have hst := World.ownsRow.stored ho k (.slice wa wl wc)
  have hlt := (World.ownsRow.lt hst.1 g rfl).2
  have hb' : Below w.heap.size w (w'.setCell ⟨g, k, none⟩ (.slice wa wl wc)) := bset hb hg _
  have hl : vs.length = n := by simpa using ho.1
  refine ⟨by simp [hls], Or.inr ⟨g, 0, rfl, hlt, fun j hj => ?_⟩⟩
  rw [Nat.zero_add, World.ownsRow.cellAt hst.1 j (by omega)]
  by_cases hjk : k = j
  · subst hjk
    refine ⟨wa, wl, wc, by rw [List.getElem?_set_self (by omega)], ?_, hwc⟩
    rw [List.getElem?_set_self (by omega)]
    exact hw.below hb' (Nat.le_refl _)
  · obtain ⟨ra, rl, rc, h1, h2, h3⟩ := hin j hj
    refine ⟨ra, rl, rc, by rw [List.getElem?_set_ne hjk]; exact h1, ?_, h3⟩
    rw [List.getElem?_set_ne hjk]
    exact h2.below hb' (Nat.le_refl _)

set_option maxHeartbeats 800000 in
theorem shares_any (a : Option Addr) (n cap : Nat) (ls : List (List Int)) (w : World) (hl : Lines w a n ls) (wa : Option Addr) (wl wc : Nat) (want : List Int) (hw : Ints w wa wl want) (hwl : wl ≤ wc) (h1 : 1 ≤ n) (h4 : n ≤ 4) (h4w : wl ≤ 4) (hlen : ∀ l ∈ ls, l.length ≤ 4) (hB : Num.BdL 400 ls) (hwB : ∀ j : Nat, -400 ≤ want[j]?.getD 0 ∧ want[j]?.getD 0 ≤ 400) :
    Calls Tryz.prog 48 #[.slice a n cap, .slice wa wl wc] w fun e w' => ∃ g, e = .returned (.slice (some ⟨g, 0, none⟩) n n) ∧ w.heap.size ≤ g ∧ Ints w' (some ⟨g, 0, none⟩) n ((List.range n).map fun k => Num.vol (ls.set k want) Num.none4) ∧ Below w.heap.size w w' := by
  have HLN : Hid (n = ls.length) := hl.1
  obtain ⟨b, off, ha, hbs, vs, hvl, hvc, hvs⟩ := hl.shape h1
  have KC : Hid (∀ w', Below w.heap.size w w' → Calls Tryz.prog 83 #[.slice (some ⟨b, off, none⟩) n cap] w' fun e w'' => ∃ g c, e = .returned (.slice (some ⟨g, 0, none⟩) n c) ∧ w'.heap.size ≤ g ∧ n ≤ c ∧ w''.ownsRow w'.heap.size 22 1 (.slice (some ⟨g, 0, none⟩) n c) n vs ∧ Below w'.heap.size w' w'') := by
    intro w' h
    exact clone_any b off n cap w' vs hvl (fun j hj => by rw [h.cell (p := ⟨b, off + j, none⟩) hbs]; exact hvc j hj) (fun j hj => by obtain ⟨ra, rl, rc, q, _⟩ := hvs j hj; exact ⟨ra, rl, rc, q⟩) h1 h4 (Nat.lt_of_lt_of_le hbs h.size)
  have KL : Hid (∀ (w' : World) (base g c k : Nat), w'.ownsRow base 22 1 (.slice (some ⟨g, 0, none⟩) n c) n vs → Below w.heap.size w w' → w.heap.size ≤ g → k < n → Lines (w'.setCell ⟨g, k, none⟩ (.slice wa wl wc)) (some ⟨g, 0, none⟩) n (ls.set k want)) :=
    fun w' base g c k ho hb hg hk => lines_set HLN.out.symm ho hb hg hvs hk hw hwl
  have KV : Hid (∀ (w' : World) (g c k : Nat), Lines w' (some ⟨g, 0, none⟩) n (ls.set k want) → n ≤ c → Calls Tryz.prog 47 #[.slice (some ⟨g, 0, none⟩) n c] w' fun e w'' => e = .returned (.int .i64 (Num.vol (ls.set k want) Num.none4)) ∧ Below w'.heap.size w' w'') :=
    fun w' g c k hl hc => volume_any _ _ _ _ w' hl hc h4 (Num.mem_set_le hlen k want (by have := hw.1; omega)) (hB.set k want hwB)
  clear hl hvs hw hlen hB hwB hvc hvl
  generalize hf : (fun k => Num.vol (ls.set k want) Num.none4) = f
  have HF : Hid (∀ k, Num.vol (ls.set k want) Num.none4 = f k) := fun k => by rw [← hf]
  clear hf
  subst ha
  obtain ⟨i0, hif, hz0, hz1, hz2⟩ := info_parts Tryz.info64
  go_enter Tryz.func48, Tryz.ntmps48
  go_wp2_with (at_make; refine wpList_make_full _ rfl (.tmp 9) (.tmp 9) 22 rfl w.heap.size 2 i0 (.int .i64 0) 1 Tryz.underlying22 hif hz0 hz1 .i64 .i64 _ _ n rfl rfl rfl rfl (by rw [hz2]; omega) (by unfold maxLen; omega) (Nat.le_refl _) ?_; intro w3 hown hgrow; have hb3 := made_below hgrow; have HO : Hid _ := hown; clear hown hgrow)
  have HO3 : Hid (Own w3 w.heap.size w.heap.size n (Num.fill f n 0)) := Own.made _ HO.out
  clear HO
  go_loopw [13] (fun i wr => ∃ k : Nat, k ≤ n ∧ i = .int .i64 k ∧ Own wr w.heap.size w.heap.size n (Num.fill f n k) ∧ Below w.heap.size w wr) (fun i _ => n - (intOf i).toNat)
  case atStart => exact ⟨0, Nat.zero_le _, rfl, HO3.out, hb3⟩
  case round =>
    obtain ⟨k, hk, rfl, hO, hB⟩ := hrel
    have HO : Hid (Own wr w.heap.size w.heap.size n (Num.fill f n k)) := hO
    clear HO3 hb3
    have hgw := hO.lt.2
    clear hO
    by_cases hlt : k < n
    · go_wp2_with fail
      refine (KC.out _ hB).mono ?_
      rintro e w5 ⟨g5, c5, rfl, hg5, hc5, ho5, hb5⟩
      have HL6 : Hid (Lines (w5.setCell ⟨g5, k, none⟩ (.slice wa wl wc)) (some ⟨g5, 0, none⟩) n (ls.set k want)) := KL.out _ _ _ _ _ ho5 (bstep hB hb5) (by omega) hlt
      obtain ⟨v, v0⟩ : ∃ v, w5.cell? ⟨g5, k, none⟩ = some v := by
        rw [World.ownsRow.cellAt ho5 k (by omega)]
        exact ⟨_, List.getElem?_eq_getElem (by have := ho5.1; omega)⟩
      have v1 := World.ownsRow.frozenAt ho5 k
      have HO5 : Hid (Own (w5.setCell ⟨g5, k, none⟩ (.slice wa wl wc)) w.heap.size w.heap.size n (Num.fill f n k)) := by
        have h := Own.below HO.out hb5 hgw
        exact Own.below h (bset (Below.refl (w.heap.size + 1) _) (by omega) _) (by omega)
      have hB5 : Below w.heap.size w (w5.setCell ⟨g5, k, none⟩ (.slice wa wl wc)) := bset (bstep hB hb5) (by omega) _
      clear ho5 hb5
      go_wp2_with fail
      refine (KV.out _ _ _ k HL6.out hc5).mono ?_
      rintro e w7 ⟨rfl, hb7⟩
      rw [HF.out k]
      have HO7 : Hid (Own w7 w.heap.size w.heap.size n (Num.fill f n k)) := Own.below HO5.out hb7 (by have := HO5.out.lt.2; omega)
      obtain ⟨⟨u, u0⟩, u1⟩ := Own.cell' HO7.out k hlt
      have hB7 := bstep hB5 hb7
      clear hb7 v0 v1 hB5
      go_wp2_with fail
      go_roundw
      case rel => exact ⟨k + 1, hlt, by go_num, by rw [← Num.fill_set _ _ _ (f k) hlt rfl]; exact Own.store HO7.out k (f k), bset hB7 (Nat.le_refl _) _⟩
      case measure => simp [intOf]; omega
    · have hke : k = n := by omega
      subst hke
      go_wp2_with fail
      go_ret
      exact ⟨w.heap.size, rfl, Nat.le_refl _, by rw [← Num.fill_all]; exact Own.ints HO.out, hB⟩

end Go.Proofs.YtipcbhodlgoflabGreat

/- What corner.turned does. -/
namespace Go.Proofs.YtipcbhodlgoflabGreat
open Go.RowKit

theorem Ints.keep {w w' : World} {g n B : Nat} {l : List Int} (h : Ints w (some ⟨g, 0, none⟩) n l) (hb : Below B w w') (hg : g < B ∨ n = 0) : Ints w' (some ⟨g, 0, none⟩) n l := by
  obtain ⟨h1, h2⟩ := h
  refine ⟨h1, ?_⟩
  rcases h2 with h2 | ⟨b, off, ha, hs, hc⟩
  · exact Or.inl h2
  · rcases hg with hg | hg
    · simp only [Option.some.injEq, Addr.mk.injEq] at ha
      refine Or.inr ⟨b, off, by simp [ha], Nat.lt_of_lt_of_le hs hb.size, fun j hj => ?_⟩
      rw [hb.cell (p := ⟨b, off + j, none⟩) (by dsimp only; omega)]
      exact hc j hj
    · exact Or.inl hg

theorem Ints.lt {w : World} {g n : Nat} {l : List Int} (h : Ints w (some ⟨g, 0, none⟩) n l) : g < w.heap.size ∨ n = 0 := by
  rcases h.2 with h2 | ⟨b, off, ha, hs, _⟩
  · exact Or.inr h2
  · simp only [Option.some.injEq, Addr.mk.injEq] at ha
    exact Or.inl (by omega)

/-- A row that was laid at gi, behind all others, put into the place i, and filled there. -/
theorem OwnL.push {wr w5 w7 : World} {base g n i m : Nat} {f : Nat → List Int} (h : OwnL wr base g n i f) (hi : i < n) (h5 : Below wr.heap.size wr w5) (h7 : Below wr.heap.size (w5.setCell ⟨g, i, none⟩ (.slice (some ⟨wr.heap.size, 0, none⟩) m m)) w7)
    (hI : Ints w7 (some ⟨wr.heap.size, 0, none⟩) m (f i)) : OwnL w7 base g n (i + 1) f := by
  have hlt := h.lt.2
  obtain ⟨vs, h, hin⟩ := h
  have hl : vs.length = n := by simpa using h.1
  refine ⟨vs.set i (.slice (some ⟨wr.heap.size, 0, none⟩) m m), own_below (World.ownsRow.stored (own_below h h5 hlt) i _).1 h7 hlt, fun j hj => ?_⟩
  by_cases hjk : j = i
  · subst hjk
    exact ⟨_, m, by rw [List.getElem?_set_self (by omega)], hlt, hI⟩
  · obtain ⟨gj, m', h1, h2, h3⟩ := hin j (by omega)
    exact ⟨gj, m', by rw [List.getElem?_set_ne (by omega)]; exact h1, h2, ((h3.below h5 (Nat.le_refl _)).setOff h2 _).keep h7 h3.lt⟩

set_option maxHeartbeats 800000 in
theorem turned_any (a : Option Addr) (n cap : Nat) (ls : List (List Int)) (w : World) (hl : Lines w a n ls) (h1 : 1 ≤ n) (h4 : n ≤ 4) (hlen : ∀ l ∈ ls, l.length = n) :
    Calls Tryz.prog 49 #[.slice a n cap] w fun e w' => ∃ g, e = .returned (.slice (some ⟨g, 0, none⟩) n n) ∧ w.heap.size ≤ g ∧ Lines w' (some ⟨g, 0, none⟩) n (Num.turnL ls) ∧ Below w.heap.size w w' := by
  have HLN : Hid (n = ls.length) := hl.1
  have HL : Hid (Lines w a n ls) := hl
  have HT : Hid (Num.turnL ls = (List.range n).map fun i => (List.range n).map fun k => Num.at2 ls k i) := by have := HLN.out; rw [this]; exact rfl
  have HLL : Hid (∀ k, k < n → (ls[k]?.getD []).length = n) := fun k hk => by
    have := HLN.out
    rw [List.getElem?_eq_getElem (by omega)]
    exact hlen _ (List.getElem_mem _)
  obtain ⟨b, off, ha, hbs, _⟩ := hl.shape h1
  clear hl hlen
  generalize hf : (fun i => (List.range n).map fun k => Num.at2 ls k i) = f at HT
  have HF : Hid (∀ i, f i = (List.range n).map fun k => Num.at2 ls k i) := fun i => by rw [← hf]
  clear hf
  obtain ⟨i0, hif, hz0, hz1, hz2⟩ := info_parts Tryz.infoSl
  obtain ⟨j0, hjf, hy0, hy1, hy2⟩ := info_parts Tryz.info64
  subst ha
  go_enter Tryz.func49, Tryz.ntmps49
  go_wp2_with (at_make; refine wpList_make_full _ rfl (.tmp 8) (.tmp 8) 102 rfl w.heap.size 22 i0 (.slice none 0 0) 1 Tryz.underlying102 hif hz0 hz1 .i64 .i64 _ _ n rfl rfl rfl rfl (by rw [hz2]; omega) (by unfold maxLen; omega) (Nat.le_refl _) ?_; intro w3 hown hgrow; have hb3 := made_below hgrow; have HO : Hid _ := hown; clear hown hgrow)
  have HO3 : Hid (OwnL w3 w.heap.size w.heap.size n 0 f) := OwnL.made _ HO.out
  clear HO
  go_loopw [12] (fun i wr => ∃ k : Nat, k ≤ n ∧ i = .int .i64 k ∧ OwnL wr w.heap.size w.heap.size n k f ∧ Below w.heap.size w wr) (fun i _ => n - (intOf i).toNat)
  case atStart => exact ⟨0, Nat.zero_le _, rfl, HO3.out, hb3⟩
  case round =>
    obtain ⟨i, hi, rfl, hO, hB⟩ := hrel
    have HO : Hid (OwnL wr w.heap.size w.heap.size n i f) := hO
    clear HO3 hb3
    have hgw := hO.lt.2
    by_cases hlt : i < n
    · obtain ⟨⟨u, u0⟩, u1⟩ := hO.cell' i hlt
      clear hO
      go_wp2_with (at_make; refine wpList_make_full _ rfl (.tmp 18) (.tmp 18) 22 rfl wr.heap.size 2 j0 (.int .i64 0) 1 Tryz.underlying22 hjf hy0 hy1 .i64 .i64 _ _ n rfl rfl rfl rfl (by rw [hy2]; omega) (by unfold maxLen; omega) (Nat.le_refl _) ?_; intro w5 hown hgrow; have hb5 := made_below hgrow; have HO5 : Hid _ := hown; have x0 := carry hb5 u0; have x1 := carryF hb5 u0 u1; clear hown hgrow)
      have hs5 : wr.heap.size < w5.heap.size := (World.ownsRow.lt HO5.out wr.heap.size rfl).2
      have HO6 : Hid (Own (w5.setCell ⟨w.heap.size, i, none⟩ (.slice (some ⟨wr.heap.size, 0, none⟩) n n)) wr.heap.size wr.heap.size n (Num.fill (fun k => Num.at2 ls k i) n 0)) := by
        have h := Own.made (fun k => Num.at2 ls k i) HO5.out
        exact ownsRow_setCell_below h (by show w.heap.size < _; omega) _
      have hc6 : (w5.setCell ⟨w.heap.size, i, none⟩ (.slice (some ⟨wr.heap.size, 0, none⟩) n n)).cell? ⟨w.heap.size, i, none⟩ = some (.slice (some ⟨wr.heap.size, 0, none⟩) n n) := World.cell?_setCell_same' _ _ _ (by rw [x0]; rfl)
      have hB6 : Below w.heap.size w (w5.setCell ⟨w.heap.size, i, none⟩ (.slice (some ⟨wr.heap.size, 0, none⟩) n n)) := bset (bstep hB hb5) (Nat.le_refl _) _
      have HP : Hid (∀ w7, Below wr.heap.size (w5.setCell ⟨w.heap.size, i, none⟩ (.slice (some ⟨wr.heap.size, 0, none⟩) n n)) w7 → Ints w7 (some ⟨wr.heap.size, 0, none⟩) n (f i) → OwnL w7 w.heap.size w.heap.size n (i + 1) f) := fun w7 h hI => OwnL.push HO.out hlt hb5 h hI
      clear HO5 x0 x1 hb5 u0 u1
      go_wp2_with fail
      generalize w5.setCell ⟨w.heap.size, i, none⟩ (.slice (some ⟨wr.heap.size, 0, none⟩) n n) = w6 at *
      generalize wr.heap.size = gi at *
      go_loopw [23] (fun q wr => ∃ k : Nat, k ≤ n ∧ q = .int .i64 k ∧ Own wr gi gi n (Num.fill (fun k => Num.at2 ls k i) n k) ∧ Below gi w6 wr) (fun q _ => n - (intOf q).toNat)
      case atStart => exact ⟨0, Nat.zero_le _, rfl, HO6.out, Below.refl _ _⟩
      case round =>
        obtain ⟨k, hk, rfl, hOs, hbl⟩ := hrel
        have HOs : Hid (Own wr gi gi n (Num.fill (fun k => Num.at2 ls k i) n k)) := hOs
        have hBs : Below w.heap.size w wr := hB6.trans (hbl.mono (by omega))
        clear HO6
        by_cases hkt : k < n
        · rcases (Lines.below HL.out hBs (Nat.le_refl _)).2 with h | ⟨b1, off1, ha1, hbs1, hc1⟩
          · omega
          simp only [Option.some.injEq, Addr.mk.injEq] at ha1
          obtain ⟨rfl, rfl, _⟩ := ha1
          obtain ⟨ra, rl, rc, c0, hi2, hrc⟩ := hc1 k hkt
          clear hc1
          have hrl : rl = n := by have := hi2.1; have := HLL.out k hkt; omega
          subst hrl
          rcases hi2.2 with h | ⟨b2, o2, ha2, hb2, hc2⟩
          · omega
          have c1 := hc2 i hlt
          clear hc2 hi2
          have c2 : wr.cell? ⟨w.heap.size, i, none⟩ = some (.slice (some ⟨gi, 0, none⟩) rl rl) := by rw [hbl.cell (by show w.heap.size < _; omega)]; exact hc6
          obtain ⟨⟨v, v0⟩, v1⟩ := hOs.cell' k hkt
          clear hOs
          have HE : Hid ((ls[k]?.getD [])[i]?.getD 0 = Num.at2 ls k i) := rfl
          generalize (ls[k]?.getD [])[i]?.getD 0 = x at c1 HE
          subst ha2
          go_wp2_with fail
          go_region
          go_wp2_with fail
          go_roundw
          case rel => exact ⟨k + 1, hkt, by go_num, by rw [← Num.fill_set _ _ _ x hkt HE.out]; exact Own.store HOs.out k x, (bset hbl (Nat.le_refl _) _).drew⟩
          case measure => simp [intOf]; omega
        · have hke : k = n := by omega
          subst hke
          clear hOs
          have HI7 : Hid (Ints wr (some ⟨gi, 0, none⟩) k (f i)) := by rw [HF.out, ← Num.fill_all]; exact Own.ints HOs.out
          have HO7 : Hid (OwnL wr w.heap.size w.heap.size k (i + 1) f) := HP.out wr hbl HI7.out
          go_wp2_with fail
          go_roundw
          case rel => exact ⟨i + 1, hlt, by go_num, HO7.out, hBs⟩
          case measure => simp [intOf]; omega
    · have hke : i = n := by omega
      subst hke
      clear hO
      go_wp2_with fail
      go_ret
      exact ⟨w.heap.size, rfl, Nat.le_refl _, by rw [HT.out]; exact OwnL.lines HO.out, hB⟩

end Go.Proofs.YtipcbhodlgoflabGreat

/- What corner.areChosen and the document's Right do. -/
namespace Go.Proofs.YtipcbhodlgoflabGreat
open Go.RowKit

namespace Num
def leastN (at' : List Int) : Nat → Int
  | 0 => 0
  | k + 1 => at'[k]?.getD 0 + 1
def okN (at' : List Int) (N : Nat) : Nat → Bool
  | 0 => true
  | k + 1 => okN at' N k && (decide (leastN at' k ≤ at'[k]?.getD 0) && decide (at'[k]?.getD 0 < N))
/-- As many numbers of columns as there are rows, rising. -/
def rightB (at' : List Int) (m N : Nat) : Bool := (at'.length == m) && okN at' N m

theorem okN_succ (at' : List Int) (N k : Nat) : okN at' N (k + 1) = (okN at' N k && (decide (leastN at' k ≤ at'[k]?.getD 0) && decide (at'[k]?.getD 0 < N))) := rfl

theorem okN_bad (at' : List Int) (N k m : Nat) (hk : k < m) (h : at'[k]?.getD 0 < leastN at' k ∨ (N : Int) ≤ at'[k]?.getD 0) : okN at' N m = false := by
  induction m with
  | zero => omega
  | succ m ih =>
    rw [okN_succ]
    by_cases hm : k = m
    · subst hm
      rcases h with h | h
      · have : ¬ leastN at' k ≤ at'[k]?.getD 0 := by omega
        simp [this]
      · have : ¬ at'[k]?.getD 0 < N := by omega
        simp [this]
    · rw [ih (by omega)]; rfl

theorem okN_all (at' : List Int) (N m : Nat) (h : okN at' N m = true) : ∀ k, k < m → leastN at' k ≤ at'[k]?.getD 0 ∧ at'[k]?.getD 0 < N := by
  induction m with
  | zero => intro k hk; omega
  | succ m ih =>
    rw [okN_succ] at h
    simp only [Bool.and_eq_true, decide_eq_true_eq] at h
    intro k hk
    by_cases hm : k = m
    · subst hm; exact h.2
    · exact ih h.1 k (by omega)

theorem leastN_nonneg (at' : List Int) (N m : Nat) (h : okN at' N m = true) : ∀ k, k ≤ m → 0 ≤ leastN at' k := by
  intro k hk
  induction k with
  | zero => exact Int.le_refl _
  | succ k ih =>
    have := okN_all at' N m h k (by omega)
    have := ih (by omega)
    show 0 ≤ at'[k]?.getD 0 + 1
    omega

theorem right_all (at' : List Int) (m N : Nat) (h : rightB at' m N = true) : at'.length = m ∧ ∀ k, k < m → 0 ≤ at'[k]?.getD 0 ∧ at'[k]?.getD 0 < N := by
  unfold rightB at h
  simp only [Bool.and_eq_true, beq_iff_eq] at h
  refine ⟨h.1, fun k hk => ?_⟩
  have := okN_all at' N m h.2 k hk
  have := leastN_nonneg at' N m h.2 k (by omega)
  omega
end Num

set_option maxHeartbeats 800000 in
theorem chosen_any (ca : Option Addr) (cl cc : Nat) (ra : Option Addr) (rl rc : Nat) (w : World) (aa : Option Addr) (al ac : Nat) (at' : List Int) (ha : Ints w aa al at') (hal : al ≤ 9223372036854775807) (N : Nat) (hN : cl + rl = N) (h8 : N ≤ 8) :
    Calls Tryz.prog 45 #[.agg #[.slice ca cl cc, .slice ra rl rc], .slice aa al ac] w fun e w' => e = .returned (.bool (Num.rightB at' rl N)) ∧ Below w.heap.size w w' := by
  have HA : Hid (Ints w aa al at') := ha
  have HL : Hid (al = at'.length) := ha.1
  have HN : Hid (cl + rl = N) := hN
  have hr8 : rl ≤ 8 := by omega
  clear ha hN
  by_cases h1 : al = rl
  · subst h1
    have HF : Hid (Num.rightB at' al N = Num.okN at' N al) := by have := HL.out; show (_ && _) = _; rw [← this]; simp
    go_enter Tryz.func45, Tryz.ntmps45
    go_wp2_with fail
    go_loopw [5, 16] (fun s i wr => ∃ k : Nat, k ≤ al ∧ i = .int .i64 k ∧ s = .int .i64 (Num.leastN at' k) ∧ Num.okN at' N k = true ∧ Below (w.alloc (.cells #[.slice ca cl cc, .slice ra al rc] 25)).heap.size (w.alloc (.cells #[.slice ca cl cc, .slice ra al rc] 25)) wr) (fun _ i _ => al - (intOf i).toNat)
    case atStart => exact ⟨0, Nat.zero_le _, rfl, rfl, rfl, Below.refl _ _⟩
    case round =>
      obtain ⟨k, hk, rfl, rfl, hok, hbl⟩ := hrel
      have HOK : Hid _ := hok
      clear hok
      have hB : Below w.heap.size w wr := binto hbl
      by_cases hlt : k < al
      · rcases (Ints.below HA.out hB (Nat.le_refl _)).2 with h | ⟨b, off, ha, hbs, hc⟩
        · omega
        have hck := hc k hlt
        clear hc
        obtain ⟨⟨e0, e1⟩, _⟩ := kept2 hbl
        have HB : Hid (at'[k]?.getD 0 < Num.leastN at' k ∨ (N : Int) ≤ at'[k]?.getD 0 → Num.rightB at' al N = false) := fun h => by rw [HF.out]; exact Num.okN_bad at' N k al hlt h
        have HS : Hid (Num.okN at' N (k + 1) = (Num.okN at' N k && (decide (Num.leastN at' k ≤ at'[k]?.getD 0) && decide (at'[k]?.getD 0 < N)))) := Num.okN_succ at' N k
        have HLE : Hid (Num.leastN at' (k + 1) = at'[k]?.getD 0 + 1) := rfl
        have hl0 := Num.leastN_nonneg at' N k HOK.out k (Nat.le_refl _)
        generalize at'[k]?.getD 0 = x at hck HB HS HLE
        generalize Num.leastN at' k = y at *
        subst ha
        by_cases hx : x < y
        · go_wp2_with fail
          go_ret
          exact ⟨ret_bool (HB.out (Or.inl hx)).symm, hB⟩
        · have hx' : decide (x < y) = false := by simpa using hx
          by_cases hx2 : (N : Int) ≤ x
          · go_wp2_with fail
            refine (width_any _ _ _ _ _ _ _ N HN.out h8).mono ?_
            rintro e w5 ⟨rfl, hb5⟩
            go_wp2_with fail
            go_ret
            exact ⟨ret_bool (HB.out (Or.inr hx2)).symm, bstep hB hb5⟩
          · have hx2' : decide ((N : Int) ≤ x) = false := by simpa using hx2
            go_wp2_with fail
            refine (width_any _ _ _ _ _ _ _ N HN.out h8).mono ?_
            rintro e w5 ⟨rfl, hb5⟩
            go_wp2_with fail
            go_roundw
            case rel => exact ⟨k + 1, hlt, by go_num, by rw [HLE.out], by rw [HS.out, HOK.out]; simp; omega, bstep hbl hb5⟩
            case measure => simp [intOf]; omega
      · have hke : k = al := by omega
        subst hke
        go_wp2_with fail
        go_ret
        exact ⟨ret_bool (by rw [HF.out, HOK.out]), hB⟩
  · have h1' : ((al : Int) == (rl : Int)) = false := beq_eq_false_iff_ne.2 (by omega)
    have h1'' : ((al : Int) != (rl : Int)) = true := by simp; omega
    have HF : Hid (Num.rightB at' rl N = false) := by have := HL.out; show (_ && _) = _; rw [show (at'.length == rl) = false from beq_eq_false_iff_ne.2 (by omega)]; rfl
    go_enter Tryz.func45, Tryz.ntmps45
    go_wp2_with fail
    go_ret
    exact ⟨ret_bool HF.out.symm, balloc _ _⟩

end Go.Proofs.YtipcbhodlgoflabGreat

/- The corner of a program that columns make, in plain numbers. -/
namespace Go.Proofs.YtipcbhodlgoflabGreat
namespace Num

def chosenL (p : Lp) (at' : List Int) (m : Nat) : List (List Int) := (List.range m).map fun k => (List.range m).map (hasF p (atF at' k))
def worthsL (p : Lp) (at' : List Int) (m : Nat) : List Int := (List.range m).map fun k => p.costs[atF at' k]?.getD 0
def mostsL (p : Lp) (m : Nat) : List Int := (List.range m).map (mostF p)
def sharesL (ls : List (List Int)) (want : List Int) (m : Nat) : List Int := (List.range m).map fun k => vol (ls.set k want) none4
def denL (p : Lp) (at' : List Int) (m : Nat) : Int := vol (chosenL p at' m) none4
def priceL (p : Lp) (at' : List Int) (m : Nat) : List Int := sharesL (turnL (chosenL p at' m)) (worthsL p at' m) m
def xL (p : Lp) (at' : List Int) (m N : Nat) : List Int := spreadN N at' (sharesL (chosenL p at' m) (mostsL p m) m) m
def gainL (p : Lp) (at' : List Int) (m N : Nat) : List Int := (List.range N).map (gainF p (priceL p at' m) (denL p at' m))

theorem at2_range (f : Nat → List Int) (n i j : Nat) : at2 ((List.range n).map f) i j = if i < n then (f i)[j]?.getD 0 else 0 := by
  unfold at2
  by_cases h : i < n
  · rw [getD_range f n i [] h, if_pos h]
  · rw [List.getElem?_eq_none (l := (List.range n).map f) (by simp; omega), if_neg h]; simp

theorem chosen_bd (p : Lp) (hm : p.may = true) (at' : List Int) (m : Nat) : BdL 400 (chosenL p at' m) := by
  intro i j
  unfold chosenL
  rw [at2_range]
  split
  · rw [range_getD]
    split
    · have := hasF_bd p hm (atF at' i) j; omega
    · omega
  · omega

theorem chosen_len (p : Lp) (at' : List Int) (m : Nat) : (chosenL p at' m).length = m ∧ ∀ l ∈ chosenL p at' m, l.length = m := by
  unfold chosenL
  refine ⟨by simp, fun l hl => ?_⟩
  obtain ⟨k, _, rfl⟩ := List.mem_map.1 hl
  simp

theorem turn_len (ls : List (List Int)) (m : Nat) (h : ls.length = m) : (turnL ls).length = m ∧ ∀ l ∈ turnL ls, l.length = m := by
  unfold turnL
  refine ⟨by simp [h], fun l hl => ?_⟩
  obtain ⟨k, _, rfl⟩ := List.mem_map.1 hl
  simp [h]

theorem turn_bd (ls : List (List Int)) (B : Int) (h : BdL B ls) : BdL B (turnL ls) := by
  intro i j
  have h0 := h 0 0
  unfold turnL
  rw [at2_range]
  split
  · rw [range_getD]
    split
    · exact h j i
    · omega
  · omega

theorem worths_bd (p : Lp) (hm : p.may = true) (at' : List Int) (m : Nat) : ∀ j : Nat, -400 ≤ (worthsL p at' m)[j]?.getD 0 ∧ (worthsL p at' m)[j]?.getD 0 ≤ 400 := by
  intro j
  unfold worthsL
  rw [range_getD]
  split
  · exact withinB_iff _ _ (p.may_of hm).2.1 (by omega) _
  · omega

theorem mosts_bd (p : Lp) (hm : p.may = true) (m : Nat) : ∀ j : Nat, -400 ≤ (mostsL p m)[j]?.getD 0 ∧ (mostsL p m)[j]?.getD 0 ≤ 400 := by
  intro j
  unfold mostsL
  rw [range_getD]
  split
  · unfold mostF
    by_cases hj : j < p.rows.length
    · have := (p.row_of hm j hj).2.2; omega
    · rw [List.getElem?_eq_none (l := p.rows) (by omega)]; simp
  · omega

theorem shares_bd (ls : List (List Int)) (want : List Int) (m : Nat) (h : BdL 400 ls) (hl : ls.length ≤ 4) (h4 : ∀ l ∈ ls, l.length ≤ 4) (hw : ∀ j : Nat, -400 ≤ want[j]?.getD 0 ∧ want[j]?.getD 0 ≤ 400) (hw4 : want.length ≤ 4) :
    ∀ j : Nat, -6553600000000 ≤ (sharesL ls want m)[j]?.getD 0 ∧ (sharesL ls want m)[j]?.getD 0 ≤ 6553600000000 := by
  intro j
  unfold sharesL
  rw [range_getD]
  split
  · exact vol_bd' _ _ (h.set j want hw) (mem_set_le h4 j want hw4) (by simpa using hl)
  · omega

theorem den_bd (p : Lp) (hm : p.may = true) (at' : List Int) (m : Nat) (h4 : m ≤ 4) : -6553600000000 ≤ denL p at' m ∧ denL p at' m ≤ 6553600000000 :=
  vol_bd' _ _ (chosen_bd p hm at' m) (fun l hl => by have := (chosen_len p at' m).2 l hl; omega) (by have := (chosen_len p at' m).1; omega)

theorem price_bd (p : Lp) (hm : p.may = true) (at' : List Int) (m : Nat) (h4 : m ≤ 4) : ∀ j : Nat, -6553600000000 ≤ (priceL p at' m)[j]?.getD 0 ∧ (priceL p at' m)[j]?.getD 0 ≤ 6553600000000 := by
  have h := turn_len (chosenL p at' m) m (chosen_len p at' m).1
  exact shares_bd _ _ m (turn_bd _ _ (chosen_bd p hm at' m)) (by omega) (fun l hl => by have := h.2 l hl; omega) (worths_bd p hm at' m) (by unfold worthsL; simpa using h4)

/-- What Look answers: what is wrong, and the three points. -/
structure Look where
  err : Int
  x : List Int
  xd : Int
  y : List Int
  yd : Int
  g : List Int
  gd : Int

def noLook (e : Int) : Look := ⟨e, [], 0, [], 0, [], 0⟩

def look (p : Lp) (at' : List Int) : Look :=
  if p.may = false then noLook 2
  else if rightB at' p.rows.length (p.costs.length + p.rows.length) = false then noLook 3
  else if denL p at' p.rows.length = 0 then noLook 4
  else
    let m := p.rows.length
    let N := p.costs.length + m
    ⟨0, (pt (xL p at' m N) (denL p at' m)).1, (pt (xL p at' m N) (denL p at' m)).2.1, (pt (priceL p at' m) (denL p at' m)).1, (pt (priceL p at' m) (denL p at' m)).2.1,
      (pt (gainL p at' m N) (denL p at' m)).1, (pt (gainL p at' m N) (denL p at' m)).2.1⟩

end Num
end Go.Proofs.YtipcbhodlgoflabGreat
