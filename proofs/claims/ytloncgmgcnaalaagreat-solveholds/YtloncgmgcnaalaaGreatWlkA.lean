/- What walk.first does with the closure of walk.ComesIn, walk.ComesIn, and walk.goesOut. -/
import Derived.Test.YtloncgmgcnaalaaGreatWalkQ
import Derived.Test.YtloncgmgcnaalaaGreatAsk
namespace Go.Proofs.YtloncgmgcnaalaaGreat
open Go.RowKit

set_option maxHeartbeats 400000 in
theorem gainsQ_any (b : Nat) (ga : Option Addr) (gl gc : Nat) (g : List Int) (w : World) (hcell : w.cell? ⟨b, 4, none⟩ = some (.slice ga gl gc)) (hg : Ints w ga gl g) (_ : gl ≤ 8) (k : Nat) (hk : k < gl) :
    Calls Tryz.prog 58 #[.int .i64 k, .pointer (some ⟨b, 0, none⟩)] w fun e w' => e = .returned (.bool (decide (0 < g[k]?.getD 0))) ∧ w' = w := by
  rcases hg.2 with h | ⟨bb, off, ha, hb, hc⟩
  · omega
  have hck := hc k hk
  clear hc hg
  generalize g[k]?.getD 0 = x at *
  subst ha
  go_enter Tryz.func58, Tryz.ntmps58
  go_wp2
  go_ret
  exact ⟨rfl, rfl⟩

set_option maxHeartbeats 800000 in
theorem first_any (b : Nat) (ga : Option Addr) (gl gc : Nat) (g : List Int) (w : World) (hcell : w.cell? ⟨b, 4, none⟩ = some (.slice ga gl gc)) (hg : Ints w ga gl g) (hl8 : gl ≤ 8) :
    Calls Tryz.prog 57 #[.int .i64 gl, .func (.func 58) #[] #[.pointer (some ⟨b, 0, none⟩)]] w fun e w' => e = .returned (.int .i64 (Num.firstN g gl)) ∧ w' = w := by
  have KG : Hid (∀ k : Nat, k < gl → Calls Tryz.prog 58 #[.int .i64 k, .pointer (some ⟨b, 0, none⟩)] w fun e w' => e = .returned (.bool (decide (0 < g[k]?.getD 0))) ∧ w' = w) := fun k hk => gainsQ_any b ga gl gc g w hcell hg hl8 k hk
  clear hcell hg
  have HF : Hid (∀ k : Nat, k < gl → Num.firstN g k = -1 → 0 < g[k]?.getD 0 → Num.firstN g gl = k) := by
    intro k hk h1 h2
    rcases Num.first_ok g gl with ⟨f1, f2⟩ | ⟨s, f1, f2, f3, f4⟩
    · have := f2 k hk; omega
    · rcases Num.first_ok g k with ⟨e1, e2⟩ | ⟨s', _, e2, _⟩
      · have : s = k := by
          by_cases h : s < k
          · have := e2 s h; omega
          · by_cases h' : k < s
            · have := f4 k h'; omega
            · omega
        rw [f2, this]
      · omega
  go_enter Tryz.func57, Tryz.ntmps57
  go_wp2_with fail
  go_loop [7] (fun i => ∃ k : Nat, k ≤ gl ∧ i = .int .i64 k ∧ Num.firstN g k = -1) (fun i => gl - (intOf i).toNat)
  case atStart => exact ⟨0, Nat.zero_le _, rfl, rfl⟩
  case round =>
    obtain ⟨k, hk, rfl, hw⟩ := hrel
    have HW : Hid _ := hw
    clear hw
    by_cases hlt : k < gl
    · go_wp2_with fail
      refine (KG.out k hlt).mono ?_
      rintro e w' ⟨rfl, rfl⟩
      by_cases hx : 0 < g[k]?.getD 0
      · have hx' : decide (0 < g[k]?.getD 0) = true := decide_eq_true hx
        rw [hx']
        go_wp2_with fail
        go_ret
        exact ⟨ret_int (HF.out k hlt HW.out hx).symm, rfl⟩
      · have hx' : decide (0 < g[k]?.getD 0) = false := decide_eq_false hx
        rw [hx']
        go_wp2_with fail
        go_round
        case rel => exact ⟨k + 1, by omega, by go_num, by have := HW.out; unfold Num.firstN; rw [if_neg (by omega), if_neg (by omega)]⟩
        case measure => simp [intOf]; omega
    · have hke : k = gl := by omega
      subst hke
      go_wp2_with fail
      go_ret
      exact ⟨ret_int HW.out.symm, rfl⟩

set_option maxHeartbeats 800000 in
theorem comesIn_any (xa ya ga : Option Addr) (xl xc yl yc gl gc : Nat) (dx dy dg : Int) (g : List Int) (w : World) (hg : Ints w ga gl g) (hl8 : gl ≤ 8) :
    Calls Tryz.prog 32 #[.agg #[.slice xa xl xc, .int .i64 dx, .slice ya yl yc, .int .i64 dy, .slice ga gl gc, .int .i64 dg]] w fun e w' => e = .returned (.int .i64 (Num.firstN g gl)) ∧ Below w.heap.size w w' := by
  have HG : Hid (Ints w ga gl g) := hg
  clear hg
  have hmf : ∀ (fn : Fn) (first cap : Array Value) (w : World), (Instr.makeFunc fn first cap).run Tryz.prog w = .ok (.func fn first cap) w := fun _ _ _ _ => rfl
  have z4 := (Six.new w (.slice xa xl xc) (.int .i64 dx) (.slice ya yl yc) (.int .i64 dy) (.slice ga gl gc) (.int .i64 dg) 43).c4
  go_enter Tryz.func32, Tryz.ntmps32
  go_wp2_with fail
  refine (first_any w.heap.size ga gl gc g _ z4 (Ints.below HG.out (balloc _ _) (Nat.le_refl _)) hl8).mono ?_
  rintro e w3 ⟨rfl, rfl⟩
  go_wp2_with fail
  go_ret
  exact ⟨rfl, balloc _ _⟩

/-- Two numbers of points: their product. -/
theorem Num.prod_bd (a b : Int) (ha : -497664 ≤ a ∧ a ≤ 497664) (hb : -497664 ≤ b ∧ b ≤ 497664) : -247669456896 ≤ a * b ∧ a * b ≤ 247669456896 := by
  have := Num.mul_bd2 a b 497664 497664 ha hb
  omega

set_option maxHeartbeats 1600000 in
theorem goesOut_any (aa xa va : Option Addr) (al ac xl xc vl vc : Nat) (at' x v : List Int) (w : World) (ha : Ints w aa al at') (hx : Ints w xa xl x) (hv : Ints w va vl v) (hxl : xl ≤ 8) (hvx : vl = xl) (h4 : al ≤ 4) (hat : ∀ k, k < al → 0 ≤ at'[k]?.getD 0 ∧ at'[k]?.getD 0 < xl)
    (hxb : ∀ j : Nat, -497664 ≤ x[j]?.getD 0 ∧ x[j]?.getD 0 ≤ 497664) (hvb : ∀ j : Nat, -497664 ≤ v[j]?.getD 0 ∧ v[j]?.getD 0 ≤ 497664) :
    Calls Tryz.prog 74 #[.slice aa al ac, .slice xa xl xc, .slice va vl vc] w fun e w' => e = .returned (.int .i64 (Num.outN at' x v al)) ∧ ∃ n, w' = w.drewN n := by
  subst hvx
  have HA : Hid (Ints w aa al at') := ha
  have HX : Hid (Ints w xa vl x) := hx
  have HV : Hid (Ints w va vl v) := hv
  have HAT : Hid (∀ k, k < al → ∃ j : Nat, at'[k]?.getD 0 = j ∧ j < vl ∧ Num.atF at' k = j) := fun k hk => ⟨(at'[k]?.getD 0).toNat, by have := hat k hk; omega, by have := hat k hk; omega, rfl⟩
  have HXB : Hid _ := hxb
  have HVB : Hid _ := hvb
  clear ha hx hv hat hxb hvb
  go_enter Tryz.func74, Tryz.ntmps74
  go_wp2
  go_loopw [7, 12] (fun o i wr => ∃ (k : Nat), k ≤ al ∧ i = .int .i64 k ∧ o = .int .i64 (Num.outN at' x v k) ∧ ∃ n, wr = w.drewN n) (fun _ i _ => al - (intOf i).toNat)
  case atStart => exact ⟨0, Nat.zero_le _, rfl, rfl, 0, rfl⟩
  case round =>
    obtain ⟨k, hk, rfl, rfl, n, rfl⟩ := hrel
    by_cases hlt : k < al
    · obtain ⟨j, hj1, hj2, hj3⟩ := HAT.out k hlt
      rcases HA.out.2 with h | ⟨ab, ao, ha, hab, hac⟩
      · omega
      rcases HX.out.2 with h | ⟨xb, xo, hx, hxs, hxcell⟩
      · omega
      rcases HV.out.2 with h | ⟨vb, vo, hv, hvs, hvcell⟩
      · omega
      have ca := hac k hlt
      have cx := hxcell j hj2
      have cv := hvcell j hj2
      rw [hj1] at ca
      have HE : Hid (Num.outN at' x v (k + 1) = if 0 < v[Num.atF at' k]?.getD 0 ∧ (Num.outN at' x v k < 0 ∨ x[Num.atF at' k]?.getD 0 * v[Num.atF at' (Num.outN at' x v k).toNat]?.getD 0 < x[Num.atF at' (Num.outN at' x v k).toNat]?.getD 0 * v[Num.atF at' k]?.getD 0) then (k : Int) else Num.outN at' x v k) := rfl
      have bx := HXB.out j
      have bv := HVB.out j
      have HO := Num.out_ok at' x v k
      rw [hj3] at HE
      generalize hxj : x[j]?.getD 0 = xj at *
      generalize hvj : v[j]?.getD 0 = vj at *
      by_cases hvp : 0 < vj
      · rcases HO with ⟨o1, _⟩ | ⟨o, o1, o2, _, _⟩
        · rw [o1] at HE ⊢
          clear hac hxcell hvcell hxj hvj HXB HVB
          subst ha hx hv
          have q1 : decide (0 < vj) = true := decide_eq_true hvp
          go_wp2
          go_quiet (fail)
          go_wp2
          go_roundw
          case rel => exact ⟨k + 1, hlt, by go_num, by rw [HE.out, if_pos ⟨hvp, Or.inl (by omega)⟩], _, rfl⟩
          case measure => simp [intOf]; omega
        · obtain ⟨i, hi1, hi2, hi3⟩ := HAT.out o (by omega)
          have ca2 := hac o (by omega)
          have cx2 := hxcell i hi2
          have cv2 := hvcell i hi2
          rw [hi1] at ca2
          have bx2 := HXB.out i
          have bv2 := HVB.out i
          rw [o2, Int.toNat_natCast, hi3] at HE
          rw [o2]
          generalize x[i]?.getD 0 = xi at *
          generalize v[i]?.getD 0 = vi at *
          have b1 := Num.prod_bd xj vi bx bv2
          have b2 := Num.prod_bd xi vj bx2 bv
          clear hac hxcell hvcell hxj hvj HXB HVB bx bv bx2 bv2
          subst ha hx hv
          have q1 : decide (0 < vj) = true := decide_eq_true hvp
          have q2 : decide ((o : Int) < 0) = false := decide_eq_false (by omega)
          have q3 : wrap64 (xj * vi) = xj * vi := IntWalk.wrap64_in _ (by omega)
          have q4 : wrap64 (xi * vj) = xi * vj := IntWalk.wrap64_in _ (by omega)
          clear b1 b2
          by_cases hc : xj * vi < xi * vj
          · have q5 : decide (xj * vi < xi * vj) = true := decide_eq_true hc
            go_wp2
            go_quiet (fail)
            go_wp2
            go_roundw
            case rel => exact ⟨k + 1, hlt, by go_num, by rw [HE.out, if_pos ⟨hvp, Or.inr hc⟩], _, rfl⟩
            case measure => simp [intOf]; omega
          · have q5 : decide (xj * vi < xi * vj) = false := decide_eq_false hc
            go_wp2
            go_quiet (fail)
            go_wp2
            go_roundw
            case rel => exact ⟨k + 1, hlt, by go_num, by rw [HE.out, if_neg (fun h => h.2.elim (fun h => by omega) (fun h => by omega))], _, rfl⟩
            case measure => simp [intOf]; omega
      · have q1 : decide (0 < vj) = false := decide_eq_false hvp
        generalize Num.outN at' x v k = oo at *
        clear hac hxcell hvcell hxj hvj HXB HVB HO
        subst ha hx hv
        go_wp2
        go_quiet (fail)
        go_wp2
        go_roundw
        case rel => exact ⟨k + 1, hlt, by go_num, by rw [HE.out, if_neg (fun h => by omega)], _, rfl⟩
        case measure => simp [intOf]; omega
    · have hke : k = al := by omega
      subst hke
      go_wp2
      go_ret
      exact ⟨rfl, n, rfl⟩

end Go.Proofs.YtloncgmgcnaalaaGreat

/- A program that asks what a column has. -/
namespace Go.Proofs.YtloncgmgcnaalaaGreat
open Go.RowKit

theorem asking_any (ca : Option Addr) (cl cc : Nat) (ra : Option Addr) (rl rc : Nat) (p : Num.Lp) (w : World) (hr : RowsAt w ra rl p.rows) (hm : p.may = true) (s : Nat) (ma : Option Addr) (mc : Nat) (hma : Ints w ma rl (Num.colF p rl s)) :
    Calls Tryz.prog 77 #[.agg #[.slice ca cl cc, .slice ra rl rc], .slice ma rl mc] w fun e w' => ∃ g, e = .returned (.agg #[.slice ca cl cc, .slice (some ⟨g, 0, none⟩) rl rl]) ∧ RowsAt w' (some ⟨g, 0, none⟩) rl (Num.askP p s).rows ∧ Below w.heap.size w w' := by
  have h4 : rl ≤ 4 := by have := hr.1; have := (p.may_of hm).2.2.1.2; omega
  have h1 : 1 ≤ rl := by have := hr.1; have := (p.may_of hm).2.2.1.1; omega
  have e : (Num.askP p s).rows = Num.askR p.rows (Num.colF p rl s) := by
    have hl := hr.1
    unfold Num.askP Num.askR Num.colF
    refine List.map_congr_left fun i hi => ?_
    rw [List.mem_range] at hi
    rw [Num.range_getD, if_pos (by omega)]
  rw [e]
  exact asking_gen ca cl cc ra rl rc p.rows w hr h4 h1 _ ma mc hma

end Go.Proofs.YtloncgmgcnaalaaGreat
