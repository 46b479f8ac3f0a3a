/- What walk.first does with the closure of walk.ComesIn, walk.ComesIn, and walk.goesOut. -/
import Derived.Test.YtjlkegchkngliaaGreatWalkQ
import Derived.Test.YtjlkegchkngliaaGreatSix
namespace Go.Proofs.YtjlkegchkngliaaGreat
open Go.RowKit

set_option maxHeartbeats 400000 in
theorem gainsQ_any (b : Nat) (ga : Option Addr) (gl gc : Nat) (g : List Int) (w : World) (hcell : w.cell? ⟨b, 4, none⟩ = some (.slice ga gl gc)) (hg : Ints w ga gl g) (_ : gl ≤ 8) (k : Nat) (hk : k < gl) :
    Calls Tryz.prog 58 #[.int .i64 k, .pointer (some ⟨b, 0, none⟩)] w fun e w' => e = .returned (.bool (decide (0 < g[k]?.getD 0))) ∧ w' = w := by
  rcases hg.2 with h | ⟨bb, off, ha, hb, hc⟩
  · omega
  have hck := hc k hk
  clear hc hg
  generalize g[k]?.getD 0 = x at *
  subst ha
  go_enter Tryz.func58, Tryz.ntmps58
  go_wp2
  go_ret
  exact ⟨rfl, rfl⟩

set_option maxHeartbeats 800000 in
theorem first_any (b : Nat) (ga : Option Addr) (gl gc : Nat) (g : List Int) (w : World) (hcell : w.cell? ⟨b, 4, none⟩ = some (.slice ga gl gc)) (hg : Ints w ga gl g) (hl8 : gl ≤ 8) :
    Calls Tryz.prog 57 #[.int .i64 gl, .func (.func 58) #[] #[.pointer (some ⟨b, 0, none⟩)]] w fun e w' => e = .returned (.int .i64 (Num.firstN g gl)) ∧ w' = w := by
  have KG : Hid (∀ k : Nat, k < gl → Calls Tryz.prog 58 #[.int .i64 k, .pointer (some ⟨b, 0, none⟩)] w fun e w' => e = .returned (.bool (decide (0 < g[k]?.getD 0))) ∧ w' = w) := fun k hk => gainsQ_any b ga gl gc g w hcell hg hl8 k hk
  clear hcell hg
  have HF : Hid (∀ k : Nat, k < gl → Num.firstN g k = -1 → 0 < g[k]?.getD 0 → Num.firstN g gl = k) := by
    intro k hk h1 h2
    rcases Num.first_ok g gl with ⟨f1, f2⟩ | ⟨s, f1, f2, f3, f4⟩
    · have := f2 k hk; omega
    · rcases Num.first_ok g k with ⟨e1, e2⟩ | ⟨s', _, e2, _⟩
      · have : s = k := by
          by_cases h : s < k
          · have := e2 s h; omega
          · by_cases h' : k < s
            · have := f4 k h'; omega
            · omega
        rw [f2, this]
      · omega
  go_enter Tryz.func57, Tryz.ntmps57
  go_wp2_with fail
  go_loop [7] (fun i => ∃ k : Nat, k ≤ gl ∧ i = .int .i64 k ∧ Num.firstN g k = -1) (fun i => gl - (intOf i).toNat)
  case atStart => exact ⟨0, Nat.zero_le _, rfl, rfl⟩
  case round =>
    obtain ⟨k, hk, rfl, hw⟩ := hrel
    have HW : Hid _ := hw
    clear hw
    by_cases hlt : k < gl
    · go_wp2_with fail
      refine (KG.out k hlt).mono ?_
      rintro e w' ⟨rfl, rfl⟩
      by_cases hx : 0 < g[k]?.getD 0
      · have hx' : decide (0 < g[k]?.getD 0) = true := decide_eq_true hx
        rw [hx']
        go_wp2_with fail
        go_ret
        exact ⟨ret_int (HF.out k hlt HW.out hx).symm, rfl⟩
      · have hx' : decide (0 < g[k]?.getD 0) = false := decide_eq_false hx
        rw [hx']
        go_wp2_with fail
        go_round
        case rel => exact ⟨k + 1, by omega, by go_num, by have := HW.out; unfold Num.firstN; rw [if_neg (by omega), if_neg (by omega)]⟩
        case measure => simp [intOf]; omega
    · have hke : k = gl := by omega
      subst hke
      go_wp2_with fail
      go_ret
      exact ⟨ret_int HW.out.symm, rfl⟩

set_option maxHeartbeats 800000 in
theorem comesIn_any (xa ya ga : Option Addr) (xl xc yl yc gl gc : Nat) (dx dy dg : Int) (g : List Int) (w : World) (hg : Ints w ga gl g) (hl8 : gl ≤ 8) :
    Calls Tryz.prog 32 #[.agg #[.slice xa xl xc, .int .i64 dx, .slice ya yl yc, .int .i64 dy, .slice ga gl gc, .int .i64 dg]] w fun e w' => e = .returned (.int .i64 (Num.firstN g gl)) ∧ Below w.heap.size w w' := by
  have HG : Hid (Ints w ga gl g) := hg
  clear hg
  have hmf : ∀ (fn : Fn) (first cap : Array Value) (w : World), (Instr.makeFunc fn first cap).run Tryz.prog w = .ok (.func fn first cap) w := fun _ _ _ _ => rfl
  have z4 := (Six.new w (.slice xa xl xc) (.int .i64 dx) (.slice ya yl yc) (.int .i64 dy) (.slice ga gl gc) (.int .i64 dg) 43).c4
  go_enter Tryz.func32, Tryz.ntmps32
  go_wp2_with fail
  refine (first_any w.heap.size ga gl gc g _ z4 (Ints.below HG.out (balloc _ _) (Nat.le_refl _)) hl8).mono ?_
  rintro e w3 ⟨rfl, rfl⟩
  go_wp2_with fail
  go_ret
  exact ⟨rfl, balloc _ _⟩

/-- Two numbers of points: their product. -/
theorem Num.prod_bd (a b : Int) (ha : -497664 ≤ a ∧ a ≤ 497664) (hb : -497664 ≤ b ∧ b ≤ 497664) : -247669456896 ≤ a * b ∧ a * b ≤ 247669456896 := by
  have := Num.mul_bd2 a b 497664 497664 ha hb
  omega

set_option maxHeartbeats 1600000 in
theorem goesOut_any (aa xa va : Option Addr) (al ac xl xc vl vc : Nat) (at' x v : List Int) (w : World) (ha : Ints w aa al at') (hx : Ints w xa xl x) (hv : Ints w va vl v) (hxl : xl ≤ 8) (hvx : vl = xl) (h4 : al ≤ 4) (hat : ∀ k, k < al → 0 ≤ at'[k]?.getD 0 ∧ at'[k]?.getD 0 < xl)
    (hxb : ∀ j : Nat, -497664 ≤ x[j]?.getD 0 ∧ x[j]?.getD 0 ≤ 497664) (hvb : ∀ j : Nat, -497664 ≤ v[j]?.getD 0 ∧ v[j]?.getD 0 ≤ 497664) :
    Calls Tryz.prog 74 #[.slice aa al ac, .slice xa xl xc, .slice va vl vc] w fun e w' => e = .returned (.int .i64 (Num.outN at' x v al)) ∧ ∃ n, w' = w.drewN n := by
  subst hvx
  have HA : Hid (Ints w aa al at') := ha
  have HX : Hid (Ints w xa vl x) := hx
  have HV : Hid (Ints w va vl v) := hv
  have HAT : Hid (∀ k, k < al → ∃ j : Nat, at'[k]?.getD 0 = j ∧ j < vl ∧ Num.atF at' k = j) := fun k hk => ⟨(at'[k]?.getD 0).toNat, by have := hat k hk; omega, by have := hat k hk; omega, rfl⟩
  have HXB : Hid _ := hxb
  have HVB : Hid _ := hvb
  clear ha hx hv hat hxb hvb
  go_enter Tryz.func74, Tryz.ntmps74
  go_wp2
  go_loopw [7, 12] (fun o i wr => ∃ (k : Nat), k ≤ al ∧ i = .int .i64 k ∧ o = .int .i64 (Num.outN at' x v k) ∧ ∃ n, wr = w.drewN n) (fun _ i _ => al - (intOf i).toNat)
  case atStart => exact ⟨0, Nat.zero_le _, rfl, rfl, 0, rfl⟩
  case round =>
    obtain ⟨k, hk, rfl, rfl, n, rfl⟩ := hrel
    by_cases hlt : k < al
    · obtain ⟨j, hj1, hj2, hj3⟩ := HAT.out k hlt
      rcases HA.out.2 with h | ⟨ab, ao, ha, hab, hac⟩
      · omega
      rcases HX.out.2 with h | ⟨xb, xo, hx, hxs, hxcell⟩
      · omega
      rcases HV.out.2 with h | ⟨vb, vo, hv, hvs, hvcell⟩
      · omega
      have ca := hac k hlt
      have cx := hxcell j hj2
      have cv := hvcell j hj2
      rw [hj1] at ca
      have HE : Hid (Num.outN at' x v (k + 1) = if 0 < v[Num.atF at' k]?.getD 0 ∧ (Num.outN at' x v k < 0 ∨ x[Num.atF at' k]?.getD 0 * v[Num.atF at' (Num.outN at' x v k).toNat]?.getD 0 < x[Num.atF at' (Num.outN at' x v k).toNat]?.getD 0 * v[Num.atF at' k]?.getD 0) then (k : Int) else Num.outN at' x v k) := rfl
      have bx := HXB.out j
      have bv := HVB.out j
      have HO := Num.out_ok at' x v k
      rw [hj3] at HE
      generalize hxj : x[j]?.getD 0 = xj at *
      generalize hvj : v[j]?.getD 0 = vj at *
      by_cases hvp : 0 < vj
      · rcases HO with ⟨o1, _⟩ | ⟨o, o1, o2, _, _⟩
        · rw [o1] at HE ⊢
          clear hac hxcell hvcell hxj hvj HXB HVB
          subst ha hx hv
          have q1 : decide (0 < vj) = true := decide_eq_true hvp
          go_wp2
          go_quiet (fail)
          go_wp2
          go_roundw
          case rel => exact ⟨k + 1, hlt, by go_num, by rw [HE.out, if_pos ⟨hvp, Or.inl (by omega)⟩], _, rfl⟩
          case measure => simp [intOf]; omega
        · obtain ⟨i, hi1, hi2, hi3⟩ := HAT.out o (by omega)
          have ca2 := hac o (by omega)
          have cx2 := hxcell i hi2
          have cv2 := hvcell i hi2
          rw [hi1] at ca2
          have bx2 := HXB.out i
          have bv2 := HVB.out i
          rw [o2, Int.toNat_natCast, hi3] at HE
          rw [o2]
          generalize x[i]?.getD 0 = xi at *
          generalize v[i]?.getD 0 = vi at *
          have b1 := Num.prod_bd xj vi bx bv2
          have b2 := Num.prod_bd xi vj bx2 bv
          clear hac hxcell hvcell hxj hvj HXB HVB bx bv bx2 bv2
          subst ha hx hv
          have q1 : decide (0 < vj) = true := decide_eq_true hvp
          have q2 : decide ((o : Int) < 0) = false := decide_eq_false (by omega)
          have q3 : wrap64 (xj * vi) = xj * vi := IntWalk.wrap64_in _ (by omega)
          have q4 : wrap64 (xi * vj) = xi * vj := IntWalk.wrap64_in _ (by omega)
          clear b1 b2
          by_cases hc : xj * vi < xi * vj
          · have q5 : decide (xj * vi < xi * vj) = true := decide_eq_true hc
            go_wp2
            go_quiet (fail)
            go_wp2
            go_roundw
            case rel => exact ⟨k + 1, hlt, by go_num, by rw [HE.out, if_pos ⟨hvp, Or.inr hc⟩], _, rfl⟩
            case measure => simp [intOf]; omega
          · have q5 : decide (xj * vi < xi * vj) = false := decide_eq_false hc
            go_wp2
            go_quiet (fail)
            go_wp2
            go_roundw
            case rel => exact ⟨k + 1, hlt, by go_num, by rw [HE.out, if_neg (fun h => h.2.elim (fun h => by omega) (fun h => by omega))], _, rfl⟩
            case measure => simp [intOf]; omega
      · have q1 : decide (0 < vj) = false := decide_eq_false hvp
        generalize Num.outN at' x v k = oo at *
        clear hac hxcell hvcell hxj hvj HXB HVB HO
        subst ha hx hv
        go_wp2
        go_quiet (fail)
        go_wp2
        go_roundw
        case rel => exact ⟨k + 1, hlt, by go_num, by rw [HE.out, if_neg (fun h => by omega)], _, rfl⟩
        case measure => simp [intOf]; omega
    · have hke : k = al := by omega
      subst hke
      go_wp2
      go_ret
      exact ⟨rfl, n, rfl⟩

end Go.Proofs.YtjlkegchkngliaaGreat

/- What walk.asking and walk.falls do. -/
namespace Go.Proofs.YtjlkegchkngliaaGreat
open Go.RowKit

theorem Tryz.infoRow5 : (Tryz.prog.info? 49).map (fun i => (i.zero, i.size, i.bytes)) = some (some (.agg #[.slice none 0 0, .int .i64 0]), 2, 32) := by kernel_rfl

/-- Two boxes of two cells, in every later world. -/
theorem boxes {w w1 : World} {a b c d : Value} {t t' : TypeId} (hb : Below ((w.alloc (.cells #[a, b] t)).alloc (.cells #[c, d] t')).heap.size ((w.alloc (.cells #[a, b] t)).alloc (.cells #[c, d] t')) w1) :
    (w1.cell? ⟨w.heap.size, 0, none⟩ = some a ∧ w1.cell? ⟨w.heap.size, 1, none⟩ = some b) ∧ (w1.cell? ⟨w.heap.size + 1, 0, none⟩ = some c ∧ w1.cell? ⟨w.heap.size + 1, 1, none⟩ = some d) ∧ (w1.frozen? ⟨w.heap.size + 1, 0, none⟩ = false ∧ w1.frozen? ⟨w.heap.size + 1, 1, none⟩ = false) ∧ w.heap.size + 1 < w1.heap.size ∧ Below w.heap.size w w1 := by
  have h2 := binto hb
  have hs : (w.alloc (.cells #[a, b] t)).heap.size = w.heap.size + 1 := by simp
  have k := kept2 hb
  rw [hs] at k
  refine ⟨(kept2 h2).1, k.1, k.2, ?_, binto h2⟩
  have := hb.size
  simp at this
  omega

/-- A slice of the call's own of n rows, of which the first k are laid. -/
def RowsMk (w : World) (base g n k : Nat) (F : Nat → Value) (G : Nat → Int) : Prop :=
  ∃ vs : List Value, w.ownsRow base 49 2 (.slice (some ⟨g, 0, none⟩) n n) n vs ∧ ∀ j, j < k → vs[j * 2]? = some (F j) ∧ vs[j * 2 + 1]? = some (.int .i64 (G j))

theorem RowsMk.lt {w : World} {base g n k : Nat} {F : Nat → Value} {G : Nat → Int} (h : RowsMk w base g n k F G) : base ≤ g ∧ g < w.heap.size := by
  obtain ⟨vs, h, _⟩ := h
  exact World.ownsRow.lt h g rfl

theorem RowsMk.cell' {w : World} {base g n k : Nat} {F : Nat → Value} {G : Nat → Int} (h : RowsMk w base g n k F G) (j : Nat) (hj : j < n) : ((∃ u, w.cell? ⟨g, j * 2, none⟩ = some u) ∧ ∃ u, w.cell? ⟨g, j * 2 + 1, none⟩ = some u) ∧ (w.frozen? ⟨g, j * 2, none⟩ = false ∧ w.frozen? ⟨g, j * 2 + 1, none⟩ = false) := by
  obtain ⟨vs, h, _⟩ := h
  have hl : vs.length = n * 2 := h.1
  refine ⟨⟨⟨vs[j * 2], ?_⟩, ⟨vs[j * 2 + 1], ?_⟩⟩, World.ownsRow.frozenAt h _, World.ownsRow.frozenAt h _⟩
  · rw [World.ownsRow.cellAt h _ (by omega)]; exact List.getElem?_eq_getElem (by omega)
  · rw [World.ownsRow.cellAt h _ (by omega)]; exact List.getElem?_eq_getElem (by omega)

theorem RowsMk.below {w w' : World} {base g n k : Nat} {F : Nat → Value} {G : Nat → Int} (h : RowsMk w base g n k F G) (hb : Below w.heap.size w w') : RowsMk w' base g n k F G := by
  obtain ⟨vs, h, hin⟩ := h
  exact ⟨vs, World.ownsRow.kept (row := none) h ⟨hb.os, hb.tape, hb.output, hb.size, fun k hk _ => hb.block k hk⟩ (by simp [Value.ownBlock]), hin⟩

theorem RowsMk.store {w : World} {base g n k : Nat} {F : Nat → Value} {G : Nat → Int} (h : RowsMk w base g n k F G) (hk : k < n) {u : Value} {x : Int} (hu : u = F k) (hx : x = G k) : RowsMk ((w.setCell ⟨g, k * 2, none⟩ u).setCell ⟨g, k * 2 + 1, none⟩ (.int .i64 x)) base g n (k + 1) F G := by
  obtain ⟨vs, h, hin⟩ := h
  have hl : vs.length = n * 2 := h.1
  subst hu hx
  refine ⟨(vs.set (k * 2) (F k)).set (k * 2 + 1) (.int .i64 (G k)), (World.ownsRow.stored (World.ownsRow.stored h (k * 2) _).1 (k * 2 + 1) _).1, fun j hj => ?_⟩
  by_cases hjk : j = k
  · subst hjk
    refine ⟨?_, ?_⟩
    · rw [List.getElem?_set_ne (by omega), List.getElem?_set_self (by omega)]
    · rw [List.getElem?_set_self (by rw [List.length_set]; omega)]
  · obtain ⟨h1, h2⟩ := hin j (by omega)
    refine ⟨?_, ?_⟩
    · rw [List.getElem?_set_ne (by omega), List.getElem?_set_ne (by omega)]; exact h1
    · rw [List.getElem?_set_ne (by omega), List.getElem?_set_ne (by omega)]; exact h2

theorem RowsMk.setLow {w : World} {base g n k : Nat} {F : Nat → Value} {G : Nat → Int} (h : RowsMk w base g n k F G) {q j : Nat} (hq : q < base) (u : Value) : RowsMk (w.setCell ⟨q, j, none⟩ u) base g n k F G := by
  obtain ⟨vs, h, hin⟩ := h
  exact ⟨vs, ownsRow_setCell_below h (a := ⟨q, j, none⟩) hq u, hin⟩

theorem RowsMk.rows {w : World} {base g n : Nat} {F : Nat → Value} {G : Nat → Int} {rs : List (List Int × Int)} (h : RowsMk w base g n n F G) (hn : n = rs.length) (hF : ∀ j, j < n → ∃ xa xl xc, F j = .slice xa xl xc ∧ Ints w xa xl (rs[j]?.getD ([], 0)).1 ∧ xl ≤ 9223372036854775807) (hG : ∀ j, j < n → G j = (rs[j]?.getD ([], 0)).2) : RowsAt w (some ⟨g, 0, none⟩) n rs := by
  have hlt := h.lt.2
  obtain ⟨vs, h, hin⟩ := h
  refine ⟨hn, Or.inr ⟨g, 0, rfl, hlt, fun j hj => ?_⟩⟩
  obtain ⟨xa, xl, xc, f1, f2, f3⟩ := hF j hj
  obtain ⟨h1, h2⟩ := hin j hj
  refine ⟨xa, xl, xc, ?_, ?_, f2, f3⟩
  · rw [Nat.zero_add, World.ownsRow.cellAt h _ (by omega), h1, f1]
  · rw [Nat.zero_add, World.ownsRow.cellAt h _ (by omega), h2, hG j hj]

set_option maxHeartbeats 1600000 in
theorem asking_any (ca : Option Addr) (cl cc : Nat) (ra : Option Addr) (rl rc : Nat) (p : Num.Lp) (w : World) (hr : RowsAt w ra rl p.rows) (hm : p.may = true) (s : Nat) (ma : Option Addr) (mc : Nat) (hma : Ints w ma rl (Num.colF p rl s)) :
    Calls Tryz.prog 77 #[.agg #[.slice ca cl cc, .slice ra rl rc], .slice ma rl mc] w fun e w' => ∃ g, e = .returned (.agg #[.slice ca cl cc, .slice (some ⟨g, 0, none⟩) rl rl]) ∧ RowsAt w' (some ⟨g, 0, none⟩) rl (Num.askP p s).rows ∧ Below w.heap.size w w' := by
  have HR : Hid (RowsAt w ra rl p.rows) := hr
  have HRL : Hid (rl = p.rows.length) := hr.1
  have h4 : rl ≤ 4 := by have := hr.1; have := (p.may_of hm).2.2.1.2; omega
  have h1 : 1 ≤ rl := by have := hr.1; have := (p.may_of hm).2.2.1.1; omega
  rcases hr.2 with h | ⟨b, off, hra, hbs, hrc⟩
  · omega
  rcases hma.2 with h | ⟨mb, mo, hmm, hms, hmcell⟩
  · omega
  subst hra hmm
  obtain ⟨F, hF⟩ : ∃ F : Nat → Value, F = fun j => (w.cell? ⟨b, off + j * 2, none⟩).getD undef := ⟨_, rfl⟩
  have HRC : Hid (∀ j, j < rl → ∃ xa xl xc, F j = .slice xa xl xc ∧ w.cell? ⟨b, off + j * 2, none⟩ = some (.slice xa xl xc) ∧ w.cell? ⟨b, off + j * 2 + 1, none⟩ = some (.int .i64 (p.rows[j]?.getD ([], 0)).2) ∧ Ints w xa xl (p.rows[j]?.getD ([], 0)).1 ∧ xl ≤ 9223372036854775807) := by
    intro j hj
    obtain ⟨xa, xl, xc, c0, c1, c2, c3⟩ := hrc j hj
    exact ⟨xa, xl, xc, by rw [hF]; show (w.cell? ⟨b, off + j * 2, none⟩).getD undef = _; rw [c0]; rfl, c0, c1, c2, c3⟩
  have HMC : Hid (∀ j, j < rl → w.cell? ⟨mb, mo + j, none⟩ = some (.int .i64 (Num.hasF p s j))) := by
    intro j hj
    rw [hmcell j hj]
    unfold Num.colF
    rw [Num.range_getD, if_pos hj]
  clear hr hma hrc hmcell hF hm
  obtain ⟨i0, hif, hz0, hz1, hz2⟩ := info_parts Tryz.infoRow5
  have hs0 : ((w.alloc (.cells #[.slice ca cl cc, .slice (some ⟨b, off, none⟩) rl rc] 25)).alloc (.cells #[.slice none 0 0, .slice none 0 0] 25)).heap.size = w.heap.size + 1 + 1 := by simp
  go_enter Tryz.func77, Tryz.ntmps77
  go_wp2_with (at_make; refine wpList_make_full _ rfl (.tmp 10) (.tmp 10) 23 rfl (w.heap.size + 1 + 1) 49 i0 (.agg #[.slice none 0 0, .int .i64 0]) 2 Tryz.underlying23 hif hz0 hz1 .i64 .i64 _ _ rl rfl rfl rfl rfl (by rw [hz2]; omega) (by unfold maxLen; omega) (by simp) ?_; intro w3 hown hgrow; have hb3 := made_below hgrow; obtain ⟨⟨k0, k1⟩, ⟨k2, k3⟩, ⟨k4, k5⟩, hz3, hB3⟩ := boxes hb3; have HO : Hid _ := hown; clear hown hgrow)
  have HO3 : Hid (RowsMk w3 (w.heap.size + 1 + 1) (w.heap.size + 1 + 1) rl 0 F (Num.hasF p s)) := ⟨_, by have := HO.out; rw [hs0] at this; exact this, fun _ hj => absurd hj (Nat.not_lt_zero _)⟩
  clear HO
  go_loopw [15] (fun i wr => ∃ k : Nat, k ≤ rl ∧ i = .int .i64 k ∧ RowsMk wr (w.heap.size + 1 + 1) (w.heap.size + 1 + 1) rl k F (Num.hasF p s) ∧ Below ((w.alloc (.cells #[.slice ca cl cc, .slice (some ⟨b, off, none⟩) rl rc] 25)).alloc (.cells #[.slice none 0 0, .slice none 0 0] 25)).heap.size ((w.alloc (.cells #[.slice ca cl cc, .slice (some ⟨b, off, none⟩) rl rc] 25)).alloc (.cells #[.slice none 0 0, .slice none 0 0] 25)) wr) (fun i _ => rl - (intOf i).toNat)
  case atStart => exact ⟨0, Nat.zero_le _, rfl, HO3.out, hb3⟩
  case round =>
    obtain ⟨k, hk, rfl, hO, hbl⟩ := hrel
    have HO : Hid (RowsMk wr (w.heap.size + 1 + 1) (w.heap.size + 1 + 1) rl k F (Num.hasF p s)) := hO
    clear HO3 hb3 k0 k1 k2 k3 k4 k5 hz3 hB3
    obtain ⟨⟨k0, k1⟩, ⟨k2, k3⟩, ⟨k4, k5⟩, hz3, hB3⟩ := boxes hbl
    by_cases hlt : k < rl
    · obtain ⟨xa, xl, xc, hFk, c0, c1, c2, c3⟩ := HRC.out k hlt
      have d0 := HMC.out k hlt
      rw [← (bcell hB3).1 b _ hbs] at c0 c1
      rw [← (bcell hB3).1 mb _ hms] at d0
      obtain ⟨⟨⟨u, u0⟩, v, v0⟩, u1, v1⟩ := hO.cell' k hlt
      have hg := hO.lt.2
      clear hO c2 c3
      have HFK : Hid _ := hFk
      clear hFk
      generalize (p.rows[k]?.getD ([], 0)).2 = mk at c1
      generalize hsx : Num.hasF p s k = x at d0
      have HSX : Hid _ := hsx
      clear hsx
      have HBL : Hid _ := hbl
      have hml : mb < wr.heap.size := by have := hB3.size; omega
      clear hbl
      go_wp2_with fail
      go_region
      all_goals go_wp2_with fail
      all_goals go_roundw
      all_goals first
        | (simp [intOf]; omega)
        | exact ⟨k + 1, hlt, by go_num, RowsMk.below (RowsMk.store HO.out hlt HFK.out.symm HSX.out.symm) (balloc _ _).drew, bstep (bset (bset HBL.out (by simp) _) (by simp) _) (balloc _ _).drew⟩
    · have hke : k = rl := by omega
      subst hke
      clear hO
      go_wp2_with fail
      have hB4 : Below w.heap.size w ((wr.setCell ⟨w.heap.size + 1, 0, none⟩ (.slice ca cl cc)).setCell ⟨w.heap.size + 1, 1, none⟩ (.slice (some ⟨w.heap.size + 1 + 1, 0, none⟩) k k)) := bset (bset hB3 (by omega) _) (by omega) _
      refine bodyPost_ret (v := .agg #[.slice ca cl cc, .slice (some ⟨w.heap.size + 1 + 1, 0, none⟩) k k]) (by simp [results, Tryz.results77, go_sem, k2, k3]) rfl ?_
      refine ⟨w.heap.size + 1 + 1, rfl, ?_, hB4⟩
      refine RowsMk.rows (RowsMk.setLow (RowsMk.setLow HO.out (by omega) _) (by omega) _) (by rw [Num.ask_len]; exact HRL.out) (fun j hj => ?_) (fun j hj => ?_)
      · obtain ⟨xa, xl, xc, f1, _, _, f4, f5⟩ := HRC.out j hj
        refine ⟨xa, xl, xc, f1, ?_, f5⟩
        rw [Num.ask_row p s j (by have := HRL.out; omega)]
        exact f4.below hB4 (Nat.le_refl _)
      · rw [Num.ask_row p s j (by have := HRL.out; omega)]

end Go.Proofs.YtjlkegchkngliaaGreat
