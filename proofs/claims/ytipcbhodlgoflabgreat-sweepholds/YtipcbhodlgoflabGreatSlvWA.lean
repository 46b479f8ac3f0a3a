/- What solve.valuing and solve.ray do. -/
import Derived.Test.YtipcbhodlgoflabGreatPlnA
import Derived.Test.YtipcbhodlgoflabGreatWlkC
namespace Go.Proofs.YtipcbhodlgoflabGreat
open Go.RowKit

/-- Two boxes of two cells each, in every later world; the second may be written. -/
theorem box22 {w w1 : World} {a b c d : Value} {t u : TypeId} (hb : Below ((w.alloc (.cells #[a, b] t)).alloc (.cells #[c, d] u)).heap.size ((w.alloc (.cells #[a, b] t)).alloc (.cells #[c, d] u)) w1) :
    (w1.cell? ⟨w.heap.size, 0, none⟩ = some a ∧ w1.cell? ⟨w.heap.size, 1, none⟩ = some b) ∧ (w1.cell? ⟨w.heap.size + 1, 0, none⟩ = some c ∧ w1.cell? ⟨w.heap.size + 1, 1, none⟩ = some d) ∧
      (w1.frozen? ⟨w.heap.size + 1, 0, none⟩ = false ∧ w1.frozen? ⟨w.heap.size + 1, 1, none⟩ = false) ∧ w.heap.size + 1 < w1.heap.size ∧ Below w.heap.size w w1 := by
  have h2 := kept2 hb
  rw [World.size_alloc] at h2
  exact ⟨⟨carry hb (carry (balloc _ _) (cell_new2 rfl a b t).1), carry hb (carry (balloc _ _) (cell_new2 rfl a b t).2)⟩, h2.1, h2.2, by have := hb.size; simp at this; omega, binto (binto hb)⟩

theorem Num.unit_set (f : Nat → Int) (n j : Nat) (hj : j < n) (h1 : f j = 1) (h0 : ∀ k, k ≠ j → f k = 0) : (Num.fill f n 0).set j 1 = (List.range n).map f := by
  apply List.ext_getElem?
  intro k
  rw [List.getElem?_set, Num.fill_len]
  by_cases hk : j = k
  · subst hk
    rw [if_pos rfl, if_pos hj, List.getElem?_map, List.getElem?_range hj, Option.map_some, h1]
  · rw [if_neg hk]
    unfold Num.fill
    by_cases hkn : k < n
    · rw [List.getElem?_map, List.getElem?_map, List.getElem?_range hkn, Option.map_some, Option.map_some, h0 k (fun e => hk e.symm)]
      simp
    · rw [List.getElem?_eq_none (by simp; omega), List.getElem?_eq_none (by simp; omega)]

set_option maxRecDepth 4000 in
set_option maxHeartbeats 1600000 in
theorem valuing_any (ca : Option Addr) (cl cc : Nat) (ra : Option Addr) (rl rc : Nat) (p : Num.Lp) (w : World) (hc : Ints w ca cl p.costs) (hr : RowsAt w ra rl p.rows) (hm : p.may = true) (j : Nat) (hj : j < cl + rl) :
    Calls Tryz.prog 61 #[.agg #[.slice ca cl cc, .slice ra rl rc], .int .i64 j] w fun e w' => ∃ g, e = .returned (.agg #[.slice (some ⟨g, 0, none⟩) cl cl, .slice ra rl rc]) ∧ Ints w' (some ⟨g, 0, none⟩) cl (Num.valP p j).costs ∧ Below w.heap.size w w' := by
  have HC : Hid (cl = p.costs.length) := hc.1
  have HR : Hid (RowsAt w ra rl p.rows) := hr
  have HM : Hid (p.may = true) := hm
  have hc4 : cl ≤ 4 ∧ 1 ≤ cl := by have := hc.1; have := (p.may_of hm).1; omega
  have hr4 : rl ≤ 4 ∧ 1 ≤ rl := by have := hr.1; have := (p.may_of hm).2.2.1; omega
  have HRL : Hid (rl = p.rows.length) := hr.1
  clear hc hr hm
  obtain ⟨i0, hif, hz0, hz1, hz2⟩ := info_parts Tryz.info64
  have hs0 : ((w.alloc (.cells #[.slice ca cl cc, .slice ra rl rc] 25)).alloc (.cells #[.slice none 0 0, .slice none 0 0] 25)).heap.size = w.heap.size + 1 + 1 := by simp
  obtain ⟨f, hf⟩ : ∃ f : Nat → Int, f = fun k => if j < p.costs.length then (if k = j then 1 else 0) else -((p.rows[j - p.costs.length]?.getD ([], 0)).1[k]?.getD 0) := ⟨_, rfl⟩
  have HF : Hid ((Num.valP p j).costs = (List.range cl).map f) := by rw [HC.out, hf]; rfl
  by_cases hjc : j < cl
  · have HF1 : Hid (f j = 1) := by rw [hf]; show (if j < p.costs.length then _ else _) = _; rw [if_pos (by have := HC.out; omega), if_pos rfl]
    have HF0 : Hid (∀ k, k ≠ j → f k = 0) := by intro k hk; rw [hf]; show (if j < p.costs.length then _ else _) = _; rw [if_pos (by have := HC.out; omega), if_neg hk]
    clear hf
    obtain ⟨d, hd⟩ : ∃ d : Int, d = (j : Int) - (cl : Int) := ⟨_, rfl⟩
    have hd0 : decide (0 ≤ d) = false := decide_eq_false (by omega)
    have hs2 : IntKind.i64.wrap ((j : Int) - (cl : Int)) = d := by rw [IntWalk.i64_left, hd]; exact IntWalk.wrap64_in _ (by omega)
    have hs1 : wrap64 ((j : Int) - (cl : Int)) = d := by rw [hd]; exact IntWalk.wrap64_in _ (by omega)
    have hjI : (j : Int) < (cl : Int) := by omega
    clear hd
    go_enter Tryz.func61, Tryz.ntmps61
    go_wp2_with (at_make; refine wpList_make_full _ rfl (.tmp 11) (.tmp 11) 22 rfl (w.heap.size + 1 + 1) 2 i0 (.int .i64 0) 1 Tryz.underlying22 hif hz0 hz1 .i64 .i64 _ _ cl rfl rfl rfl rfl (by rw [hz2]; omega) (by unfold maxLen; omega) (by simp) ?_; intro w3 hown hgrow; have hb3 := made_below hgrow; obtain ⟨⟨k0, k1⟩, ⟨k2, k3⟩, ⟨k4, k5⟩, hz, hB⟩ := box22 hb3; have HO : Hid (Own w3 (w.heap.size + 1 + 1) (w.heap.size + 1 + 1) cl (Num.fill f cl 0)) := Own.made _ (by rw [hs0] at hown; exact hown); obtain ⟨⟨u, u0⟩, u1⟩ := Own.cell' HO.out j hjc; have hg := (Own.lt HO.out).2; (try rw [hs0]); clear hown hgrow)
    refine bodyPost_ret (v := .agg #[.slice (some ⟨w.heap.size + 1 + 1, 0, none⟩) cl cl, .slice ra rl rc]) (by simp [results, Tryz.results61, go_sem, k2, k3]) rfl ⟨_, rfl, ?_, ?_⟩
    · rw [HF.out, ← Num.unit_set f cl j hjc HF1.out HF0.out]
      exact Ints.setOff (Ints.setOff (Own.ints (Own.store HO.out j 1)) (by omega) _) (by omega) _
    · exact bset (bset (bset hB (by omega) _) (by omega) _) (by omega) _
  · obtain ⟨r, hrj⟩ : ∃ r : Nat, j = cl + r := ⟨j - cl, by omega⟩
    have hrr : r < rl := by omega
    have HFV : Hid (∀ k, f k = -((p.rows[r]?.getD ([], 0)).1[k]?.getD 0)) := by
      intro k
      rw [hf]
      show (if j < p.costs.length then _ else _) = _
      rw [if_neg (by have := HC.out; omega), show j - p.costs.length = r by have := HC.out; omega]
    clear hf
    have hs2 : IntKind.i64.wrap ((j : Int) - (cl : Int)) = r := by rw [IntWalk.i64_left, show (j : Int) - (cl : Int) = r by omega]; exact IntWalk.wrap64_in _ (by omega)
    have hs1 : wrap64 ((j : Int) - (cl : Int)) = r := by rw [show (j : Int) - (cl : Int) = r by omega]; exact IntWalk.wrap64_in _ (by omega)
    have hrI : (r : Int) < (rl : Int) := by omega
    have hrow := p.row_of HM.out r (by have := HRL.out; omega)
    rcases HR.out.2 with h | ⟨b, off, ha, hbs, hcc⟩
    · omega
    obtain ⟨xa, xl, xc, c0, c1, hx, hxl⟩ := hcc r hrr
    clear hcc c1 hxl
    generalize (p.rows[r]?.getD ([], 0)) = row at *
    obtain ⟨row, most⟩ := row
    dsimp only at *
    have hxc : xl = cl := by have := hx.1; have := HC.out; omega
    subst hxc
    have HX : Hid (Ints w xa xl row) := hx
    have HXB : Hid (∀ k : Nat, -12 ≤ row[k]?.getD 0 ∧ row[k]?.getD 0 ≤ 12) := Num.withinB_iff _ _ hrow.2.1 (by omega)
    clear hx hrow hrj hjc hj
    subst ha
    go_enter Tryz.func61, Tryz.ntmps61
    go_wp2_with (at_make; refine wpList_make_full _ rfl (.tmp 11) (.tmp 11) 22 rfl (w.heap.size + 1 + 1) 2 i0 (.int .i64 0) 1 Tryz.underlying22 hif hz0 hz1 .i64 .i64 _ _ xl rfl rfl rfl rfl (by rw [hz2]; omega) (by unfold maxLen; omega) (by simp) ?_; intro w3 hown hgrow; have hb3 := made_below hgrow; obtain ⟨⟨k0, k1⟩, _, _, hz, hB⟩ := box22 hb3; have e0 := carry hB c0; have HO : Hid (Own w3 (w.heap.size + 1 + 1) (w.heap.size + 1 + 1) xl (Num.fill f xl 0)) := Own.made _ (by rw [hs0] at hown; exact hown); (try rw [hs0]); clear hown hgrow)
    go_loopw [27] (fun i wr => ∃ k : Nat, k ≤ xl ∧ i = .int .i64 k ∧ Own wr (w.heap.size + 1 + 1) (w.heap.size + 1 + 1) xl (Num.fill f xl k) ∧ Below ((w.alloc (.cells #[.slice ca xl cc, .slice (some ⟨b, off, none⟩) rl rc] 25)).alloc (.cells #[.slice none 0 0, .slice none 0 0] 25)).heap.size ((w.alloc (.cells #[.slice ca xl cc, .slice (some ⟨b, off, none⟩) rl rc] 25)).alloc (.cells #[.slice none 0 0, .slice none 0 0] 25)) wr) (fun i _ => xl - (intOf i).toNat)
    case atStart => exact ⟨0, Nat.zero_le _, rfl, HO.out, hb3⟩
    case round =>
      obtain ⟨k, hk, rfl, hO, hbl⟩ := hrel
      have HO1 : Hid _ := hO
      clear HO hb3 k0 k1 e0 hB hz
      obtain ⟨⟨k0, k1⟩, ⟨k2, k3⟩, ⟨k4, k5⟩, hz, hB⟩ := box22 hbl
      by_cases hlt : k < xl
      · obtain ⟨⟨u, u0⟩, u1⟩ := hO.cell' k hlt
        have hg := hO.lt.2
        clear hO
        rcases (Ints.below HX.out hB (Nat.le_refl _)).2 with h | ⟨b', o', ha', hb', hc'⟩
        · omega
        have hck := hc' k hlt
        have hbd := HXB.out k
        have HV : Hid (-(row[k]?.getD 0) = f k) := (HFV.out k).symm
        clear hc'
        generalize row[k]?.getD 0 = x at *
        have hwn : wrap64 (-x) = -x := IntWalk.wrap64_in _ (by omega)
        subst ha'
        go_wp2_with fail
        go_roundw
        case rel => exact ⟨k + 1, hlt, by go_num, by rw [← Num.fill_set _ _ _ (-x) hlt HV.out]; exact Own.store HO1.out k (-x), bset hbl (by simp) _⟩
        case measure => simp [intOf]; omega
      · have hke : k = xl := by omega
        subst hke
        have hg := hO.lt.2
        clear hO
        go_wp2_with fail
        refine bodyPost_ret (v := .agg #[.slice (some ⟨w.heap.size + 1 + 1, 0, none⟩) k k, .slice (some ⟨b, off, none⟩) rl rc]) (by simp [results, Tryz.results61, go_sem, k2, k3]) rfl ⟨_, rfl, ?_, ?_⟩
        · rw [HF.out, ← Num.fill_all]
          exact Ints.setOff (Ints.setOff (Own.ints HO1.out) (by omega) _) (by omega) _
        · exact bset (bset hB (by omega) _) (by omega) _

/-- What solve.ray answers. -/
def Num.rayN (p : Num.Lp) (at' : List Int) (s : Nat) : List Int := (List.range p.costs.length).map fun j => if j = s then (Num.look (Num.askP p s) at').xd else -((Num.look (Num.askP p s) at').x[j]?.getD 0)

set_option maxRecDepth 4000 in
set_option maxHeartbeats 1600000 in
theorem ray_any (ca : Option Addr) (cl cc : Nat) (ra : Option Addr) (rl rc : Nat) (p : Num.Lp) (w : World) (hc : Ints w ca cl p.costs) (hr : RowsAt w ra rl p.rows) (hm : p.may = true)
    (aa : Option Addr) (al ac : Nat) (at' : List Int) (ha : Ints w aa al at') (hg : Num.Good p at' rl cl) (s : Nat) (hs : s < cl + rl) :
    Calls Tryz.prog 32 #[.agg #[.slice ca cl cc, .slice ra rl rc], .slice aa al ac, .int .i64 s] w fun e w' => ∃ g, e = .returned (.agg #[.slice (some ⟨g, 0, none⟩) cl cl, .int .i64 1]) ∧ w.heap.size ≤ g ∧ Ints w' (some ⟨g, 0, none⟩) cl (Num.rayN p at' s) ∧ Below w.heap.size w w' := by
  have HC : Hid (Ints w ca cl p.costs) := hc
  have HR : Hid (RowsAt w ra rl p.rows) := hr
  have HA : Hid (Ints w aa al at') := ha
  have HM : Hid (p.may = true) := hm
  have HG : Hid (Num.Good p at' rl cl) := hg
  have hc4 : cl ≤ 4 ∧ 1 ≤ cl := by have := hc.1; have := (p.may_of hm).1; omega
  have hr4 : rl ≤ 4 ∧ 1 ≤ rl := by have := hr.1; have := (p.may_of hm).2.2.1; omega
  have HXB : Hid (∀ j : Nat, -497664 ≤ (Num.look (Num.askP p s) at').x[j]?.getD 0 ∧ (Num.look (Num.askP p s) at').x[j]?.getD 0 ≤ 497664) := (Num.ask_parts p at' rl cl s hm hr.1 hc.1 hg).2.2.1
  obtain ⟨f, hf⟩ : ∃ f : Nat → Int, f = fun j => if j = s then (Num.look (Num.askP p s) at').xd else -((Num.look (Num.askP p s) at').x[j]?.getD 0) := ⟨_, rfl⟩
  have HF : Hid (Num.rayN p at' s = (List.range cl).map f) := by rw [hc.1, hf]; rfl
  have HFS : Hid (f s = (Num.look (Num.askP p s) at').xd) := by rw [hf]; exact if_pos rfl
  have HFN : Hid (∀ j, j ≠ s → f j = -((Num.look (Num.askP p s) at').x[j]?.getD 0)) := by intro j hj; rw [hf]; exact if_neg hj
  clear hc hr ha hm hg hf
  have KF : Hid (∀ w', Below w.heap.size w w' → Calls Tryz.prog 57 #[.agg #[.slice ca cl cc, .slice ra rl rc], .slice aa al ac, .int .i64 s] w' fun e w'' => ∃ xa xc, e = .returned (.agg #[.slice xa (cl + rl) xc, .int .i64 (Num.look (Num.askP p s) at').xd]) ∧ Ints w'' xa (cl + rl) (Num.look (Num.askP p s) at').x ∧ Below w'.heap.size w' w'') := fun w' h =>
    falls_any ca cl cc ra rl rc p w' (Ints.below HC.out h (Nat.le_refl _)) (RowsAt.below HR.out h (Nat.le_refl _)) HM.out aa al ac at' (Ints.below HA.out h (Nat.le_refl _)) HG.out s hs
  generalize Num.look (Num.askP p s) at' = L at *
  obtain ⟨er, lx, dx, ly, dy, lg, dg⟩ := L
  dsimp only at *
  obtain ⟨i0, hif, hz0, hz1, hz2⟩ := info_parts Tryz.info64
  have HB0 : Hid _ := box22 (Below.refl ((w.alloc (.cells #[.slice ca cl cc, .slice ra rl rc] 25)).alloc (.cells #[.slice none 0 0, .int .i64 0] 34)).heap.size ((w.alloc (.cells #[.slice ca cl cc, .slice ra rl rc] 25)).alloc (.cells #[.slice none 0 0, .int .i64 0] 34)))
  go_enter Tryz.func32, Tryz.ntmps32
  go_wp2_with fail
  refine (KF.out _ HB0.out.2.2.2.2).mono ?_
  rintro e w1 ⟨xa, xc, rfl, hix, hb1⟩
  have HIX : Hid (Ints w1 xa (cl + rl) lx) := hix
  have hz := (box22 hb1).2.2.2.1
  obtain ⟨⟨k0, k1⟩, _⟩ := box22 hb1
  clear hix KF HB0
  have hb2 := bstep hb1 (balloc w1 (.cells #[.slice xa (cl + rl) xc, .int .i64 dx] 34))
  have HIX2 : Hid (Ints (w1.alloc (.cells #[.slice xa (cl + rl) xc, .int .i64 dx] 34)) xa (cl + rl) lx) := Ints.below HIX.out (balloc _ _) (Nat.le_refl _)
  have p0 := (cell_new2 (w := w1) rfl (.slice xa (cl + rl) xc) (.int .i64 dx) 34).1
  have p1 := (cell_new2 (w := w1) rfl (.slice xa (cl + rl) xc) (.int .i64 dx) 34).2
  have hs1 : (w1.alloc (.cells #[.slice xa (cl + rl) xc, .int .i64 dx] 34)).heap.size = w1.heap.size + 1 := by simp
  have k0' := carry (balloc w1 (.cells #[.slice xa (cl + rl) xc, .int .i64 dx] 34)) k0
  clear HIX k1
  go_wp2_with (at_make; refine wpList_make_full _ rfl (.tmp 16) (.tmp 16) 22 rfl (w1.heap.size + 1) 2 i0 (.int .i64 0) 1 Tryz.underlying22 hif hz0 hz1 .i64 .i64 _ _ cl rfl rfl rfl rfl (by rw [hz2]; omega) (by unfold maxLen; omega) (by simp) ?_; intro w3 hown hgrow; have hbm := made_below hgrow; have HO : Hid (Own w3 (w1.heap.size + 1) (w1.heap.size + 1) cl (Num.fill f cl 0)) := Own.made _ (by rw [hs1] at hown; exact hown); (try rw [hs1]); clear hown hgrow)
  generalize hW2 : w1.alloc (.cells #[.slice xa (cl + rl) xc, .int .i64 dx] 34) = W2 at *
  generalize w1.heap.size = b1 at *
  clear hW2 hb1 k0 k0'
  go_loopw [20] (fun i wr => ∃ k : Nat, k ≤ cl ∧ i = .int .i64 k ∧ Own wr (b1 + 1) (b1 + 1) cl (Num.fill f cl k) ∧ Below W2.heap.size W2 wr) (fun i _ => cl - (intOf i).toNat)
  case atStart => exact ⟨0, Nat.zero_le _, rfl, HO.out, hbm⟩
  case round =>
    obtain ⟨k, hk, rfl, hO, hbl⟩ := hrel
    have HO1 : Hid _ := hO
    clear HO hbm
    have q0 := carry hbl p0
    have q1 := carry hbl p1
    have hb3 := bstep hb2 hbl
    obtain ⟨_, ⟨k2, k3⟩, ⟨k4, k5⟩, hz', hB⟩ := box22 hb3
    clear p0 p1
    by_cases hlt : k < cl
    · obtain ⟨⟨u, u0⟩, u1⟩ := hO.cell' k hlt
      have hg := hO.lt.2
      clear hO
      rcases (Ints.below HIX2.out hbl (Nat.le_refl _)).2 with h | ⟨b', o', ha', hb', hc'⟩
      · omega
      have hck := hc' k (by omega)
      have hbd := HXB.out k
      have HV : Hid (k ≠ s → -(lx[k]?.getD 0) = f k) := fun h => (HFN.out k h).symm
      clear hc'
      generalize lx[k]?.getD 0 = x at *
      have hwn : wrap64 (-x) = -x := IntWalk.wrap64_in _ (by omega)
      have hkI : (k : Int) < (cl : Int) + (rl : Int) := by omega
      subst ha'
      by_cases hks : k = s
      · have hks' : ((k : Int) == (s : Int)) = true := beq_iff_eq.2 (by omega)
        have HKS : Hid _ := hks
        clear hks
        go_wp2_with fail
        go_roundw
        case rel => exact ⟨k + 1, hlt, by go_num, by rw [← Num.fill_set _ _ _ dx hlt (by rw [HKS.out]; exact HFS.out.symm)]; have := Own.store (Own.store HO1.out k (-x)) k dx; rw [List.set_set] at this; exact this, bset (bset hbl (by omega) _) (by omega) _⟩
        case measure => simp [intOf]; omega
      · have hks' : ((k : Int) == (s : Int)) = false := beq_eq_false_iff_ne.2 (by omega)
        go_wp2_with fail
        go_roundw
        case rel => exact ⟨k + 1, hlt, by go_num, by rw [← Num.fill_set _ _ _ (-x) hlt (HV.out hks)]; exact Own.store HO1.out k (-x), bset hbl (by omega) _⟩
        case measure => simp [intOf]; omega
    · have hke : k = cl := by omega
      subst hke
      have hg := hO.lt.2
      clear hO
      go_wp2_with fail
      refine bodyPost_ret (v := .agg #[.slice (some ⟨b1 + 1, 0, none⟩) k k, .int .i64 1]) (by simp [results, Tryz.results32, go_sem, k2, k3]) rfl ⟨_, rfl, by omega, ?_, ?_⟩
      · rw [HF.out, ← Num.fill_all]
        exact Ints.setOff (Ints.setOff (Own.ints HO1.out) (by omega) _) (by omega) _
      · exact bset (bset hB (by omega) _) (by omega) _

end Go.Proofs.YtipcbhodlgoflabGreat

/- What solve.members does. -/
namespace Go.Proofs.YtipcbhodlgoflabGreat
open Go.RowKit

/-- The places of the bits of a number. -/
def Num.membersTo (s k : Nat) : List Int := ((List.range k).filter fun j => s / 2 ^ j % 2 == 1).map fun (j : Nat) => (j : Int)

theorem Num.membersTo_succ (s k : Nat) : Num.membersTo s (k + 1) = if s / 2 ^ k % 2 == 1 then Num.membersTo s k ++ [(k : Int)] else Num.membersTo s k := by
  unfold Num.membersTo
  rw [List.range_succ, List.filter_append, List.map_append]
  split
  · rename_i h; rw [List.filter_cons, if_pos h]; rfl
  · rename_i h; rw [List.filter_cons, if_neg h]; simp

theorem Num.bit_small : ∀ s : Fin 256, (bits BinOp.and IntKind.i64 ((s.val : Nat) : Int) 1 == 1) = (s.val % 2 == 1) := by decide +kernel

/-- Behind the last bit there is none. -/
theorem Num.members_end (s k : Nat) (hk : k ≤ 8) (h : s / 2 ^ k = 0) : Num.membersTo s 8 = Num.membersTo s k := by
  have key : ∀ d, Num.membersTo s (k + d) = Num.membersTo s k := by
    intro d
    induction d with
    | zero => rfl
    | succ d ih =>
      rw [← Nat.add_assoc, Num.membersTo_succ, if_neg, ih]
      have : s / 2 ^ (k + d) = 0 := by
        rw [Nat.pow_add, ← Nat.div_div_eq_div_mul, h, Nat.zero_div]
      rw [this]; decide
  have := key (8 - k)
  rw [show k + (8 - k) = 8 by omega] at this
  exact this

set_option maxRecDepth 4000 in
set_option maxHeartbeats 1600000 in
theorem members_any (s : Nat) (hs : s < 256) (w : World) :
    Calls Tryz.prog 28 #[.int .i64 s] w fun e w' => ∃ a n c, e = .returned (.slice a n c) ∧ Ints w' a n (Num.membersTo s 8) ∧ (n = 0 ∨ ∃ g, a = some ⟨g, 0, none⟩ ∧ w.heap.size ≤ g) ∧ n ≤ 8 ∧ Below w.heap.size w w' := by
  obtain ⟨i0, hif, hz0, hz1, hz2⟩ := info_parts Tryz.infoInt
  go_enter Tryz.func28, Tryz.ntmps28
  go_wp2_with fail
  go_loopw [3, 4] (fun v i wr => ∃ k : Nat, k ≤ 8 ∧ i = .int .i64 k ∧ wr.ownsRow w.heap.size 3 1 v (Num.membersTo s k).length ((Num.membersTo s k).map (Value.int .i64)) ∧ Below w.heap.size w wr) (fun _ i _ => 8 - (intOf i).toNat)
  case atStart => exact ⟨0, Nat.zero_le _, rfl, World.ownsRow_nil _ _ _ _, Below.refl _ _⟩
  case round =>
    obtain ⟨k, hk, rfl, hO, hbl⟩ := hrel
    obtain ⟨va, vc, hv⟩ := own_shape hO
    subst hv
    have HO : Hid (wr.ownsRow w.heap.size 3 1 (.slice va (Num.membersTo s k).length vc) (Num.membersTo s k).length ((Num.membersTo s k).map (Value.int .i64))) := hO
    have hlen : (Num.membersTo s k).length ≤ k := by unfold Num.membersTo; rw [List.length_map]; exact Nat.le_trans (List.length_filter_le _ _) (by simp)
    obtain ⟨sj, hsj⟩ : ∃ sj : Nat, sj = s / 2 ^ k := ⟨_, rfl⟩
    have hsh : ((s : Int) / 2 ^ k) = (sj : Int) := by rw [hsj]; simp
    have hsd : (s : Int) / 2 ^ min k 64 = (sj : Int) := by rw [Nat.min_eq_left (by omega)]; exact hsh
    have hs256 : sj < 256 := by rw [hsj]; exact Nat.lt_of_le_of_lt (Nat.div_le_self _ _) hs
    have HSJ : Hid (sj = s / 2 ^ k) := hsj
    have hbit := Num.bit_small ⟨sj, hs256⟩
    dsimp only at hbit
    clear hO hsj hs256
    by_cases h0 : sj = 0
    · have h0' : ((sj : Int) == 0) = true := by rw [h0]; rfl
      have HE : Hid (Num.membersTo s 8 = Num.membersTo s k) := Num.members_end s k hk (by rw [← HSJ.out]; exact h0)
      clear hbit
      go_wp2_with fail
      obtain ⟨a', c', hv, hints, hfar⟩ := Ints.ofOwnAny HO.out rfl
      go_ret
      refine ⟨va, _, vc, rfl, ?_, ?_, by omega, hbl⟩
      · rw [HE.out]; injection hv with h1 h2 h3; rw [h1]; exact hints
      · injection hv with h1 h2 h3; rw [h1]; exact hfar
    · have h0' : ((sj : Int) == 0) = false := by simpa using h0
      have h0'' : ((sj : Int) != 0) = true := by simp [bne, h0']
      have hk8 : k < 8 := by
        rcases Nat.lt_or_ge k 8 with h | h
        · exact h
        · exfalso
          apply h0
          rw [HSJ.out]
          exact Nat.div_eq_of_lt (Nat.lt_of_lt_of_le hs (Nat.le_trans (by decide : 256 ≤ 2 ^ 8) (Nat.pow_le_pow_right (by omega) h)))
      have HN : Hid (Num.membersTo s (k + 1) = if sj % 2 == 1 then Num.membersTo s k ++ [(k : Int)] else Num.membersTo s k) := by rw [HSJ.out]; exact Num.membersTo_succ s k
      cases hb2 : (sj % 2 == 1) with
      | true =>
        have hbt : (bits BinOp.and IntKind.i64 (sj : Int) 1 == 1) = true := hbit.trans hb2
        have HN2 : Hid (Num.membersTo s (k + 1) = Num.membersTo s k ++ [(k : Int)]) := by rw [HN.out, hb2]; rfl
        clear hbit hb2 HN HSJ
        generalize Num.membersTo s k = l at *
        have hsz := hbl.size
        go_wp2_with (at_builtin; refine wpList_append_own _ rfl (.tmp 16) (.tmp 18) 58 rfl w.heap.size 3 i0 (.int .i64 0) 1 8 Tryz.underlying58 hif hz0 hz1 hz2 rfl (by decide) _ _ _ rfl (by exact World.ownsRow.alloc HO.out _) ⟨wr.heap.size, 0, none⟩ 1 1 [.int .i64 k] rfl rfl ?cn1 ?cn2 ?cn3 ?cn4 ?cn5 ?_)
        case cn1 => first | exact news_one rfl _ _ | exact news_one' rfl _ _
        case cn2 => first | rfl | (intro u hu; simp at hu; subst hu; rfl)
        case cn3 => unfold maxLen; omega
        case cn4 => omega
        case cn5 => first | omega | (simp; omega)
        intro v' w1 hown' hgrow _
        have hB : Below w.heap.size w w1 := Below.grown (bstep hbl (balloc _ _)) hgrow (by simp; omega) (fun j hj => (World.ownsRow.lt HO.out j hj).1)
        obtain ⟨a', c', hv'⟩ := own_shape hown'
        subst hv'
        have HW : Hid (w1.ownsRow w.heap.size 3 1 (.slice a' (l.length + 1) c') (l.length + 1) (l.map (Value.int .i64) ++ [.int .i64 k])) := hown'
        clear hown' hgrow
        go_wp2_with fail
        go_roundw
        case rel =>
          refine ⟨k + 1, by omega, by go_num, ?_, hB⟩
          rw [HN2.out, List.length_append, List.map_append]
          exact HW.out
        case measure => simp [intOf]; omega
      | false =>
        have hbt : (bits BinOp.and IntKind.i64 (sj : Int) 1 == 1) = false := hbit.trans hb2
        have HN2 : Hid (Num.membersTo s (k + 1) = Num.membersTo s k) := by rw [HN.out, hb2]; rfl
        clear hbit hb2 HN HSJ
        go_wp2_with fail
        go_roundw
        case rel => exact ⟨k + 1, by omega, by go_num, by rw [HN2.out]; exact HO.out, hbl⟩
        case measure => simp [intOf]; omega

end Go.Proofs.YtipcbhodlgoflabGreat
