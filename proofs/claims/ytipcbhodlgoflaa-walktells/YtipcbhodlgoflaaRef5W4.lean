/- What the document's Next (chapter 5) does. -/
import Derived.Test.YtipcbhodlgoflaaRef5W3
import Derived.Test.YtipcbhodlgoflaaPlnA
import Derived.Test.YtipcbhodlgoflaaWlkC
import Derived.Deep.CutRange
import Derived.Deep.CutBlock
namespace Go.Proofs.Ytipcbhodlgoflaa
open Go.RowKit

theorem two_frz {w : World} {b : Nat} {a0 a1 : Value} (c0 : w.cell? ⟨b, 0, none⟩ = some a0) (c1 : w.cell? ⟨b, 1, none⟩ = some a1) (f0 : w.frozen? ⟨b, 0, none⟩ = false) (f1 : w.frozen? ⟨b, 1, none⟩ = false) (u v : Value) (o : Obj) :
    (((w.setCell ⟨b, 0, none⟩ u).setCell ⟨b, 1, none⟩ v).alloc o).frozen? ⟨b, 0, none⟩ = false ∧ (((w.setCell ⟨b, 0, none⟩ u).setCell ⟨b, 1, none⟩ v).alloc o).frozen? ⟨b, 1, none⟩ = false := by
  have e0 : ((w.setCell ⟨b, 0, none⟩ u).setCell ⟨b, 1, none⟩ v).cell? ⟨b, 0, none⟩ = some u := by rw [cell_set_ne (by decide)]; exact cell_set_eq c0
  have e1 : ((w.setCell ⟨b, 0, none⟩ u).setCell ⟨b, 1, none⟩ v).cell? ⟨b, 1, none⟩ = some v := cell_set_eq (by rw [cell_set_ne (by decide)]; exact c1)
  exact ⟨carryF (balloc _ _) e0 (by simpa using f0), carryF (balloc _ _) e1 (by simpa using f1)⟩

/-- The best fraction so far is that of the place so far. -/
def BestF (gx gv : Int) (at' lx lv : List Int) (k : Nat) (bn bd : Int) : Prop :=
  ∀ o : Nat, Num.outN at' lx lv k = o → bn * (gv * lv[Num.atF at' o]?.getD 0) = gx * lx[Num.atF at' o]?.getD 0 * bd ∧ (1 ≤ bd ∧ bd ≤ 497664) ∧ (-497664 ≤ bn ∧ bn ≤ 497664)

theorem BestF.stay {gx gv : Int} {at' lx lv : List Int} {k : Nat} {bn bd : Int} (h : BestF gx gv at' lx lv k bn bd) (he : Num.outN at' lx lv (k + 1) = Num.outN at' lx lv k) : BestF gx gv at' lx lv (k + 1) bn bd := fun o ho => h o (by rw [← he]; exact ho)

theorem BestF.new {gx gv : Int} {at' lx lv : List Int} {k : Nat} {bn bd : Int} (he : Num.outN at' lx lv (k + 1) = k) (h1 : bn * (gv * lv[Num.atF at' k]?.getD 0) = gx * lx[Num.atF at' k]?.getD 0 * bd) (h2 : 1 ≤ bd ∧ bd ≤ 497664) (h3 : -497664 ≤ bn ∧ bn ≤ 497664) : BestF gx gv at' lx lv (k + 1) bn bd := by
  intro o ho
  have : o = k := by omega
  subst this
  exact ⟨h1, h2, h3⟩

/-- A corner that is told, if there is one. -/
def CornerAt (w : World) (b : Nat) (N : Nat) (x : List Int) (d : Int) (ok : Bool) : Prop :=
  ∃ xa xl xc dx ya yl yc dy ga gl gc dg, (w.cell? ⟨b, 0, none⟩ = some (.slice xa xl xc) ∧ w.cell? ⟨b, 1, none⟩ = some (.int .i64 dx) ∧ w.cell? ⟨b, 2, none⟩ = some (.slice ya yl yc) ∧ w.cell? ⟨b, 3, none⟩ = some (.int .i64 dy) ∧ w.cell? ⟨b, 4, none⟩ = some (.slice ga gl gc) ∧ w.cell? ⟨b, 5, none⟩ = some (.int .i64 dg)) ∧ (ok = true → xl = N ∧ dx = d ∧ Ints w xa xl x)

set_option maxRecDepth 4000 in
set_option maxHeartbeats 6400000 in
theorem next5_any (ca : Option Addr) (cl cc : Nat) (ra : Option Addr) (rl rc : Nat) (p : Num.Lp) (w : World) (hc : Ints w ca cl p.costs) (hr : RowsAt w ra rl p.rows) (hm : p.may = true)
    (aa : Option Addr) (ac : Nat) (at' : List Int) (ha : Ints w aa rl at') (hg : Num.Good p at' rl cl)
    (xa : Option Addr) (xl xc : Nat) (dx : Int) (ya : Option Addr) (yl yc : Nat) (dy : Int) (ga : Option Addr) (gl gc : Nat) (dg : Int) (hig : Ints w ga gl (Num.look p at').g) (hg8 : gl ≤ 8) :
    Calls Try.prog 76 #[.agg #[.slice ca cl cc, .slice ra rl rc], .slice aa rl ac, .agg #[.slice xa xl xc, .int .i64 dx, .slice ya yl yc, .int .i64 dy, .slice ga gl gc, .int .i64 dg]] w fun e w' => ∃ na nl nc, e = .returned (.tuple #[.slice na nl nc, .int .i64 (Num.nextN p at').2.1]) ∧ Ints w' na nl (Num.nextN p at').1 ∧ (nl = 0 ∨ ∃ g, na = some ⟨g, 0, none⟩ ∧ w.heap.size ≤ g) ∧ nl ≤ nc ∧ Below w.heap.size w w' := by
  have HC : Hid (Ints w ca cl p.costs) := hc
  have HR : Hid (RowsAt w ra rl p.rows) := hr
  have HA : Hid (Ints w aa rl at') := ha
  have HM : Hid (p.may = true) := hm
  have HGO : Hid (Num.Good p at' rl cl) := hg
  have HCL : Hid (cl = p.costs.length) := hc.1
  have HRL : Hid (rl = p.rows.length) := hr.1
  have hc4 : cl ≤ 4 ∧ 1 ≤ cl := by have := hc.1; have := (p.may_of hm).1; omega
  have hr4 : rl ≤ 4 ∧ 1 ≤ rl := by have := hr.1; have := (p.may_of hm).2.2.1; omega
  have HAL : Hid (at'.length = rl) := (Num.right_all at' rl _ hg.right).1
  obtain ⟨h01, h02⟩ := (Num.good_of p at' rl cl hm hr.1 hc.1).2 hg
  have HB : Hid (Num.firstN (Num.look p at').g (Num.look p at').g.length < 0 → Num.nextN p at' = ([], 1, 0)) := Num.next_best p at' h01 h02
  have HN : Hid (∀ s : Nat, Num.firstN (Num.look p at').g (Num.look p at').g.length = s → Num.outN at' (Num.look p at').x (Num.look (Num.askP p s) at').x at'.length < 0 → Num.nextN p at' = ([], 2, 0)) := fun s => Num.next_end p at' s h01 h02
  have HS : Hid (∀ s o : Nat, Num.firstN (Num.look p at').g (Num.look p at').g.length = s → Num.outN at' (Num.look p at').x (Num.look (Num.askP p s) at').x at'.length = o → Num.nextN p at' = (Num.swapN at' (at'[o]?.getD 0) s at'.length, 0, 0)) := fun s o => Num.next_some p at' s o h01 h02
  obtain ⟨_, hxlen, hglen, _, _, gx, _, gx0, _, hgx, _, _⟩ := Num.look_parts p at' rl cl hm hr.1 hc.1 hg.right hg.den
  have HXL : Hid ((Num.look p at').x.length = cl + rl) := hxlen
  have HGL : Hid ((Num.look p at').g.length = gl) := hig.1.symm
  have HGN : Hid (gl = cl + rl) := by show gl = cl + rl; have := hig.1; omega
  have HGX : Hid (∀ j : Nat, Num.sgD p at' rl * (Num.xL p at' rl (cl + rl))[j]?.getD 0 = gx * (Num.look p at').x[j]?.getD 0) := hgx
  have HIN : Hid (∀ s : Nat, 0 < (Num.look p at').g[s]?.getD 0 → Num.inB at' rl s = false) := fun s h => Num.in_new p at' rl cl hm hr.1 hc.1 hg s h
  have HIG : Hid (Ints w ga gl (Num.look p at').g) := hig
  clear hc hr ha hm hg hig hxlen hglen hgx h01 h02
  generalize hnx : Num.nextN p at' = NX at *
  clear hnx
  generalize hlg : (Num.look p at').g = lg at *
  clear hlg
  go_enter Try.func76, Try.ntmps76
  go_upto_block 0 with fail
  have hs1 := Six.new (w.alloc (.cells #[.slice ca cl cc, .slice ra rl rc] 40)) (.slice xa xl xc) (.int .i64 dx) (.slice ya yl yc) (.int .i64 dy) (.slice ga gl gc) (.int .i64 dg) 47
  have hb0 := hs1.bel
  generalize hW : (w.alloc (.cells #[.slice ca cl cc, .slice ra rl rc] 40)).alloc (.cells #[.slice xa xl xc, .int .i64 dx, .slice ya yl yc, .int .i64 dy, .slice ga gl gc, .int .i64 dg] 47) = W at *
  have hsz : W.heap.size = w.heap.size + 1 + 1 := by rw [← hW]; simp
  have hs1' : (w.alloc (.cells #[.slice ca cl cc, .slice ra rl rc] 40)).heap.size = w.heap.size + 1 := by simp
  have z4 := hs1.c4
  rw [hs1'] at z4
  obtain ⟨⟨k0, k1⟩, _⟩ := kept2 hb0
  have hBW : Below w.heap.size w W := binto hb0
  have HIGW : Hid (Ints W ga gl lg) := Ints.below HIG.out hBW (Nat.le_refl _)
  clear hW hs1 hb0 hs1'
  go_cut [8, 9] from 16 to 35 (fun s8 s9 wx => s8 = .int .i64 (Num.firstN lg gl) ∧ (∃ k : Nat, s9 = .int .i64 k) ∧ wx = W)
  case first =>
    go_wp2_with fail
    go_loop [8, 9] (fun v j => ∃ k : Nat, k ≤ gl ∧ j = .int .i64 k ∧ v = .int .i64 (Num.firstN lg k)) (fun _ j => gl - (intOf j).toNat)
    case atStart => exact ⟨0, Nat.zero_le _, rfl, rfl⟩
    case round =>
      obtain ⟨k, hk, rfl, rfl⟩ := hrel
      rcases Num.first_ok lg k with ⟨f1, f2⟩ | ⟨s, f1, f2, f3, f4⟩
      · have HF : Hid (∀ x, lg[k]?.getD 0 = x → Num.firstN lg (k + 1) = if 0 < x then (k : Int) else -1) := by
          intro x hx
          show (if 0 ≤ Num.firstN lg k then Num.firstN lg k else if 0 < lg[k]?.getD 0 then (k : Int) else -1) = _
          rw [f1, if_neg (by omega), hx]
        have HF1 : Hid (Num.firstN lg k = -1) := f1
        rw [f1]
        clear f1 f2
        by_cases hlt : k < gl
        · rcases HIGW.out.2 with h | ⟨gb, go, hga, hgs, hgcell⟩
          · omega
          have cg := hgcell k hlt
          have HFX : Hid (Num.firstN lg (k + 1) = if 0 < lg[k]?.getD 0 then (k : Int) else -1) := HF.out _ rfl
          clear hgcell
          generalize lg[k]?.getD 0 = x at *
          subst hga
          by_cases hx : 0 < x
          · have q1 : decide (0 < x) = true := decide_eq_true hx
            go_wp2_with fail
            go_round
            case rel => exact ⟨k + 1, hlt, by go_num, by rw [HFX.out, if_pos hx]⟩
            case measure => simp [intOf]; omega
          · have q1 : decide (0 < x) = false := decide_eq_false hx
            have hx' : ¬ 0 < x := hx
            have HXN : Hid (¬ 0 < x) := hx
            go_wp2_with fail
            go_round
            case rel => exact ⟨k + 1, hlt, by go_num, by rw [HFX.out, if_neg HXN.out]⟩
            case measure => simp [intOf]; omega
        · have hke : k = gl := by omega
          subst hke
          go_wp2_with fail
          go_meet
          exact ⟨by rw [HF1.out], ⟨k, rfl⟩, rfl⟩
      · have HST : Hid (Num.firstN lg gl = s) := by
          have := Num.first_stay lg k (by omega) (gl - k)
          rw [show k + (gl - k) = gl by omega, f2] at this
          exact this
        rw [f2]
        clear f2 f3 f4
        have q2 : decide ((s : Int) < 0) = false := decide_eq_false (by omega)
        by_cases hlt : k < gl
        · go_wp2_with fail
          go_meet
          exact ⟨by rw [HST.out], ⟨k, rfl⟩, rfl⟩
        · have hke : k = gl := by omega
          subst hke
          go_wp2_with fail
          go_meet
          exact ⟨by rw [HST.out], ⟨k, rfl⟩, rfl⟩
  case rest =>
    obtain ⟨rfl, ⟨kk, rfl⟩, rfl⟩ := hcut
    rcases Num.first_ok lg gl with ⟨f1, f2⟩ | ⟨s, f1, f2, f3, f4⟩
    · have hnx := HB.out (by rw [HGL.out, f1]; omega)
      subst hnx
      rw [f1]
      go_wp2_with fail
      go_ret2
      exact ⟨none, 0, 0, rfl, Ints.empty _, Or.inl rfl, Nat.le_refl _, hBW⟩
    · rw [f2]
      have HF2 : Hid (Num.firstN lg lg.length = s) := by rw [HGL.out]; exact f2
      have HSB : Hid (Num.inB at' rl s = false) := HIN.out s f3
      have hsN : s < cl + rl := by have := HGN.out; omega
      clear f2 f3 f4
      have hsd : decide ((s : Int) < 0) = false := decide_eq_false (by omega)
      go_wp2_with fail
      obtain ⟨_, hvl, hvb, gv, gv0, hgv⟩ := Num.ask_parts p at' rl cl s HM.out HRL.out HCL.out HGO.out
      have HVL : Hid _ := hvl
      have HVB : Hid _ := hvb
      have HNEAR : Hid (∀ k, k < rl → _) := fun k hk => Num.near_frac p at' rl cl s k HM.out HRL.out HCL.out HGO.out hsN HSB.out hk gx gv HGX.out hgv gv0
      have HND : Hid (Num.outN at' (Num.look p at').x (Num.look (Num.askP p s) at').x rl < 0 → NX = ([], 2, 0)) := by
        intro h; rw [← HAL.out] at h; exact HN.out s HF2.out h
      have HNS : Hid (∀ o : Nat, Num.outN at' (Num.look p at').x (Num.look (Num.askP p s) at').x rl = o → NX = (Num.swapN at' (at'[o]?.getD 0) s rl, 0, 0)) := by
        intro o h
        rw [← HAL.out] at h
        have := HS.out s o HF2.out h
        rw [HAL.out] at this
        exact this
      clear hvl hvb hgv
      have hV2 : Below wc.heap.size wc (wc.alloc (.cells #[.int .i64 0, .int .i64 0] 24)) := balloc _ _
      have hcn := cell_new2 (w := wc) (k := w.heap.size + 1 + 1) hsz.symm (.int .i64 0) (.int .i64 0) 24
      have hfz : (wc.alloc (.cells #[.int .i64 0, .int .i64 0] 24)).frozen? ⟨w.heap.size + 1 + 1, 0, none⟩ = false ∧ (wc.alloc (.cells #[.int .i64 0, .int .i64 0] 24)).frozen? ⟨w.heap.size + 1 + 1, 1, none⟩ = false := by
        rw [← hsz]; exact ⟨by go_simp, by go_simp⟩
      have hV2s : (wc.alloc (.cells #[.int .i64 0, .int .i64 0] 24)).heap.size = w.heap.size + 1 + 1 + 1 := by simp; omega
      generalize wc.alloc (.cells #[.int .i64 0, .int .i64 0] 24) = V2 at *
      have HBX : Hid (∀ w', Below (w.heap.size + 1 + 1) V2 w' → Below w.heap.size w w' ∧ (w'.cell? ⟨w.heap.size, 0, none⟩ = some (.slice ca cl cc) ∧ w'.cell? ⟨w.heap.size, 1, none⟩ = some (.slice ra rl rc)) ∧ w.heap.size + 1 + 1 < w'.heap.size) := by
        intro w' h
        refine ⟨(bstep hBW hV2).trans (h.mono (by omega)), ⟨?_, ?_⟩, by have := h.size; omega⟩
        · rw [h.cell (by show w.heap.size < _; omega)]; exact carry hV2 k0
        · rw [h.cell (by show w.heap.size < _; omega)]; exact carry hV2 k1
      clear k0 k1 z4 HIGW hBW hV2
      generalize hlx : (Num.look p at').x = lx at *
      clear hlx
      generalize hlv : (Num.look (Num.askP p s) at').x = lv at *
      have HLV : Hid ((Num.look (Num.askP p s) at').x = lv) := hlv
      clear hlv
      go_loopw [10, 12] (fun o i wr => ∃ k : Nat, k ≤ rl ∧ i = .int .i64 k ∧ o = .int .i64 (Num.outN at' lx lv k) ∧ Below (w.heap.size + 1 + 1) V2 wr ∧ ∃ bn bd, (wr.cell? ⟨w.heap.size + 1 + 1, 0, none⟩ = some (.int .i64 bn) ∧ wr.cell? ⟨w.heap.size + 1 + 1, 1, none⟩ = some (.int .i64 bd)) ∧ (wr.frozen? ⟨w.heap.size + 1 + 1, 0, none⟩ = false ∧ wr.frozen? ⟨w.heap.size + 1 + 1, 1, none⟩ = false) ∧ BestF gx gv at' lx lv k bn bd) (fun _ i _ => rl - (intOf i).toNat)
      case atStart => exact ⟨0, Nat.zero_le _, rfl, rfl, Below.refl _ _, 0, 0, hcn, hfz, fun o ho => absurd ho (by show (-1 : Int) ≠ _; omega)⟩
      case round =>
        obtain ⟨k, hk, rfl, rfl, hbl, bn, bd, ⟨t0, t1⟩, ⟨t2, t3⟩, hbest⟩ := hrel
        clear hcn hfz
        have HBEST : Hid (BestF gx gv at' lx lv k bn bd) := hbest
        obtain ⟨hB, ⟨b0, b1⟩, hz⟩ := HBX.out wr hbl
        clear hbest
        by_cases hlt : k < rl
        · obtain ⟨hr2, hdiff, hfrac⟩ := HNEAR.out k hlt
          have HDIFF : Hid _ := hdiff
          have HFRAC : Hid _ := hfrac
          have HE : Hid (Num.outN at' lx lv (k + 1) = if 0 < lv[Num.atF at' k]?.getD 0 ∧ (Num.outN at' lx lv k < 0 ∨ lx[Num.atF at' k]?.getD 0 * lv[Num.atF at' (Num.outN at' lx lv k).toNat]?.getD 0 < lx[Num.atF at' (Num.outN at' lx lv k).toNat]?.getD 0 * lv[Num.atF at' k]?.getD 0) then (k : Int) else Num.outN at' lx lv k) := rfl
          have HO := Num.out_ok at' lx lv k
          rcases (Ints.below HA.out hB (Nat.le_refl _)).2 with h | ⟨ab, ao, haa, has, hacell⟩
          · omega
          have ck := hacell k hlt
          have u1 : (k : Int) < (rl : Int) := by omega
          clear hacell hdiff hfrac
          have HLN : Hid ((Num.swapN at' (at'[k]?.getD 0) s rl).length = rl) := (Num.right_all _ rl _ hr2).1
          have HR2 : Hid (Num.rightB (Num.swapN at' (at'[k]?.getD 0) s rl) rl (cl + rl) = true) := hr2
          clear hr2
          obtain ⟨ov, hov⟩ : ∃ ov, at'[k]?.getD 0 = ov := ⟨_, rfl⟩
          rw [hov] at HDIFF HFRAC ck HLN HR2
          clear hov
          obtain ⟨b2, hb2⟩ : ∃ b2, Num.swapN at' ov s rl = b2 := ⟨_, rfl⟩
          have HB2 : Hid (Num.swapN at' ov s rl = b2) := hb2
          rw [hb2] at HDIFF HFRAC HLN HR2
          clear hb2
          have KS : Hid (∀ w', Below wr.heap.size wr w' → Calls Try.prog 96 #[.slice aa rl ac, .int .i64 ov, .int .i64 s] w' fun e w'' => ∃ ra rc, e = .returned (.slice ra rl rc) ∧ Below wr.heap.size wr w'' ∧ Ints w'' ra rl b2 ∧ Below w'.heap.size w' w'') := by
            intro w' h
            have h1 := swap_any aa rl ac at' w' (Ints.below HA.out (bstep hB h) (Nat.le_refl _)) (by omega) ov s
            rw [HB2.out, HLN.out] at h1
            refine Calls.mono h1 ?_
            rintro e w'' ⟨ra', rc', rfl, _, h3, _, h5⟩
            exact ⟨ra', rc', rfl, bstep h h5, h3, h5⟩
          obtain ⟨ok, hok⟩ : ∃ ok, (!(Num.denL p b2 rl == 0)) = ok := ⟨_, rfl⟩
          have HOK : Hid ((!(Num.denL p b2 rl == 0)) = ok) := hok
          clear hok
          have KL : Hid (∀ w' ra' rc', Below wr.heap.size wr w' → Ints w' ra' rl b2 → Calls Try.prog 33 #[.agg #[.slice ca cl cc, .slice ra rl rc], .slice ra' rl rc'] w' fun e w'' => ∃ xa xl xc dx ya yl yc dy ga gl gc dg, e = .returned (.tuple #[.agg #[.slice xa xl xc, .int .i64 dx, .slice ya yl yc, .int .i64 dy, .slice ga gl gc, .int .i64 dg], .bool ok]) ∧ Below wr.heap.size wr w'' ∧ (ok = true → xl = cl + rl ∧ dx = (Num.look p b2).xd ∧ Ints w'' xa xl (Num.look p b2).x) ∧ Below w'.heap.size w' w'') := by
            intro w' ra' rc' h hi
            have hB' := bstep hB h
            obtain ⟨⟨mx, qx, zx⟩, hpx⟩ : ∃ t, Num.pt (Num.xL p b2 rl (cl + rl)) (Num.denL p b2 rl) = t := ⟨_, rfl⟩
            obtain ⟨⟨my, qy, zy⟩, hpy⟩ : ∃ t, Num.pt (Num.priceL p b2 rl) (Num.denL p b2 rl) = t := ⟨_, rfl⟩
            obtain ⟨⟨mg, qg, zg⟩, hpg⟩ : ∃ t, Num.pt (Num.gainL p b2 rl (cl + rl)) (Num.denL p b2 rl) = t := ⟨_, rfl⟩
            refine Calls.mono (rlook_any ca cl cc ra rl rc p w' (Ints.below HC.out hB' (Nat.le_refl _)) (RowsAt.below HR.out hB' (Nat.le_refl _)) ra' rc' b2 hi HM.out (cl + rl) rfl (by omega) (Num.right_all b2 rl _ HR2.out).2 mx my mg qx qy qg zx zy zg hpx hpy hpg) ?_
            rintro e w'' ⟨hb, ⟨hd, rfl⟩ | ⟨hd, xa', xl', xc', ya', yl', yc', ga', gl', gc', rfl, h1, _, _, _, _, _⟩⟩
            · have h0 := HOK.out
              rw [hd] at h0
              subst h0
              exact ⟨none, 0, 0, 0, none, 0, 0, 0, none, 0, 0, 0, rfl, bstep h hb, fun h => by simp at h, hb⟩
            · have h0 : ok = true := by rw [← HOK.out]; simpa using hd
              subst h0
              have hl := Num.look_some p b2 HM.out (by rw [← HRL.out, ← HCL.out]; exact HR2.out) (by rw [← HRL.out]; exact hd) rl (cl + rl) HRL.out (by rw [← HRL.out, ← HCL.out])
              have hlen := (Num.look_parts p b2 rl cl HM.out HRL.out HCL.out HR2.out hd).2.1
              rw [hpx] at hl
              refine ⟨xa', xl', xc', _, ya', yl', yc', _, ga', gl', gc', _, rfl, bstep h hb, fun _ => ⟨?_, ?_, ?_⟩, hb⟩
              · have := h1.1
                rw [hl] at hlen
                dsimp only at hlen
                omega
              · rw [hl]
              · rw [hl]; exact h1
          have q0 : ∀ w', Below wr.heap.size wr w' → w'.cell? ⟨w.heap.size, 0, none⟩ = some (.slice ca cl cc) := fun w' h => carry h b0
          have q1 : ∀ w', Below wr.heap.size wr w' → w'.cell? ⟨w.heap.size, 1, none⟩ = some (.slice ra rl rc) := fun w' h => carry h b1
          have q2 : ∀ w', Below wr.heap.size wr w' → w'.cell? ⟨ab, ao + k, none⟩ = some (.int .i64 ov) := fun w' h => carry h ck
          subst haa
          generalize hoo : Num.outN at' lx lv k = oo at *
          have HOO : Hid _ := hoo
          clear hoo
          go_wp2_with fail
          go_cut [13, 14] from 39 to 79 (fun s13 s14 wx => ∃ bb : Nat, s13 = .pointer (some ⟨bb, 0, none⟩) ∧ s14 = .bool ok ∧ Hid (CornerAt wx bb (cl + rl) (Num.look p b2).x (Num.look p b2).xd ok) ∧ wr.heap.size ≤ bb ∧ Below wr.heap.size wr wx)
          case first =>
            go_region_held3 (fun w' => Below wr.heap.size wr w') (first | (with_reducible assumption) | (with_reducible exact (Below.refl _ _).drew) | (with_reducible exact ((Below.refl _ _).alloc (Nat.le_refl _) _).drew) | (with_reducible refine Below.alloc ?_ ?_ _ <;> first | (with_reducible assumption) | (apply Below.size; with_reducible assumption)) | (with_reducible refine set6 ?_ ?_ _ _ _ _ _ _ <;> first | (with_reducible assumption) | (with_reducible exact Nat.le_refl _) | (apply Below.size; with_reducible assumption)))
              (first | (go_at_call 96; refine Calls.mono (KS.out _ ?_) ?_; (with_reducible assumption); rintro e v1 ⟨sa, sc, rfl, hb1, hI1, hk1⟩; (first | (with_reducible have hz2 := zeroC hk1) | (with_reducible have hz2 := zeroCd hk1) | skip))
                     | (go_at_call 33; (first | (with_reducible refine Calls.mono (KL.out _ _ _ ?_ hI1) ?_) | (with_reducible refine Calls.mono (KL.out _ _ _ ?_ (Ints.below hI1 (balloc _ _) (Nat.le_refl _))) ?_)); (with_reducible assumption); rintro e v3 ⟨xa', xl', xc', ux, ya', yl', yc', uy, ga', gl', gc', ug, rfl, hb3, hI3, hk3⟩; (first | (with_reducible have hz2 := ZC.step hz2 hk3) | (with_reducible have hz2 := zeroC hk3) | (with_reducible have hz2 := zeroCd hk3) | skip)))
            · rename_i hfin
              clear q0 q1 q2 KS KL
              have HIW : Hid (CornerAt (v3.alloc (.cells #[.slice xa' xl' xc', .int .i64 ux, .slice ya' yl' yc', .int .i64 uy, .slice ga' gl' gc', .int .i64 ug] 47)) v3.heap.size (cl + rl) (Num.look p b2).x (Num.look p b2).xd ok) := by
                have hs := Six.new v3 (.slice xa' xl' xc') (.int .i64 ux) (.slice ya' yl' yc') (.int .i64 uy) (.slice ga' gl' gc') (.int .i64 ug) 47
                exact ⟨xa', xl', xc', ux, ya', yl', yc', uy, ga', gl', gc', ug, ⟨hs.c0, hs.c1, hs.c2, hs.c3, hs.c4, hs.c5⟩, fun h => ⟨(hI3 h).1, (hI3 h).2.1, Ints.below (hI3 h).2.2 (balloc _ _) (Nat.le_refl _)⟩⟩
              have HFIN : Hid _ := hfin
              have hle : wr.heap.size ≤ v3.heap.size := hb3.size
              clear hI3 hI1 hfin
              go_wp2_with fail
              go_meet
              exact ⟨v3.heap.size, rfl, rfl, HIW.out, hle, HFIN.out⟩
            · rename_i hfin
              clear q0 q1 q2 KS KL
              have HFIN : Hid _ := hfin
              have hle : wr.heap.size ≤ v1.heap.size := by first | exact Nat.le_refl _ | exact hb1.size
              generalize hX : (((((v3.setCell ⟨v1.heap.size, 0, none⟩ (.slice xa' xl' xc')).setCell ⟨v1.heap.size, 1, none⟩ (.int .i64 ux)).setCell ⟨v1.heap.size, 2, none⟩ (.slice ya' yl' yc')).setCell ⟨v1.heap.size, 3, none⟩ (.int .i64 uy)).setCell ⟨v1.heap.size, 4, none⟩ (.slice ga' gl' gc')).setCell ⟨v1.heap.size, 5, none⟩ (.int .i64 ug) = X at *
              have HIW : Hid (CornerAt X (v1.heap.size) (cl + rl) (Num.look p b2).x (Num.look p b2).xd ok) := by
                obtain ⟨_, ⟨y0, y1, y2, y3, y4, y5⟩, _⟩ := id hz2
                obtain ⟨e0, e1, e2, e3, e4, e5⟩ := six_set' y0 y1 y2 y3 y4 y5 _ _ _ _ _ _ X hX.symm
                refine ⟨xa', xl', xc', ux, ya', yl', yc', uy, ga', gl', gc', ug, ⟨e0, e1, e2, e3, e4, e5⟩, fun h => ⟨(hI3 h).1, (hI3 h).2.1, ?_⟩⟩
                rw [← hX]
                exact ZC.kept hz2 (hI3 h).2.2 (by have := (hI3 h).1; omega) _ _ _ _ _ _
              clear hI3 hI1 hfin hX hz2
              go_wp2_with fail
              go_meet
              exact ⟨v1.heap.size, rfl, rfl, HIW.out, hle, HFIN.out⟩
            · rename_i hfin
              clear q0 q1 q2 KS KL
              have HFIN : Hid _ := hfin
              have hle : wr.heap.size ≤ wr.heap.size := by first | exact Nat.le_refl _ | exact hb1.size
              generalize hX : (((((v3.setCell ⟨wr.heap.size, 0, none⟩ (.slice xa' xl' xc')).setCell ⟨wr.heap.size, 1, none⟩ (.int .i64 ux)).setCell ⟨wr.heap.size, 2, none⟩ (.slice ya' yl' yc')).setCell ⟨wr.heap.size, 3, none⟩ (.int .i64 uy)).setCell ⟨wr.heap.size, 4, none⟩ (.slice ga' gl' gc')).setCell ⟨wr.heap.size, 5, none⟩ (.int .i64 ug) = X at *
              have HIW : Hid (CornerAt X (wr.heap.size) (cl + rl) (Num.look p b2).x (Num.look p b2).xd ok) := by
                obtain ⟨_, ⟨y0, y1, y2, y3, y4, y5⟩, _⟩ := id hz2
                obtain ⟨e0, e1, e2, e3, e4, e5⟩ := six_set' y0 y1 y2 y3 y4 y5 _ _ _ _ _ _ X hX.symm
                refine ⟨xa', xl', xc', ux, ya', yl', yc', uy, ga', gl', gc', ug, ⟨e0, e1, e2, e3, e4, e5⟩, fun h => ⟨(hI3 h).1, (hI3 h).2.1, ?_⟩⟩
                rw [← hX]
                exact ZC.kept hz2 (hI3 h).2.2 (by have := (hI3 h).1; omega) _ _ _ _ _ _
              clear hI3 hI1 hfin hX hz2
              go_wp2_with fail
              go_meet
              exact ⟨wr.heap.size, rfl, rfl, HIW.out, hle, HFIN.out⟩
          case rest =>
            obtain ⟨bb, rfl, rfl, hCA, hbb, hbw⟩ := hcut
            obtain ⟨xa', xl', xc', ux, ya', yl', yc', uy, ga', gl', gc', ug, ⟨y0, y1, y2, y3, y4, y5⟩, hIok⟩ := hCA.out
            have HIOK : Hid (ok = true → xl' = cl + rl ∧ ux = (Num.look p b2).xd ∧ Ints wc xa' xl' (Num.look p b2).x) := hIok
            have hblc : Below (w.heap.size + 1 + 1) V2 wc := hbl.trans (hbw.mono (by omega))
            have r0 := carry hbw t0
            have r1 := carry hbw t1
            have r2 := carryF hbw t0 t2
            have r3 := carryF hbw t1 t3
            have hBc := bstep hB hbw
            have b0' := carry hbw b0
            have b1' := carry hbw b1
            have hbbl : bb < wc.heap.size := World.block_lt_of_cell? wc _ y0
            have hwz : wr.heap.size ≤ wc.heap.size := hbw.size
            clear hCA hIok t0 t1 t2 t3 b0 b1 q0 q1 q2 KS KL hbl ck hB
            by_cases hv : 0 < lv[Num.atF at' k]?.getD 0
            · have hd : Num.denL p b2 rl ≠ 0 := fun h => by have := HDIFF.out.1 h; omega
              have hok : ok = true := by rw [← HOK.out]; simpa using hd
              subst hok
              obtain ⟨rfl, rfl, hix⟩ := HIOK.out rfl
              have HIX : Hid (Ints wc xa' (cl + rl) (Num.look p b2).x) := hix
              obtain ⟨_, hl2, _, ⟨hd1, hd2⟩, hxb2, _⟩ := Num.look_parts p b2 rl cl HM.out HRL.out HCL.out HR2.out hd
              obtain ⟨tn, td, hmk, hmul, htd, htd2, htn⟩ := Num.mk_is ((Num.look p b2).x[s]?.getD 0) (Num.look p b2).xd (by omega) (by have := hxb2 s; omega)
              have hft := Num.frac_of _ _ tn td _ _ hd1 hmul (HFRAC.out hd)
              have HFT : Hid (tn * (gv * lv[Num.atF at' k]?.getD 0) = gx * lx[Num.atF at' k]?.getD 0 * td) := hft
              have htn2 : -497664 ≤ tn ∧ tn ≤ 497664 := by have := hxb2 s; omega
              have htd3 : 1 ≤ td ∧ td ≤ 497664 := by omega
              have HMK : Hid _ := hmk
              have HV : Hid (0 < lv[Num.atF at' k]?.getD 0) := hv
              clear hix hmk hmul htd htd2 htn hft hxb2 hl2 HIOK HFRAC
              generalize hxd : (Num.look p b2).xd = d2 at *
              clear hxd
              go_wp2_with fail
              refine (falls5_any ca cl cc ra rl rc p wc (Ints.below HC.out hBc (Nat.le_refl _)) (RowsAt.below HR.out hBc (Nat.le_refl _)) HM.out _ ac at' (Ints.below HA.out hBc (Nat.le_refl _)) HGO.out s hsN k hlt).mono ?_
              rintro e w3 ⟨rfl, hb3⟩
              rw [HLV.out, decide_eq_true HV.out]
              have y0' := carry hb3 y0
              have y1' := carry hb3 y1
              have y2' := carry hb3 y2
              have y3' := carry hb3 y3
              have y4' := carry hb3 y4
              have y5' := carry hb3 y5
              have hb3s := hb3.size
              clear y0 y1 y2 y3 y4 y5
              go_wp2_with fail
              refine (column5_any xa' (cl + rl) xc' d2 ya' yl' yc' uy ga' gl' gc' ug (Num.look p b2).x w3 (Ints.below HIX.out hb3 (Nat.le_refl _)) s hsN tn td 0 HMK.out).mono ?_
              rintro e w4 ⟨rfl, hb4⟩
              have hb4c : Below wc.heap.size wc w4 := bstep hb3 hb4
              have hbl4 : Below (w.heap.size + 1 + 1) V2 w4 := hblc.trans (hb4c.mono (by omega))
              have o0 := carry hb4c r0
              have o1 := carry hb4c r1
              have o2 := carryF hb4c r0 r2
              have o3 := carryF hb4c r1 r3
              have hb4s := hb4c.size
              clear y0' y1' y2' y3' y4' y5' r0 r1 r2 r3 hb3 hb4 hb4c b0' b1' hblc hBc HIX
              have hbm : w.heap.size + 1 + 1 < w4.heap.size := by omega
              rcases HO with ⟨oe, _⟩ | ⟨o, ol, oe, op, _⟩
              · have HOE : Hid (oo = -1) := oe
                have HEN : Hid (Num.outN at' lx lv (k + 1) = k) := by
                  show Num.outN at' lx lv (k + 1) = k
                  rw [HE.out, if_pos ⟨HV.out, Or.inl (by omega)⟩]
                subst oe
                go_wp2_with fail
                go_roundw
                case rel => exact ⟨k + 1, hlt, by go_num, by rw [HEN.out], (bset (bset hbl4 (Nat.le_refl _) _) (Nat.le_refl _) _).alloc (by simp; omega) _, tn, td, two_set5 o0 o1 _ _ _ _ rfl, two_frz o0 o1 o2 o3 _ _ _, BestF.new HEN.out HFT.out htd3 htn2⟩
                case measure => simp [intOf]; omega
              · have HEN : Hid (tn * bd - bn * td < 0 → Num.outN at' lx lv (k + 1) = k) := by
                  intro h
                  obtain ⟨h1, h2, h3⟩ := HBEST.out o (by rw [HOO.out]; exact oe)
                  have hc := (Num.frac_cmp tn td bn bd gx gv _ _ _ _ HFT.out h1 gx0 gv0 HV.out op htd3.1 h2.1).1 h
                  rw [HE.out, oe, Int.toNat_natCast, if_pos ⟨HV.out, Or.inr hc⟩]
                have HES : Hid (¬ tn * bd - bn * td < 0 → Num.outN at' lx lv (k + 1) = oo) := by
                  intro h
                  obtain ⟨h1, h2, h3⟩ := HBEST.out o (by rw [HOO.out]; exact oe)
                  have hc : ¬ lx[Num.atF at' k]?.getD 0 * lv[Num.atF at' o]?.getD 0 < lx[Num.atF at' o]?.getD 0 * lv[Num.atF at' k]?.getD 0 := fun hh => h ((Num.frac_cmp tn td bn bd gx gv _ _ _ _ HFT.out h1 gx0 gv0 HV.out op htd3.1 h2.1).2 hh)
                  rw [HE.out, oe, Int.toNat_natCast, if_neg (fun hh => hh.2.elim (fun h => by omega) hc)]
                obtain ⟨_, hbd, hbn⟩ := HBEST.out o (by rw [HOO.out]; exact oe)
                have HOE : Hid (oo = o) := oe
                have hod : decide ((o : Int) < 0) = false := decide_eq_false (by omega)
                rw [oe]
                clear oe op
                go_wp2_with fail
                refine (cmp_any tn td bn bd _ (by omega) (by omega) (by omega) (by omega)).mono ?_
                rintro e w5 ⟨rfl, hb5⟩
                have hn0 : w4.heap.size < (w4.alloc (.cells #[.int .i64 tn, .int .i64 td] 24)).heap.size := by simp
                have x0 := carry hb5 (cell_new2 (w := w4) rfl (.int .i64 tn) (.int .i64 td) 24).1
                have x1 := carry hb5 (cell_new2 (w := w4) rfl (.int .i64 tn) (.int .i64 td) 24).2
                have hb45 : Below w4.heap.size w4 w5 := bstep (balloc _ _) hb5
                have i0 := carry hb45 o0
                have i1 := carry hb45 o1
                have i2 := carryF hb45 o0 o2
                have i3 := carryF hb45 o1 o3
                have hbl5 : Below (w.heap.size + 1 + 1) V2 w5 := hbl4.trans (hb45.mono (by omega))
                have hz5 := hb45.size
                clear o0 o1 o2 o3 hb5 hb45 hbl4 hn0
                by_cases hneg : tn * bd - bn * td < 0
                · have HEN2 := HEN.out hneg
                  have HEN3 : Hid (Num.outN at' lx lv (k + 1) = k) := HEN2
                  have qn : decide (tn * bd - bn * td < 0) = true := decide_eq_true hneg
                  clear HEN2
                  generalize tn * bd - bn * td = df at *
                  go_wp2_with fail
                  go_roundw
                  case rel => exact ⟨k + 1, hlt, by go_num, by rw [HEN3.out], bset (bset hbl5 (Nat.le_refl _) _) (Nat.le_refl _) _, tn, td, ⟨by rw [cell_set_ne (by decide)]; exact cell_set_eq i0, cell_set_eq (by rw [cell_set_ne (by decide)]; exact i1)⟩, ⟨by simpa using i2, by simpa using i3⟩, BestF.new HEN3.out HFT.out htd3 htn2⟩
                  case measure => simp [intOf]; omega
                · have HES2 : Hid (Num.outN at' lx lv (k + 1) = oo) := HES.out (by first | exact hneg | exact Int.not_lt.1 hneg)
                  have qn : decide (tn * bd - bn * td < 0) = false := decide_eq_false hneg
                  generalize tn * bd - bn * td = df at *
                  go_wp2_with fail
                  go_roundw
                  case rel => exact ⟨k + 1, hlt, by go_num, by rw [HES2.out, HOE.out], hbl5, bn, bd, ⟨i0, i1⟩, ⟨i2, i3⟩, BestF.stay HBEST.out (by rw [HES2.out, HOO.out])⟩
                  case measure => simp [intOf]; omega
            · have HES2 : Hid (Num.outN at' lx lv (k + 1) = oo) := by
                show Num.outN at' lx lv (k + 1) = oo
                rw [HE.out, if_neg (fun h => hv h.1)]
              by_cases hv0 : lv[Num.atF at' k]?.getD 0 = 0
              · have hd := HDIFF.out.2 hv0
                have hok : ok = false := by rw [← HOK.out, hd]; rfl
                subst hok
                clear hv hv0
                go_wp2_with fail
                go_roundw
                case rel => exact ⟨k + 1, hlt, by go_num, by rw [HES2.out], hblc, bn, bd, ⟨r0, r1⟩, ⟨r2, r3⟩, BestF.stay HBEST.out (by rw [HES2.out, HOO.out])⟩
                case measure => simp [intOf]; omega
              · have hd : Num.denL p b2 rl ≠ 0 := fun h => hv0 (HDIFF.out.1 h)
                have hok : ok = true := by rw [← HOK.out]; simpa using hd
                subst hok
                have HV : Hid (decide (0 < lv[Num.atF at' k]?.getD 0) = false) := decide_eq_false hv
                clear hv hv0 hd
                go_wp2_with fail
                refine (falls5_any ca cl cc ra rl rc p wc (Ints.below HC.out hBc (Nat.le_refl _)) (RowsAt.below HR.out hBc (Nat.le_refl _)) HM.out _ ac at' (Ints.below HA.out hBc (Nat.le_refl _)) HGO.out s hsN k hlt).mono ?_
                rintro e w3 ⟨rfl, hb3⟩
                rw [HLV.out, HV.out]
                have i0 := carry hb3 r0
                have i1 := carry hb3 r1
                have i2 := carryF hb3 r0 r2
                have i3 := carryF hb3 r1 r3
                have hbl3 : Below (w.heap.size + 1 + 1) V2 w3 := hblc.trans (hb3.mono (by omega))
                clear r0 r1 r2 r3 hb3 y0 y1 y2 y3 y4 y5
                go_wp2_with fail
                go_roundw
                case rel => exact ⟨k + 1, hlt, by go_num, by rw [HES2.out], hbl3, bn, bd, ⟨i0, i1⟩, ⟨i2, i3⟩, BestF.stay HBEST.out (by rw [HES2.out, HOO.out])⟩
                case measure => simp [intOf]; omega
        · have hke : k = rl := by omega
          subst hke
          rcases Num.out_ok at' lx lv k with ⟨o1, _⟩ | ⟨o, o1, o2, _, _⟩
          · have hnx := HND.out (by rw [o1]; omega)
            subst hnx
            rw [o1]
            go_wp2_with fail
            go_ret2
            exact ⟨none, 0, 0, rfl, Ints.empty _, Or.inl rfl, Nat.le_refl _, hB⟩
          · have hnx := HNS.out o o2
            subst hnx
            rw [o2]
            have hod : decide ((o : Int) < 0) = false := decide_eq_false (by omega)
            rcases (Ints.below HA.out hB (Nat.le_refl _)).2 with h | ⟨ab, ao, haa, has, hacell⟩
            · omega
            have co := hacell o o1
            have u1 : (o : Int) < (k : Int) := by omega
            clear hacell
            have HLN : Hid ((Num.swapN at' (at'[o]?.getD 0) s k).length = k) := (Num.right_all _ k _ (HNEAR.out o o1).1).1
            have KS := swap_any aa k ac at' wr (Ints.below HA.out hB (Nat.le_refl _)) (by omega) (at'[o]?.getD 0) s
            rw [HLN.out] at KS
            obtain ⟨ov, hov⟩ : ∃ ov, at'[o]?.getD 0 = ov := ⟨_, rfl⟩
            rw [hov] at KS co
            have HOV : Hid (at'[o]?.getD 0 = ov) := hov
            clear hov
            have HKS : Hid (Calls Try.prog 96 #[.slice aa k ac, .int .i64 ov, .int .i64 s] wr fun e w' => ∃ ra rc, e = .returned (.slice ra k rc) ∧ k ≤ rc ∧ Ints w' ra k (Num.swapN at' ov s k) ∧ (k = 0 ∨ ∃ g, ra = some ⟨g, 0, none⟩ ∧ wr.heap.size ≤ g) ∧ Below wr.heap.size wr w') := KS
            clear KS
            subst haa
            go_wp2_with fail
            refine Calls.mono HKS.out ?_
            rintro e w2 ⟨ra', rc', rfl, hrc, hri, hrf, hb2⟩
            have HRI : Hid (Ints w2 ra' k (Num.swapN at' ov s k)) := hri
            have HRF : Hid (k = 0 ∨ ∃ g, ra' = some ⟨g, 0, none⟩ ∧ wr.heap.size ≤ g) := hrf
            clear hri hrf
            go_wp2_with fail
            go_ret2
            exact ⟨ra', k, rc', rfl, by rw [HOV.out]; exact HRI.out, by
              rcases HRF.out with h | ⟨g, h1, h2⟩
              · exact Or.inl h
              · exact Or.inr ⟨g, h1, by have := hB.size; omega⟩, hrc, bstep hB hb2⟩

end Go.Proofs.Ytipcbhodlgoflaa
