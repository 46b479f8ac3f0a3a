/- What the document's own Point does, for every slice of numbers. -/
import Derived.Test.YtjpliphobnflpaaFracW5
namespace Go.Proofs.Ytjpliphobnflpaa
open Go.RowKit

set_option maxHeartbeats 800000 in
theorem rpoint_bad (d : Int) (a : Option Addr) (len cap : Nat) (l : List Int) (w : World) (hi : Ints w a len l) (hlen : len ≤ 9223372036854775807)
    (hbad : d = 0 ∨ Num.withinB 4611686018427387904 l = false ∨ Num.withinB 4611686018427387904 [d] = false) :
    Calls Try.prog 16 #[.slice a len cap, .int .i64 d] w fun e w' => e = .returned (.tuple #[.agg #[.slice none 0 0, .int .i64 0], .int .i64 3]) ∧ Below w.heap.size w w' := by
  by_cases hd0 : d = 0
  · subst hd0
    go_enter Try.func16, Try.ntmps16
    go_wp2_with fail
    exact bodyPost_ret (v := .tuple #[.agg #[.slice none 0 0, .int .i64 0], .int .i64 3]) (by simp [results, Try.results16, go_sem]) rfl ⟨rfl, (Below.refl _ _).alloc (Nat.le_refl _) _⟩
  have hd0' : (d == 0) = false := by simpa using hd0
  by_cases hl : Num.withinB 4611686018427387904 l = false
  · go_enter Try.func16, Try.ntmps16
    go_wp2_with fail
    refine (rwithin_any _ _ _ _ l _ (hi.below (B := w.heap.size) ((Below.refl _ _).alloc (Nat.le_refl _) _) (Nat.le_refl _)) (by omega) (by omega) (by omega)).mono ?_
    rintro e w' ⟨rfl, rfl⟩
    go_wp2_with fail
    exact bodyPost_ret (v := .tuple #[.agg #[.slice none 0 0, .int .i64 0], .int .i64 3]) (by simp [results, Try.results16, go_sem]) rfl ⟨rfl, (Below.refl _ _).alloc (Nat.le_refl _) _⟩
  have hl' : Num.withinB 4611686018427387904 l = true := by simpa using hl
  have hd : Num.withinB 4611686018427387904 [d] = false := by
    rcases hbad with h | h | h
    · exact absurd h hd0
    · exact absurd h hl
    · exact h
  clear hl hbad
  go_enter Try.func16, Try.ntmps16
  go_wp2_with fail
  refine (rwithin_any _ _ _ _ l _ (hi.below (B := w.heap.size) ((Below.refl _ _).alloc (Nat.le_refl _) _) (Nat.le_refl _)) (by omega) (by omega) (by omega)).mono ?_
  rintro e w' ⟨rfl, rfl⟩
  go_wp2_with fail
  refine (rwithin_any _ _ _ _ [d] _ (Ints.newAt (by simp) _ _) (by omega) (by omega) (by omega)).mono ?_
  rintro e w' ⟨rfl, rfl⟩
  go_wp2_with fail
  exact bodyPost_ret (v := .tuple #[.agg #[.slice none 0 0, .int .i64 0], .int .i64 3]) (by simp [results, Try.results16, go_sem]) rfl ⟨rfl, ((Below.refl _ _).alloc (Nat.le_refl _) _).alloc (by simp) _⟩

/-- After k rounds: the cell of p.Nums holds a slice of the call's own, whose numbers are the first k, once divided. -/
def PRel (w W0 : World) (l : List Int) (len : Nat) (y0 D : Int) (i : Value) (wr : World) : Prop :=
  ∃ (k : Nat) (v : Value), k ≤ len ∧ i = .int .i64 k ∧ wr.ownsRow (w.heap.size + 3) 2 1 v k ((l.take k).map fun n => Value.int .i64 (n.tdiv y0)) ∧
      wr.cell? ⟨w.heap.size + 1 + 1, 0, none⟩ = some v ∧ wr.cell? ⟨w.heap.size + 1 + 1, 1, none⟩ = some (.int .i64 D) ∧ wr.frozen? ⟨w.heap.size + 1 + 1, 0, none⟩ = false ∧
      w.heap.size + 3 ≤ wr.heap.size ∧ Below (w.heap.size + 2) W0 wr

theorem prel_push {w W0 wr w1 : World} {l : List Int} {len k : Nat} {y0 D V : Int} {v v' : Value} (hk : k < len) (hkl : k < l.length) (hV : V = (l[k]?.getD 0).tdiv y0)
    (hown' : w1.ownsRow (w.heap.size + 3) 2 1 v' (k + 1) ((l.take k).map (fun n => Value.int .i64 (n.tdiv y0)) ++ [.int .i64 V])) (hB : Below (w.heap.size + 3) wr w1)
    (c0 : wr.cell? ⟨w.heap.size + 1 + 1, 0, none⟩ = some v) (c1 : wr.cell? ⟨w.heap.size + 1 + 1, 1, none⟩ = some (.int .i64 D)) (f0 : wr.frozen? ⟨w.heap.size + 1 + 1, 0, none⟩ = false)
    (hsz : w.heap.size + 3 ≤ wr.heap.size) (hbl : Below (w.heap.size + 2) W0 wr) :
    PRel w W0 l len y0 D (.int .i64 ((k : Int) + 1)) (w1.setCell ⟨w.heap.size + 1 + 1, 0, none⟩ v') := by
  have d0 : w1.cell? ⟨w.heap.size + 1 + 1, 0, none⟩ = some v := by rw [hB.cell (by show _ < _; simp)]; exact c0
  have d1 : w1.cell? ⟨w.heap.size + 1 + 1, 1, none⟩ = some (.int .i64 D) := by rw [hB.cell (by show _ < _; simp)]; exact c1
  have g0 : w1.frozen? ⟨w.heap.size + 1 + 1, 0, none⟩ = false := by rw [hB.frozen (by show _ < _; simp)]; exact f0
  refine ⟨k + 1, v', by omega, by simp, ?_, ?_, ?_, ?_, ?_, ?_⟩
  · have e : (l.take (k + 1)).map (fun n => Value.int .i64 (n.tdiv y0)) = (l.take k).map (fun n => Value.int .i64 (n.tdiv y0)) ++ [.int .i64 V] := by
      rw [List.getElem?_eq_getElem hkl, Option.getD_some] at hV
      rw [List.take_succ_eq_append_getElem hkl, List.map_append, hV]
      simp
    rw [e]
    exact ownsRow_setCell_below hown' (by show _ < _; simp) _
  · exact World.cell?_setCell_same' _ _ _ (by rw [d0]; rfl)
  · rw [World.cell?_setCell_other _ _ _ _ (by simp)]; exact d1
  · rw [← g0]; simp
  · have := hB.size; simp; omega
  · exact (hbl.trans (hB.mono (by omega))).setCell (by show _ ≤ _; simp) _

set_option maxHeartbeats 1600000 in
theorem rpoint_in (d : Int) (a : Option Addr) (len cap : Nat) (l : List Int) (w : World) (hi : Ints w a len l) (hreach : len * 8 ≤ 140737488351232) (hd0 : d ≠ 0)
    (hl : Num.withinB 4611686018427387904 l = true) (hd : Num.withinB 4611686018427387904 [d] = true) (m : List Int) (y z : Int) (hpt : Num.pt l d = (m, y, z)) :
    Calls Try.prog 16 #[.slice a len cap, .int .i64 d] w fun e w' => ∃ a' n' c', e = .returned (.tuple #[.agg #[.slice a' n' c', .int .i64 y], .int .i64 z]) ∧ Ints w' a' n' m ∧ n' ≤ len ∧ Below w.heap.size w w' ∧ (n' = 0 ∨ ∃ g, a' = some ⟨g, 0, none⟩ ∧ w.heap.size ≤ g) := by
  have hdb := Num.withinB_iff _ _ hd (by omega) 0
  simp only [List.length_singleton, Nat.lt_one_iff, getElem?_pos, List.getElem_cons_zero, Option.getD_some] at hdb
  have HLB : Hid _ := Num.withinB_iff _ _ hl (by omega)
  rw [Num.pt_in l d hd0 hl hd] at hpt
  have hg0 := Num.gl_pos d l hd0
  have hg1 := Num.gl_le d l hd0
  have hgn := Num.gl_natAbs d l
  have hq := Num.tdiv_byOf d l
  have HBY : Hid (Num.byOf d l = if d < 0 then -(Num.gl d l : Int) else (Num.gl d l : Int)) := rfl
  generalize Num.byOf d l = y0 at *
  generalize Num.gl d l = g at *
  have hwD : wrap64 ((d.natAbs : Int) / (g : Int)) = d.tdiv y0 := by
    rw [← hq]; have := Num.tdiv_abs d y0; exact IntWalk.wrap64_in _ (by omega)
  generalize hD : d.tdiv y0 = D at *
  have HPT : Hid _ := hpt
  have HGN : Hid _ := hgn
  have HQ : Hid _ := hq
  have HL : Hid (len = l.length) := hi.1
  have hd0' : (d == 0) = false := by simpa using hd0
  clear hpt hgn hq hD
  obtain ⟨i0, hif, hz0, hz1, hz2⟩ := info_parts Try.info64
  go_enter Try.func16, Try.ntmps16
  go_wp2_with fail
  refine (rwithin_any _ _ _ _ l _ (hi.below (B := w.heap.size) ((Below.refl _ _).alloc (Nat.le_refl _) _) (Nat.le_refl _)) (by omega) (by omega) (by omega)).mono ?_
  rintro e w' ⟨rfl, rfl⟩
  go_wp2_with fail
  refine (rwithin_any _ _ _ _ [d] _ (Ints.newAt (by simp) _ _) (by omega) (by omega) (by omega)).mono ?_
  rintro e w' ⟨rfl, rfl⟩
  go_wp2_with fail
  refine (size_any _ _ (by omega)).mono ?_
  rintro e w' ⟨rfl, rfl⟩
  go_wp2_with fail
  refine (size_any _ _ (by omega)).mono ?_
  rintro e w' ⟨rfl, rfl⟩
  go_wp2_with fail
  refine (all_any (d.natAbs : Int) _ _ _ l _ (hi.below (B := w.heap.size) (((Below.refl _ _).alloc (Nat.le_refl _) _).alloc (by simp) _) (Nat.le_refl _)) (by omega) (by omega) HLB.out).mono ?_
  rintro e w' ⟨rfl, rfl⟩
  rw [HGN.out]
  go_wp2_with fail
  generalize hW0 : (w.alloc (.cells #[.slice none 0 0, .int .i64 0] 29)).alloc (.cells #[.int .i64 d] 2) = W0
  have hW0s : W0.heap.size = w.heap.size + 2 := by rw [← hW0]; simp
  have hbw : Below w.heap.size w W0 := by rw [← hW0]; exact ((Below.refl _ _).alloc (Nat.le_refl _) _).alloc (by simp) _
  have r0 : W0.cell? ⟨w.heap.size, 0, none⟩ = some (.slice none 0 0) := by rw [← hW0, (((Below.refl (w.alloc (.cells #[.slice none 0 0, .int .i64 0] 29)).heap.size _).alloc (Nat.le_refl _) _)).cell (by simp)]; go_simp
  have r1 : W0.cell? ⟨w.heap.size, 1, none⟩ = some (.int .i64 0) := by rw [← hW0, (((Below.refl (w.alloc (.cells #[.slice none 0 0, .int .i64 0] 29)).heap.size _).alloc (Nat.le_refl _) _)).cell (by simp)]; go_simp
  have s0 : W0.frozen? ⟨w.heap.size, 0, none⟩ = false := by rw [← hW0, (((Below.refl (w.alloc (.cells #[.slice none 0 0, .int .i64 0] 29)).heap.size _).alloc (Nat.le_refl _) _)).frozen (by simp)]; go_simp
  have s1 : W0.frozen? ⟨w.heap.size, 1, none⟩ = false := by rw [← hW0, (((Below.refl (w.alloc (.cells #[.slice none 0 0, .int .i64 0] 29)).heap.size _).alloc (Nat.le_refl _) _)).frozen (by simp)]; go_simp
  have HWD : Hid _ := hwD
  clear hW0 hwD
  go_loopw [8] (fun i wr => PRel w W0 l len y0 D i wr) (fun i _ => len - (intOf i).toNat)
  case atStart =>
    have hwD := HWD.out
    refine ⟨0, .slice none 0 0, Nat.zero_le _, rfl, World.ownsRow_nil _ _ _ _, ?_, ?_, ?_, ?_, ?_⟩
    · rw [← show W0.heap.size = w.heap.size + 1 + 1 by omega]; go_simp
    · rw [← show W0.heap.size = w.heap.size + 1 + 1 by omega]; go_simp
    · rw [← show W0.heap.size = w.heap.size + 1 + 1 by omega]; go_simp
    · simp; omega
    · rw [← hW0s]; exact (Below.refl _ _).alloc (Nat.le_refl _) _
  case round =>
    obtain ⟨k, v, hk, rfl, hown, c0, c1, f0, hsz, hbl⟩ := hrel
    have hbl' : Below w.heap.size w wr := hbw.trans (hbl.mono (by omega))
    by_cases hlt : k < len
    · have hck : ∃ b off, a = some ⟨b, off, none⟩ ∧ wr.cell? ⟨b, off + k, none⟩ = some (.int .i64 (l[k]?.getD 0)) := by
        rcases hi.2 with h | ⟨b, off, ha, hbs, hc⟩
        · omega
        · refine ⟨b, off, ha, ?_⟩
          rw [hbl'.cell (p := ⟨b, off + k, none⟩) hbs]
          exact hc k hlt
      obtain ⟨b, off, ha, hck⟩ := hck
      have hx := HLB.out k
      generalize hxv : l[k]?.getD 0 = x at hck hx
      have HV : Hid _ := hxv
      clear hxv
      have HI : Hid _ := hi
      have HO : Hid _ := hown
      clear hi hown
      subst ha
      have HS : ∀ W : World, Calls Try.prog 43 #[.int .i64 d] W fun e w' => e = .returned (.int .i64 (d.natAbs : Int)) ∧ w' = W := fun W => size_any d W (by omega)
      have KS : Hid _ := HS
      have HA : ∀ W : World, Below w.heap.size w W → Calls Try.prog 44 #[.slice (some ⟨b, off, none⟩) len cap, .int .i64 (d.natAbs : Int)] W fun e w' => e = .returned (.int .i64 (g : Int)) ∧ w' = W := by
        intro W hW
        rw [← HGN.out]
        exact all_any (d.natAbs : Int) _ _ _ l _ (Ints.below HI.out hW (Nat.le_refl _)) (by omega) (by omega) HLB.out
      have KA : Hid _ := HA
      clear HS HA
      go_wp2_with fail
      go_quiet ((first | (go_at_call 43; exact Calls.quiet_of_same (KS.out _)) | (go_at_call 44; exact Calls.quiet_of_same (KA.out _ (bdrewN hbl' _)))))
      have q1 := Num.tdiv_abs x g
      have hkl : k < l.length := by have := HL.out; omega
      by_cases hneg : d < 0
      · have hwn : wrap64 (-x.tdiv ↑g) = -x.tdiv ↑g := IntWalk.wrap64_in _ (by omega)
        have hwn' : wrap64 (0 - x.tdiv ↑g) = -x.tdiv ↑g := by rw [Int.zero_sub]; exact hwn
        go_wp2_with (at_builtin; refine wpList_append_own _ rfl (.tmp 54) (.tmp 56) 22 rfl (w.heap.size + 3) 2 i0 (.int .i64 0) 1 8 Try.underlying22 hif hz0 hz1 hz2 rfl (by decide) _ _ _ rfl (by exact World.ownsRow.alloc HO.out _) ⟨wr.heap.size, 0, none⟩ 1 1 [.int .i64 (-x.tdiv ↑g)] rfl rfl ?cn1 ?cn2 ?cn3 ?cn4 ?cn5 ?_)
        case cn1 => first | exact news_one rfl _ _ | exact news_one' rfl _ _
        case cn2 => first | rfl | (intro u hu; simp at hu; subst hu; rfl)
        case cn3 => unfold maxLen; omega
        case cn4 => omega
        case cn5 => first | omega | (simp; omega)
        intro v' w1 hown' hgrow _
        rw [← List.map_take] at hown'
        obtain ⟨a', c', hv'⟩ := own_shape hown'
        subst hv'
        have hB : Below (w.heap.size + 3) wr w1 := Below.grown (by exact (bdrewN (Below.refl _ _) _).alloc hsz _) hgrow (by simp; omega) (fun j hj => (World.ownsRow.lt HO.out j hj).1)
        have R : Hid _ := prel_push (l := l) (y0 := y0) (V := -x.tdiv ↑g) hlt hkl (by rw [HV.out, HBY.out, if_pos hneg] <;> simp) hown' hB c0 c1 f0 hsz hbl
        have d0 : w1.cell? ⟨w.heap.size + 1 + 1, 0, none⟩ = some v := by rw [hB.cell (by show _ < _; simp)]; exact c0
        have g0 : w1.frozen? ⟨w.heap.size + 1 + 1, 0, none⟩ = false := by rw [hB.frozen (by show _ < _; simp)]; exact f0
        clear hown' hgrow c0 c1 f0
        go_wp2_with fail
        go_roundw
        case rel => first | exact R.out | ((repeat apply Exists.intro); exact ⟨R.out, rfl⟩)
        case measure => simp [intOf]; omega
      · go_wp2_with (at_builtin; refine wpList_append_own _ rfl (.tmp 54) (.tmp 56) 22 rfl (w.heap.size + 3) 2 i0 (.int .i64 0) 1 8 Try.underlying22 hif hz0 hz1 hz2 rfl (by decide) _ _ _ rfl (by exact World.ownsRow.alloc HO.out _) ⟨wr.heap.size, 0, none⟩ 1 1 [.int .i64 (x.tdiv ↑g)] rfl rfl ?cp1 ?cp2 ?cp3 ?cp4 ?cp5 ?_)
        case cp1 => first | exact news_one rfl _ _ | exact news_one' rfl _ _
        case cp2 => first | rfl | (intro u hu; simp at hu; subst hu; rfl)
        case cp3 => unfold maxLen; omega
        case cp4 => omega
        case cp5 => first | omega | (simp; omega)
        intro v' w1 hown' hgrow _
        rw [← List.map_take] at hown'
        obtain ⟨a', c', hv'⟩ := own_shape hown'
        subst hv'
        have hB : Below (w.heap.size + 3) wr w1 := Below.grown (by exact (bdrewN (Below.refl _ _) _).alloc hsz _) hgrow (by simp; omega) (fun j hj => (World.ownsRow.lt HO.out j hj).1)
        have R : Hid _ := prel_push (l := l) (y0 := y0) (V := x.tdiv ↑g) hlt hkl (by rw [HV.out, HBY.out, if_neg (by omega)]) hown' hB c0 c1 f0 hsz hbl
        have d0 : w1.cell? ⟨w.heap.size + 1 + 1, 0, none⟩ = some v := by rw [hB.cell (by show _ < _; simp)]; exact c0
        have g0 : w1.frozen? ⟨w.heap.size + 1 + 1, 0, none⟩ = false := by rw [hB.frozen (by show _ < _; simp)]; exact f0
        clear hown' hgrow c0 c1 f0
        go_wp2_with fail
        go_roundw
        case rel => first | exact R.out | ((repeat apply Exists.intro); exact ⟨R.out, rfl⟩)
        case measure => simp [intOf]; omega
    · have hke : k = len := by omega
      subst hke
      have hmap : (l.take k).map (fun n => Value.int .i64 (n.tdiv y0)) = (l.map fun n => n.tdiv y0).map (Value.int .i64) := by
        rw [HL.out, List.take_length, List.map_map]; rfl
      rw [hmap] at hown
      obtain ⟨a', c', hv, hints, hfar⟩ := Ints.ofOwnAny hown (by rw [List.length_map]; exact HL.out)
      have HI : Hid _ := hints
      have hp0 : wr.cell? ⟨w.heap.size, 0, none⟩ = some (.slice none 0 0) := by rw [hbl.cell (by show _ < _; simp)]; exact r0
      have hp1 : wr.cell? ⟨w.heap.size, 1, none⟩ = some (.int .i64 0) := by rw [hbl.cell (by show _ < _; simp)]; exact r1
      have hq0 : wr.frozen? ⟨w.heap.size, 0, none⟩ = false := by rw [hbl.frozen (by show _ < _; simp)]; exact s0
      have hq1 : wr.frozen? ⟨w.heap.size, 1, none⟩ = false := by rw [hbl.frozen (by show _ < _; simp)]; exact s1
      clear hints hown hmap hi
      subst hv
      go_wp2_with fail
      refine (mayPoint_any D _ _ _ (l.map fun n => n.tdiv y0) _ (by exact HI.out) (by omega)).mono ?_
      rintro e w2 ⟨rfl, hb2⟩
      have e0 : w2.cell? ⟨w.heap.size, 0, none⟩ = some (.slice none 0 0) := by rw [hb2.cell (p := ⟨w.heap.size, 0, none⟩) (by dsimp only; omega)]; exact hp0
      have e1 : w2.cell? ⟨w.heap.size, 1, none⟩ = some (.int .i64 0) := by rw [hb2.cell (p := ⟨w.heap.size, 1, none⟩) (by dsimp only; omega)]; exact hp1
      have e2 : w2.cell? ⟨w.heap.size + 1 + 1, 0, none⟩ = some (.slice a' k c') := by rw [hb2.cell (p := ⟨w.heap.size + 1 + 1, 0, none⟩) (by dsimp only; omega)]; exact c0
      have e3 : w2.cell? ⟨w.heap.size + 1 + 1, 1, none⟩ = some (.int .i64 D) := by rw [hb2.cell (p := ⟨w.heap.size + 1 + 1, 1, none⟩) (by dsimp only; omega)]; exact c1
      have g0 : w2.frozen? ⟨w.heap.size, 0, none⟩ = false := by rw [hb2.frozen (p := ⟨w.heap.size, 0, none⟩) (by dsimp only; omega)]; exact hq0
      have g1 : w2.frozen? ⟨w.heap.size, 1, none⟩ = false := by rw [hb2.frozen (p := ⟨w.heap.size, 1, none⟩) (by dsimp only; omega)]; exact hq1
      have hI2 : Hid _ := Ints.below HI.out hb2 (Nat.le_refl _)
      have hb3 : Below w.heap.size w w2 := hbl'.trans (hb2.mono (by omega))
      have HB2 : Hid _ := hb2
      clear hp0 hp1 hq0 hq1 c0 c1 r0 r1 s0 s1 f0 hb2
      cases hmp : Num.mayPB D (l.map fun n => n.tdiv y0) with
      | true =>
        have hpt := HPT.out
        rw [hmp] at hpt
        simp only [if_true, Prod.mk.injEq] at hpt
        obtain ⟨rfl, rfl, rfl⟩ := hpt
        clear hmp
        go_wp2_with fail
        refine bodyPost_ret (v := .tuple #[.agg #[.slice a' k c', .int .i64 D], .int .i64 0]) (by simp [results, Try.results16, go_sem, e0, e1]) rfl ⟨a', k, c', rfl, ?_, Nat.le_refl _, (hb3.setCell (Nat.le_refl _) _).setCell (Nat.le_refl _) _, by rcases hfar with h | ⟨g, h, h'⟩; exact Or.inl h; exact Or.inr ⟨g, h, by omega⟩⟩
        exact Ints.set (Ints.set hI2.out hfar (by dsimp only; omega) _) hfar (by dsimp only; omega) _
      | false =>
        have hpt := HPT.out
        rw [hmp] at hpt
        simp only [Bool.false_eq_true, if_false, Prod.mk.injEq] at hpt
        obtain ⟨rfl, rfl, rfl⟩ := hpt
        clear hmp
        go_wp2_with fail
        exact bodyPost_ret (v := .tuple #[.agg #[.slice none 0 0, .int .i64 0], .int .i64 1]) (by simp [results, Try.results16, go_sem, e0, e1]) rfl ⟨none, 0, 0, rfl, ⟨rfl, Or.inl rfl⟩, Nat.zero_le _, (hb3.setCell (Nat.le_refl _) _).setCell (Nat.le_refl _) _, Or.inl rfl⟩

/-- The document's Point: for all numbers; what it makes is new. -/
theorem rpoint_new (d : Int) (a : Option Addr) (len cap : Nat) (l : List Int) (w : World) (hi : Ints w a len l) (hreach : len * 8 ≤ 140737488351232) (m : List Int) (y z : Int) (hpt : Num.pt l d = (m, y, z)) :
    Calls Try.prog 16 #[.slice a len cap, .int .i64 d] w fun e w' => ∃ a' n' c', e = .returned (.tuple #[.agg #[.slice a' n' c', .int .i64 y], .int .i64 z]) ∧ Ints w' a' n' m ∧ n' ≤ len ∧ Below w.heap.size w w' ∧ (n' = 0 ∨ ∃ g, a' = some ⟨g, 0, none⟩ ∧ w.heap.size ≤ g) := by
  by_cases hbad : d = 0 ∨ Num.withinB 4611686018427387904 l = false ∨ Num.withinB 4611686018427387904 [d] = false
  · rw [Num.pt_bad l d hbad] at hpt
    simp only [Prod.mk.injEq] at hpt
    obtain ⟨rfl, rfl, rfl⟩ := hpt
    refine (rpoint_bad d a len cap l w hi (by omega) hbad).mono ?_
    rintro e w' ⟨rfl, h2⟩
    exact ⟨_, _, _, rfl, ⟨rfl, Or.inl rfl⟩, Nat.zero_le _, h2, Or.inl rfl⟩
  · simp only [not_or, Bool.not_eq_false] at hbad
    exact rpoint_in d a len cap l w hi hreach hbad.1 hbad.2.1 hbad.2.2 m y z hpt

/-- The document's Point: for all numbers. -/
theorem rpoint_any (d : Int) (a : Option Addr) (len cap : Nat) (l : List Int) (w : World) (hi : Ints w a len l) (hreach : len * 8 ≤ 140737488351232) (m : List Int) (y z : Int) (hpt : Num.pt l d = (m, y, z)) :
    Calls Try.prog 16 #[.slice a len cap, .int .i64 d] w fun e w' => ∃ a' n' c', e = .returned (.tuple #[.agg #[.slice a' n' c', .int .i64 y], .int .i64 z]) ∧ Ints w' a' n' m ∧ n' ≤ len ∧ Below w.heap.size w w' :=
  (rpoint_new d a len cap l w hi hreach m y z hpt).mono fun _ _ ⟨a', n', c', h1, h2, h3, h4, _⟩ => ⟨a', n', c', h1, h2, h3, h4⟩

end Go.Proofs.Ytjpliphobnflpaa
