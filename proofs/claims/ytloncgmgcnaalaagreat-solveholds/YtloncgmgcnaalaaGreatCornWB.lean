/- What slices.Clone, corner.shares and corner.turned do. -/
import Derived.Test.YtloncgmgcnaalaaGreatCornWA
namespace Go.Proofs.YtloncgmgcnaalaaGreat
open Go.RowKit

theorem Lines.shape {w : World} {a : Option Addr} {n : Nat} {ls : List (List Int)} (h : Lines w a n ls) (h1 : 1 ≤ n) : ∃ b off, a = some ⟨b, off, none⟩ ∧ b < w.heap.size ∧ ∃ vs : List Value, vs.length = n ∧ (∀ j, j < n → w.cell? ⟨b, off + j, none⟩ = vs[j]?) ∧
    ∀ j, j < n → ∃ ra rl rc, vs[j]? = some (.slice ra rl rc) ∧ Ints w ra rl (ls[j]?.getD []) ∧ rl ≤ rc := by
  rcases h.2 with h0 | ⟨b, off, ha, hs, hc⟩
  · omega
  · refine ⟨b, off, ha, hs, (List.range n).map (fun j => (w.cell? ⟨b, off + j, none⟩).getD undef), by simp, fun j hj => ?_, fun j hj => ?_⟩
    · obtain ⟨ra, rl, rc, c0, _⟩ := hc j hj
      rw [List.getElem?_map]
      simp [hj, c0]
    · obtain ⟨ra, rl, rc, c0, c1, c2⟩ := hc j hj
      refine ⟨ra, rl, rc, ?_, c1, c2⟩
      rw [List.getElem?_map]
      simp [hj, c0]

theorem addr_add (b off j : Nat) : (⟨b, off, none⟩ : Addr).add j = ⟨b, off + j, none⟩ := by unfold Addr.add; split <;> simp_all

/-- Cells of a slice that was there, as the law on append asks for them. -/
theorem news_at {w w' : World} {b off n : Nat} {vs : List Value} (hb : Below w.heap.size w w') (hlt : b < w.heap.size) (hv : vs.length = n) (hc : ∀ j, j < n → w.cell? ⟨b, off + j, none⟩ = vs[j]?) :
    ∀ (j : Nat) (u : Value), vs[j]? = some u → w'.cell? ((⟨b, off, none⟩ : Addr).add j) = some u := by
  intro j u hu
  have hj : j < n := by
    rcases Nat.lt_or_ge j vs.length with h | h
    · omega
    · rw [List.getElem?_eq_none h] at hu; cases hu
  rw [addr_add, hb.cell (p := ⟨b, off + j, none⟩) hlt, hc j hj, hu]

theorem one_cells {vs : List Value} {n : Nat} (hv : vs.length = n) (hs : ∀ j, j < n → ∃ ra rl rc, vs[j]? = some (.slice ra rl rc)) : ∀ u ∈ vs, u.oneCell' = true := by
  intro u hu
  obtain ⟨j, hj, rfl⟩ := List.getElem_of_mem hu
  obtain ⟨ra, rl, rc, h⟩ := hs j (by omega)
  rw [List.getElem?_eq_getElem hj] at h
  simp only [Option.some.injEq] at h
  rw [h]; rfl

theorem own_some {w : World} {base n : Nat} {t : TypeId} {v : Value} {xs : List Value} (h : w.ownsRow base t 1 v n xs) (h1 : 1 ≤ n) : ∃ g c, v = .slice (some ⟨g, 0, none⟩) n c ∧ base ≤ g ∧ n ≤ c := by
  rcases h.2 with ⟨_, h0⟩ | ⟨g, cap, cur, hv, hb, _, hc, _⟩
  · omega
  · exact ⟨g, cap, hv, hb, hc⟩

set_option maxHeartbeats 400000 in
theorem clone_any (b off n cap : Nat) (w : World) (vs : List Value) (hv : vs.length = n) (hc : ∀ j, j < n → w.cell? ⟨b, off + j, none⟩ = vs[j]?) (hs : ∀ j, j < n → ∃ ra rl rc, vs[j]? = some (.slice ra rl rc)) (h1 : 1 ≤ n) (h4 : n ≤ 4) (hb : b < w.heap.size) :
    Calls Tryz.prog 72 #[.slice (some ⟨b, off, none⟩) n cap] w fun e w' => ∃ g c, e = .returned (.slice (some ⟨g, 0, none⟩) n c) ∧ w.heap.size ≤ g ∧ n ≤ c ∧ w'.ownsRow w.heap.size 22 1 (.slice (some ⟨g, 0, none⟩) n c) n vs ∧ Below w.heap.size w w' := by
  have HC : Hid (∀ j, j < n → w.cell? ⟨b, off + j, none⟩ = vs[j]?) := hc
  have HS : Hid (∀ j, j < n → ∃ ra rl rc, vs[j]? = some (.slice ra rl rc)) := hs
  have HV : Hid (vs.length = n) := hv
  clear hc hs hv
  obtain ⟨i0, hif, hz0, hz1, hz2⟩ := info_parts Tryz.infoSl
  go_enter Tryz.func72, Tryz.ntmps72
  have qn : ∀ (w : World) (a : Option Addr) (n c n' c' : Nat), (binOp .eql 74 (.slice a n c) (.slice none n' c')).run Tryz.prog w = .ok (.bool a.isNone) w := fun w a n c n' c' => Lib.run_eql_slice_nil w _ _ a n c n' c' Tryz.underlying74
  go_wp2_with (at_builtin; refine wpList_append_own _ rfl (.tmp 5) (.tmp 6) 74 rfl w.heap.size 22 i0 (.slice none 0 0) 1 24 Tryz.underlying74 hif hz0 hz1 hz2 rfl (by decide) _ 0 [] rfl ?o1 ⟨b, off, none⟩ n cap vs rfl ?o2 ?o3 ?o4 ?o5 ?o6 ?o7 ?_)
  case o1 => exact World.ownsRow_made w #[] 0 (Nat.le_refl _) (Nat.zero_le _) rfl
  case o2 => rw [HV.out, Nat.mul_one]
  case o3 => exact news_at (balloc _ _) hb HV.out HC.out
  case o4 => exact one_cells HV.out HS.out
  case o5 => unfold maxLen; omega
  case o6 => omega
  case o7 => simp
  intro v' w1 hown hgrow _
  obtain ⟨g, c, hv, hg, hn⟩ := own_some hown h1
  subst hv
  have HO : Hid _ := hown
  have hB : Below w.heap.size w w1 := Below.grown (balloc _ _) hgrow (by simp) (fun j hj => by simp [Value.ownBlock] at hj; omega)
  clear hown hgrow
  go_wp2_with fail
  go_ret
  exact ⟨g, c, rfl, hg, hn, HO.out, hB⟩

namespace Num
theorem BdL.set {B : Int} {ls : List (List Int)} (h : BdL B ls) (k : Nat) (l : List Int) (hl : ∀ j : Nat, -B ≤ l[j]?.getD 0 ∧ l[j]?.getD 0 ≤ B) : BdL B (ls.set k l) := by
  intro i j
  unfold at2
  rw [List.getElem?_set]
  by_cases hk : k = i
  · by_cases hi : k < ls.length
    · simp only [hk, if_true]; rw [if_pos (by omega)]; exact hl j
    · rw [if_pos hk, if_neg hi]; have := hl 0; simp; omega
  · rw [if_neg hk]; exact h i j

theorem mem_set_le {ls : List (List Int)} {n : Nat} (h : ∀ l ∈ ls, l.length ≤ n) (k : Nat) (x : List Int) (hx : x.length ≤ n) : ∀ l ∈ ls.set k x, l.length ≤ n := by
  intro l hl
  rcases List.mem_or_eq_of_mem_set hl with h1 | rfl
  · exact h l h1
  · exact hx
end Num

/-- Lines, one of them put in the place of another in a row of the call's own. -/
theorem lines_set {w w' : World} {base g c n k : Nat} {vs : List Value} {ls : List (List Int)} {wa : Option Addr} {wl wc : Nat} {want : List Int} (hls : ls.length = n) (ho : w'.ownsRow base 22 1 (.slice (some ⟨g, 0, none⟩) n c) n vs) (hb : Below w.heap.size w w') (hg : w.heap.size ≤ g)
    (hin : ∀ j, j < n → ∃ ra rl rc, vs[j]? = some (.slice ra rl rc) ∧ Ints w ra rl (ls[j]?.getD []) ∧ rl ≤ rc) (hk : k < n) (hw : Ints w wa wl want) (hwc : wl ≤ wc) :
    Lines (w'.setCell ⟨g, k, none⟩ (.slice wa wl wc)) (some ⟨g, 0, none⟩) n (ls.set k want) := by
  have hst := World.ownsRow.stored ho k (.slice wa wl wc)
  have hlt := (World.ownsRow.lt hst.1 g rfl).2
  have hb' : Below w.heap.size w (w'.setCell ⟨g, k, none⟩ (.slice wa wl wc)) := bset hb hg _
  have hl : vs.length = n := by simpa using ho.1
  refine ⟨by simp [hls], Or.inr ⟨g, 0, rfl, hlt, fun j hj => ?_⟩⟩
  rw [Nat.zero_add, World.ownsRow.cellAt hst.1 j (by omega)]
  by_cases hjk : k = j
  · subst hjk
    refine ⟨wa, wl, wc, by rw [List.getElem?_set_self (by omega)], ?_, hwc⟩
    rw [List.getElem?_set_self (by omega)]
    exact hw.below hb' (Nat.le_refl _)
  · obtain ⟨ra, rl, rc, h1, h2, h3⟩ := hin j hj
    refine ⟨ra, rl, rc, by rw [List.getElem?_set_ne hjk]; exact h1, ?_, h3⟩
    rw [List.getElem?_set_ne hjk]
    exact h2.below hb' (Nat.le_refl _)

set_option maxHeartbeats 800000 in
theorem shares_any (a : Option Addr) (n cap : Nat) (ls : List (List Int)) (w : World) (hl : Lines w a n ls) (wa : Option Addr) (wl wc : Nat) (want : List Int) (hw : Ints w wa wl want) (hwl : wl ≤ wc) (h1 : 1 ≤ n) (h4 : n ≤ 4) (h4w : wl ≤ 4) (hlen : ∀ l ∈ ls, l.length ≤ 4) (hB : Num.BdL 400 ls) (hwB : ∀ j : Nat, -400 ≤ want[j]?.getD 0 ∧ want[j]?.getD 0 ≤ 400) :
    Calls Tryz.prog 47 #[.slice a n cap, .slice wa wl wc] w fun e w' => ∃ g, e = .returned (.slice (some ⟨g, 0, none⟩) n n) ∧ w.heap.size ≤ g ∧ Ints w' (some ⟨g, 0, none⟩) n ((List.range n).map fun k => Num.vol (ls.set k want) Num.none4) ∧ Below w.heap.size w w' := by
  have HLN : Hid (n = ls.length) := hl.1
  obtain ⟨b, off, ha, hbs, vs, hvl, hvc, hvs⟩ := hl.shape h1
  have KC : Hid (∀ w', Below w.heap.size w w' → Calls Tryz.prog 72 #[.slice (some ⟨b, off, none⟩) n cap] w' fun e w'' => ∃ g c, e = .returned (.slice (some ⟨g, 0, none⟩) n c) ∧ w'.heap.size ≤ g ∧ n ≤ c ∧ w''.ownsRow w'.heap.size 22 1 (.slice (some ⟨g, 0, none⟩) n c) n vs ∧ Below w'.heap.size w' w'') := by
    intro w' h
    exact clone_any b off n cap w' vs hvl (fun j hj => by rw [h.cell (p := ⟨b, off + j, none⟩) hbs]; exact hvc j hj) (fun j hj => by obtain ⟨ra, rl, rc, q, _⟩ := hvs j hj; exact ⟨ra, rl, rc, q⟩) h1 h4 (Nat.lt_of_lt_of_le hbs h.size)
  have KL : Hid (∀ (w' : World) (base g c k : Nat), w'.ownsRow base 22 1 (.slice (some ⟨g, 0, none⟩) n c) n vs → Below w.heap.size w w' → w.heap.size ≤ g → k < n → Lines (w'.setCell ⟨g, k, none⟩ (.slice wa wl wc)) (some ⟨g, 0, none⟩) n (ls.set k want)) :=
    fun w' base g c k ho hb hg hk => lines_set HLN.out.symm ho hb hg hvs hk hw hwl
  have KV : Hid (∀ (w' : World) (g c k : Nat), Lines w' (some ⟨g, 0, none⟩) n (ls.set k want) → n ≤ c → Calls Tryz.prog 46 #[.slice (some ⟨g, 0, none⟩) n c] w' fun e w'' => e = .returned (.int .i64 (Num.vol (ls.set k want) Num.none4)) ∧ Below w'.heap.size w' w'') :=
    fun w' g c k hl hc => volume_any _ _ _ _ w' hl hc h4 (Num.mem_set_le hlen k want (by have := hw.1; omega)) (hB.set k want hwB)
  clear hl hvs hw hlen hB hwB hvc hvl
  generalize hf : (fun k => Num.vol (ls.set k want) Num.none4) = f
  have HF : Hid (∀ k, Num.vol (ls.set k want) Num.none4 = f k) := fun k => by rw [← hf]
  clear hf
  subst ha
  obtain ⟨i0, hif, hz0, hz1, hz2⟩ := info_parts Tryz.info64
  go_enter Tryz.func47, Tryz.ntmps47
  go_wp2_with (at_make; refine wpList_make_full _ rfl (.tmp 9) (.tmp 9) 22 rfl w.heap.size 2 i0 (.int .i64 0) 1 Tryz.underlying22 hif hz0 hz1 .i64 .i64 _ _ n rfl rfl rfl rfl (by rw [hz2]; omega) (by unfold maxLen; omega) (Nat.le_refl _) ?_; intro w3 hown hgrow; have hb3 := made_below hgrow; have HO : Hid _ := hown; clear hown hgrow)
  have HO3 : Hid (Own w3 w.heap.size w.heap.size n (Num.fill f n 0)) := Own.made _ HO.out
  clear HO
  go_loopw [13] (fun i wr => ∃ k : Nat, k ≤ n ∧ i = .int .i64 k ∧ Own wr w.heap.size w.heap.size n (Num.fill f n k) ∧ Below w.heap.size w wr) (fun i _ => n - (intOf i).toNat)
  case atStart => exact ⟨0, Nat.zero_le _, rfl, HO3.out, hb3⟩
  case round =>
    obtain ⟨k, hk, rfl, hO, hB⟩ := hrel
    have HO : Hid (Own wr w.heap.size w.heap.size n (Num.fill f n k)) := hO
    clear HO3 hb3
    have hgw := hO.lt.2
    clear hO
    by_cases hlt : k < n
    · go_wp2_with fail
      refine (KC.out _ hB).mono ?_
      rintro e w5 ⟨g5, c5, rfl, hg5, hc5, ho5, hb5⟩
      have HL6 : Hid (Lines (w5.setCell ⟨g5, k, none⟩ (.slice wa wl wc)) (some ⟨g5, 0, none⟩) n (ls.set k want)) := KL.out _ _ _ _ _ ho5 (bstep hB hb5) (by omega) hlt
      obtain ⟨v, v0⟩ : ∃ v, w5.cell? ⟨g5, k, none⟩ = some v := by
        rw [World.ownsRow.cellAt ho5 k (by omega)]
        exact ⟨_, List.getElem?_eq_getElem (by have := ho5.1; omega)⟩
      have v1 := World.ownsRow.frozenAt ho5 k
      have HO5 : Hid (Own (w5.setCell ⟨g5, k, none⟩ (.slice wa wl wc)) w.heap.size w.heap.size n (Num.fill f n k)) := by
        have h := Own.below HO.out hb5 hgw
        exact Own.below h (bset (Below.refl (w.heap.size + 1) _) (by omega) _) (by omega)
      have hB5 : Below w.heap.size w (w5.setCell ⟨g5, k, none⟩ (.slice wa wl wc)) := bset (bstep hB hb5) (by omega) _
      clear ho5 hb5
      go_wp2_with fail
      refine (KV.out _ _ _ k HL6.out hc5).mono ?_
      rintro e w7 ⟨rfl, hb7⟩
      rw [HF.out k]
      have HO7 : Hid (Own w7 w.heap.size w.heap.size n (Num.fill f n k)) := Own.below HO5.out hb7 (by have := HO5.out.lt.2; omega)
      obtain ⟨⟨u, u0⟩, u1⟩ := Own.cell' HO7.out k hlt
      have hB7 := bstep hB5 hb7
      clear hb7 v0 v1 hB5
      go_wp2_with fail
      go_roundw
      case rel => exact ⟨k + 1, hlt, by go_num, by rw [← Num.fill_set _ _ _ (f k) hlt rfl]; exact Own.store HO7.out k (f k), bset hB7 (Nat.le_refl _) _⟩
      case measure => simp [intOf]; omega
    · have hke : k = n := by omega
      subst hke
      go_wp2_with fail
      go_ret
      exact ⟨w.heap.size, rfl, Nat.le_refl _, by rw [← Num.fill_all]; exact Own.ints HO.out, hB⟩

end Go.Proofs.YtloncgmgcnaalaaGreat

/- What corner.turned does. -/
namespace Go.Proofs.YtloncgmgcnaalaaGreat
open Go.RowKit

theorem Ints.keep {w w' : World} {g n B : Nat} {l : List Int} (h : Ints w (some ⟨g, 0, none⟩) n l) (hb : Below B w w') (hg : g < B ∨ n = 0) : Ints w' (some ⟨g, 0, none⟩) n l := by
  obtain ⟨h1, h2⟩ := h
  refine ⟨h1, ?_⟩
  rcases h2 with h2 | ⟨b, off, ha, hs, hc⟩
  · exact Or.inl h2
  · rcases hg with hg | hg
    · simp only [Option.some.injEq, Addr.mk.injEq] at ha
      refine Or.inr ⟨b, off, by simp [ha], Nat.lt_of_lt_of_le hs hb.size, fun j hj => ?_⟩
      rw [hb.cell (p := ⟨b, off + j, none⟩) (by dsimp only; omega)]
      exact hc j hj
    · exact Or.inl hg

theorem Ints.lt {w : World} {g n : Nat} {l : List Int} (h : Ints w (some ⟨g, 0, none⟩) n l) : g < w.heap.size ∨ n = 0 := by
  rcases h.2 with h2 | ⟨b, off, ha, hs, _⟩
  · exact Or.inr h2
  · simp only [Option.some.injEq, Addr.mk.injEq] at ha
    exact Or.inl (by omega)

/-- A row that was laid at gi, behind all others, put into the place i, and filled there. -/
theorem OwnL.push {wr w5 w7 : World} {base g n i m : Nat} {f : Nat → List Int} (h : OwnL wr base g n i f) (hi : i < n) (h5 : Below wr.heap.size wr w5) (h7 : Below wr.heap.size (w5.setCell ⟨g, i, none⟩ (.slice (some ⟨wr.heap.size, 0, none⟩) m m)) w7)
    (hI : Ints w7 (some ⟨wr.heap.size, 0, none⟩) m (f i)) : OwnL w7 base g n (i + 1) f := by
  have hlt := h.lt.2
  obtain ⟨vs, h, hin⟩ := h
  have hl : vs.length = n := by simpa using h.1
  refine ⟨vs.set i (.slice (some ⟨wr.heap.size, 0, none⟩) m m), own_below (World.ownsRow.stored (own_below h h5 hlt) i _).1 h7 hlt, fun j hj => ?_⟩
  by_cases hjk : j = i
  · subst hjk
    exact ⟨_, m, by rw [List.getElem?_set_self (by omega)], hlt, hI⟩
  · obtain ⟨gj, m', h1, h2, h3⟩ := hin j (by omega)
    exact ⟨gj, m', by rw [List.getElem?_set_ne (by omega)]; exact h1, h2, ((h3.below h5 (Nat.le_refl _)).setOff h2 _).keep h7 h3.lt⟩

set_option maxHeartbeats 800000 in
theorem turned_any (a : Option Addr) (n cap : Nat) (ls : List (List Int)) (w : World) (hl : Lines w a n ls) (h1 : 1 ≤ n) (h4 : n ≤ 4) (hlen : ∀ l ∈ ls, l.length = n) :
    Calls Tryz.prog 48 #[.slice a n cap] w fun e w' => ∃ g, e = .returned (.slice (some ⟨g, 0, none⟩) n n) ∧ w.heap.size ≤ g ∧ Lines w' (some ⟨g, 0, none⟩) n (Num.turnL ls) ∧ Below w.heap.size w w' := by
  have HLN : Hid (n = ls.length) := hl.1
  have HL : Hid (Lines w a n ls) := hl
  have HT : Hid (Num.turnL ls = (List.range n).map fun i => (List.range n).map fun k => Num.at2 ls k i) := by have := HLN.out; rw [this]; exact rfl
  have HLL : Hid (∀ k, k < n → (ls[k]?.getD []).length = n) := fun k hk => by
    have := HLN.out
    rw [List.getElem?_eq_getElem (by omega)]
    exact hlen _ (List.getElem_mem _)
  obtain ⟨b, off, ha, hbs, _⟩ := hl.shape h1
  clear hl hlen
  generalize hf : (fun i => (List.range n).map fun k => Num.at2 ls k i) = f at HT
  have HF : Hid (∀ i, f i = (List.range n).map fun k => Num.at2 ls k i) := fun i => by rw [← hf]
  clear hf
  obtain ⟨i0, hif, hz0, hz1, hz2⟩ := info_parts Tryz.infoSl
  obtain ⟨j0, hjf, hy0, hy1, hy2⟩ := info_parts Tryz.info64
  subst ha
  go_enter Tryz.func48, Tryz.ntmps48
  go_wp2_with (at_make; refine wpList_make_full _ rfl (.tmp 8) (.tmp 8) 74 rfl w.heap.size 22 i0 (.slice none 0 0) 1 Tryz.underlying74 hif hz0 hz1 .i64 .i64 _ _ n rfl rfl rfl rfl (by rw [hz2]; omega) (by unfold maxLen; omega) (Nat.le_refl _) ?_; intro w3 hown hgrow; have hb3 := made_below hgrow; have HO : Hid _ := hown; clear hown hgrow)
  have HO3 : Hid (OwnL w3 w.heap.size w.heap.size n 0 f) := OwnL.made _ HO.out
  clear HO
  go_loopw [12] (fun i wr => ∃ k : Nat, k ≤ n ∧ i = .int .i64 k ∧ OwnL wr w.heap.size w.heap.size n k f ∧ Below w.heap.size w wr) (fun i _ => n - (intOf i).toNat)
  case atStart => exact ⟨0, Nat.zero_le _, rfl, HO3.out, hb3⟩
  case round =>
    obtain ⟨i, hi, rfl, hO, hB⟩ := hrel
    have HO : Hid (OwnL wr w.heap.size w.heap.size n i f) := hO
    clear HO3 hb3
    have hgw := hO.lt.2
    by_cases hlt : i < n
    · obtain ⟨⟨u, u0⟩, u1⟩ := hO.cell' i hlt
      clear hO
      go_wp2_with (at_make; refine wpList_make_full _ rfl (.tmp 18) (.tmp 18) 22 rfl wr.heap.size 2 j0 (.int .i64 0) 1 Tryz.underlying22 hjf hy0 hy1 .i64 .i64 _ _ n rfl rfl rfl rfl (by rw [hy2]; omega) (by unfold maxLen; omega) (Nat.le_refl _) ?_; intro w5 hown hgrow; have hb5 := made_below hgrow; have HO5 : Hid _ := hown; have x0 := carry hb5 u0; have x1 := carryF hb5 u0 u1; clear hown hgrow)
      have hs5 : wr.heap.size < w5.heap.size := (World.ownsRow.lt HO5.out wr.heap.size rfl).2
      have HO6 : Hid (Own (w5.setCell ⟨w.heap.size, i, none⟩ (.slice (some ⟨wr.heap.size, 0, none⟩) n n)) wr.heap.size wr.heap.size n (Num.fill (fun k => Num.at2 ls k i) n 0)) := by
        have h := Own.made (fun k => Num.at2 ls k i) HO5.out
        exact ownsRow_setCell_below h (by show w.heap.size < _; omega) _
      have hc6 : (w5.setCell ⟨w.heap.size, i, none⟩ (.slice (some ⟨wr.heap.size, 0, none⟩) n n)).cell? ⟨w.heap.size, i, none⟩ = some (.slice (some ⟨wr.heap.size, 0, none⟩) n n) := World.cell?_setCell_same' _ _ _ (by rw [x0]; rfl)
      have hB6 : Below w.heap.size w (w5.setCell ⟨w.heap.size, i, none⟩ (.slice (some ⟨wr.heap.size, 0, none⟩) n n)) := bset (bstep hB hb5) (Nat.le_refl _) _
      have HP : Hid (∀ w7, Below wr.heap.size (w5.setCell ⟨w.heap.size, i, none⟩ (.slice (some ⟨wr.heap.size, 0, none⟩) n n)) w7 → Ints w7 (some ⟨wr.heap.size, 0, none⟩) n (f i) → OwnL w7 w.heap.size w.heap.size n (i + 1) f) := fun w7 h hI => OwnL.push HO.out hlt hb5 h hI
      clear HO5 x0 x1 hb5 u0 u1
      go_wp2_with fail
      generalize w5.setCell ⟨w.heap.size, i, none⟩ (.slice (some ⟨wr.heap.size, 0, none⟩) n n) = w6 at *
      generalize wr.heap.size = gi at *
      go_loopw [23] (fun q wr => ∃ k : Nat, k ≤ n ∧ q = .int .i64 k ∧ Own wr gi gi n (Num.fill (fun k => Num.at2 ls k i) n k) ∧ Below gi w6 wr) (fun q _ => n - (intOf q).toNat)
      case atStart => exact ⟨0, Nat.zero_le _, rfl, HO6.out, Below.refl _ _⟩
      case round =>
        obtain ⟨k, hk, rfl, hOs, hbl⟩ := hrel
        have HOs : Hid (Own wr gi gi n (Num.fill (fun k => Num.at2 ls k i) n k)) := hOs
        have hBs : Below w.heap.size w wr := hB6.trans (hbl.mono (by omega))
        clear HO6
        by_cases hkt : k < n
        · rcases (Lines.below HL.out hBs (Nat.le_refl _)).2 with h | ⟨b1, off1, ha1, hbs1, hc1⟩
          · omega
          simp only [Option.some.injEq, Addr.mk.injEq] at ha1
          obtain ⟨rfl, rfl, _⟩ := ha1
          obtain ⟨ra, rl, rc, c0, hi2, hrc⟩ := hc1 k hkt
          clear hc1
          have hrl : rl = n := by have := hi2.1; have := HLL.out k hkt; omega
          subst hrl
          rcases hi2.2 with h | ⟨b2, o2, ha2, hb2, hc2⟩
          · omega
          have c1 := hc2 i hlt
          clear hc2 hi2
          have c2 : wr.cell? ⟨w.heap.size, i, none⟩ = some (.slice (some ⟨gi, 0, none⟩) rl rl) := by rw [hbl.cell (by show w.heap.size < _; omega)]; exact hc6
          obtain ⟨⟨v, v0⟩, v1⟩ := hOs.cell' k hkt
          clear hOs
          have HE : Hid ((ls[k]?.getD [])[i]?.getD 0 = Num.at2 ls k i) := rfl
          generalize (ls[k]?.getD [])[i]?.getD 0 = x at c1 HE
          subst ha2
          go_wp2_with fail
          go_region
          go_wp2_with fail
          go_roundw
          case rel => exact ⟨k + 1, hkt, by go_num, by rw [← Num.fill_set _ _ _ x hkt HE.out]; exact Own.store HOs.out k x, (bset hbl (Nat.le_refl _) _).drew⟩
          case measure => simp [intOf]; omega
        · have hke : k = n := by omega
          subst hke
          clear hOs
          have HI7 : Hid (Ints wr (some ⟨gi, 0, none⟩) k (f i)) := by rw [HF.out, ← Num.fill_all]; exact Own.ints HOs.out
          have HO7 : Hid (OwnL wr w.heap.size w.heap.size k (i + 1) f) := HP.out wr hbl HI7.out
          go_wp2_with fail
          go_roundw
          case rel => exact ⟨i + 1, hlt, by go_num, HO7.out, hBs⟩
          case measure => simp [intOf]; omega
    · have hke : i = n := by omega
      subst hke
      clear hO
      go_wp2_with fail
      go_ret
      exact ⟨w.heap.size, rfl, Nat.le_refl _, by rw [HT.out]; exact OwnL.lines HO.out, hB⟩

end Go.Proofs.YtloncgmgcnaalaaGreat

/- What corner.areChosen and the document's Right do. -/
namespace Go.Proofs.YtloncgmgcnaalaaGreat
open Go.RowKit

namespace Num
def leastN (at' : List Int) : Nat → Int
  | 0 => 0
  | k + 1 => at'[k]?.getD 0 + 1
def okN (at' : List Int) (N : Nat) : Nat → Bool
  | 0 => true
  | k + 1 => okN at' N k && (decide (leastN at' k ≤ at'[k]?.getD 0) && decide (at'[k]?.getD 0 < N))
/-- As many numbers of columns as there are rows, rising. -/
def rightB (at' : List Int) (m N : Nat) : Bool := (at'.length == m) && okN at' N m

theorem okN_succ (at' : List Int) (N k : Nat) : okN at' N (k + 1) = (okN at' N k && (decide (leastN at' k ≤ at'[k]?.getD 0) && decide (at'[k]?.getD 0 < N))) := rfl

theorem okN_bad (at' : List Int) (N k m : Nat) (hk : k < m) (h : at'[k]?.getD 0 < leastN at' k ∨ (N : Int) ≤ at'[k]?.getD 0) : okN at' N m = false := by
  induction m with
  | zero => omega
  | succ m ih =>
    rw [okN_succ]
    by_cases hm : k = m
    · subst hm
      rcases h with h | h
      · have : ¬ leastN at' k ≤ at'[k]?.getD 0 := by omega
        simp [this]
      · have : ¬ at'[k]?.getD 0 < N := by omega
        simp [this]
    · rw [ih (by omega)]; rfl

theorem okN_all (at' : List Int) (N m : Nat) (h : okN at' N m = true) : ∀ k, k < m → leastN at' k ≤ at'[k]?.getD 0 ∧ at'[k]?.getD 0 < N := by
  induction m with
  | zero => intro k hk; omega
  | succ m ih =>
    rw [okN_succ] at h
    simp only [Bool.and_eq_true, decide_eq_true_eq] at h
    intro k hk
    by_cases hm : k = m
    · subst hm; exact h.2
    · exact ih h.1 k (by omega)

theorem leastN_nonneg (at' : List Int) (N m : Nat) (h : okN at' N m = true) : ∀ k, k ≤ m → 0 ≤ leastN at' k := by
  intro k hk
  induction k with
  | zero => exact Int.le_refl _
  | succ k ih =>
    have := okN_all at' N m h k (by omega)
    have := ih (by omega)
    show 0 ≤ at'[k]?.getD 0 + 1
    omega

theorem right_all (at' : List Int) (m N : Nat) (h : rightB at' m N = true) : at'.length = m ∧ ∀ k, k < m → 0 ≤ at'[k]?.getD 0 ∧ at'[k]?.getD 0 < N := by
  unfold rightB at h
  simp only [Bool.and_eq_true, beq_iff_eq] at h
  refine ⟨h.1, fun k hk => ?_⟩
  have := okN_all at' N m h.2 k hk
  have := leastN_nonneg at' N m h.2 k (by omega)
  omega
end Num

set_option maxHeartbeats 800000 in
theorem chosen_any (ca : Option Addr) (cl cc : Nat) (ra : Option Addr) (rl rc : Nat) (w : World) (aa : Option Addr) (al ac : Nat) (at' : List Int) (ha : Ints w aa al at') (hal : al ≤ 9223372036854775807) (N : Nat) (hN : cl + rl = N) (h8 : N ≤ 8) :
    Calls Tryz.prog 44 #[.agg #[.slice ca cl cc, .slice ra rl rc], .slice aa al ac] w fun e w' => e = .returned (.bool (Num.rightB at' rl N)) ∧ Below w.heap.size w w' := by
  have HA : Hid (Ints w aa al at') := ha
  have HL : Hid (al = at'.length) := ha.1
  have HN : Hid (cl + rl = N) := hN
  have hr8 : rl ≤ 8 := by omega
  clear ha hN
  by_cases h1 : al = rl
  · subst h1
    have HF : Hid (Num.rightB at' al N = Num.okN at' N al) := by have := HL.out; show (_ && _) = _; rw [← this]; simp
    go_enter Tryz.func44, Tryz.ntmps44
    go_wp2_with fail
    go_loopw [5, 16] (fun s i wr => ∃ k : Nat, k ≤ al ∧ i = .int .i64 k ∧ s = .int .i64 (Num.leastN at' k) ∧ Num.okN at' N k = true ∧ Below (w.alloc (.cells #[.slice ca cl cc, .slice ra al rc] 25)).heap.size (w.alloc (.cells #[.slice ca cl cc, .slice ra al rc] 25)) wr) (fun _ i _ => al - (intOf i).toNat)
    case atStart => exact ⟨0, Nat.zero_le _, rfl, rfl, rfl, Below.refl _ _⟩
    case round =>
      obtain ⟨k, hk, rfl, rfl, hok, hbl⟩ := hrel
      have HOK : Hid _ := hok
      clear hok
      have hB : Below w.heap.size w wr := binto hbl
      by_cases hlt : k < al
      · rcases (Ints.below HA.out hB (Nat.le_refl _)).2 with h | ⟨b, off, ha, hbs, hc⟩
        · omega
        have hck := hc k hlt
        clear hc
        obtain ⟨⟨e0, e1⟩, _⟩ := kept2 hbl
        have HB : Hid (at'[k]?.getD 0 < Num.leastN at' k ∨ (N : Int) ≤ at'[k]?.getD 0 → Num.rightB at' al N = false) := fun h => by rw [HF.out]; exact Num.okN_bad at' N k al hlt h
        have HS : Hid (Num.okN at' N (k + 1) = (Num.okN at' N k && (decide (Num.leastN at' k ≤ at'[k]?.getD 0) && decide (at'[k]?.getD 0 < N)))) := Num.okN_succ at' N k
        have HLE : Hid (Num.leastN at' (k + 1) = at'[k]?.getD 0 + 1) := rfl
        have hl0 := Num.leastN_nonneg at' N k HOK.out k (Nat.le_refl _)
        generalize at'[k]?.getD 0 = x at hck HB HS HLE
        generalize Num.leastN at' k = y at *
        subst ha
        by_cases hx : x < y
        · go_wp2_with fail
          go_ret
          exact ⟨ret_bool (HB.out (Or.inl hx)).symm, hB⟩
        · have hx' : decide (x < y) = false := by simpa using hx
          by_cases hx2 : (N : Int) ≤ x
          · go_wp2_with fail
            refine (width_any _ _ _ _ _ _ _ N HN.out h8).mono ?_
            rintro e w5 ⟨rfl, hb5⟩
            go_wp2_with fail
            go_ret
            exact ⟨ret_bool (HB.out (Or.inr hx2)).symm, bstep hB hb5⟩
          · have hx2' : decide ((N : Int) ≤ x) = false := by simpa using hx2
            go_wp2_with fail
            refine (width_any _ _ _ _ _ _ _ N HN.out h8).mono ?_
            rintro e w5 ⟨rfl, hb5⟩
            go_wp2_with fail
            go_roundw
            case rel => exact ⟨k + 1, hlt, by go_num, by rw [HLE.out], by rw [HS.out, HOK.out]; simp; omega, bstep hbl hb5⟩
            case measure => simp [intOf]; omega
      · have hke : k = al := by omega
        subst hke
        go_wp2_with fail
        go_ret
        exact ⟨ret_bool (by rw [HF.out, HOK.out]), hB⟩
  · have h1' : ((al : Int) == (rl : Int)) = false := beq_eq_false_iff_ne.2 (by omega)
    have h1'' : ((al : Int) != (rl : Int)) = true := by simp; omega
    have HF : Hid (Num.rightB at' rl N = false) := by have := HL.out; show (_ && _) = _; rw [show (at'.length == rl) = false from beq_eq_false_iff_ne.2 (by omega)]; rfl
    go_enter Tryz.func44, Tryz.ntmps44
    go_wp2_with fail
    go_ret
    exact ⟨ret_bool HF.out.symm, balloc _ _⟩

end Go.Proofs.YtloncgmgcnaalaaGreat

/- The corner of a program that columns make, in plain numbers. -/
namespace Go.Proofs.YtloncgmgcnaalaaGreat
namespace Num

def chosenL (p : Lp) (at' : List Int) (m : Nat) : List (List Int) := (List.range m).map fun k => (List.range m).map (hasF p (atF at' k))
def worthsL (p : Lp) (at' : List Int) (m : Nat) : List Int := (List.range m).map fun k => p.costs[atF at' k]?.getD 0
def mostsL (p : Lp) (m : Nat) : List Int := (List.range m).map (mostF p)
def sharesL (ls : List (List Int)) (want : List Int) (m : Nat) : List Int := (List.range m).map fun k => vol (ls.set k want) none4
def denL (p : Lp) (at' : List Int) (m : Nat) : Int := vol (chosenL p at' m) none4
def priceL (p : Lp) (at' : List Int) (m : Nat) : List Int := sharesL (turnL (chosenL p at' m)) (worthsL p at' m) m
def xL (p : Lp) (at' : List Int) (m N : Nat) : List Int := spreadN N at' (sharesL (chosenL p at' m) (mostsL p m) m) m
def gainL (p : Lp) (at' : List Int) (m N : Nat) : List Int := (List.range N).map (gainF p (priceL p at' m) (denL p at' m))

theorem at2_range (f : Nat → List Int) (n i j : Nat) : at2 ((List.range n).map f) i j = if i < n then (f i)[j]?.getD 0 else 0 := by
  unfold at2
  by_cases h : i < n
  · rw [getD_range f n i [] h, if_pos h]
  · rw [List.getElem?_eq_none (l := (List.range n).map f) (by simp; omega), if_neg h]; simp

theorem chosen_bd (p : Lp) (hm : p.may = true) (at' : List Int) (m : Nat) : BdL 400 (chosenL p at' m) := by
  intro i j
  unfold chosenL
  rw [at2_range]
  split
  · rw [range_getD]
    split
    · have := hasF_bd p hm (atF at' i) j; omega
    · omega
  · omega

theorem chosen_len (p : Lp) (at' : List Int) (m : Nat) : (chosenL p at' m).length = m ∧ ∀ l ∈ chosenL p at' m, l.length = m := by
  unfold chosenL
  refine ⟨by simp, fun l hl => ?_⟩
  obtain ⟨k, _, rfl⟩ := List.mem_map.1 hl
  simp

theorem turn_len (ls : List (List Int)) (m : Nat) (h : ls.length = m) : (turnL ls).length = m ∧ ∀ l ∈ turnL ls, l.length = m := by
  unfold turnL
  refine ⟨by simp [h], fun l hl => ?_⟩
  obtain ⟨k, _, rfl⟩ := List.mem_map.1 hl
  simp [h]

theorem turn_bd (ls : List (List Int)) (B : Int) (h : BdL B ls) : BdL B (turnL ls) := by
  intro i j
  have h0 := h 0 0
  unfold turnL
  rw [at2_range]
  split
  · rw [range_getD]
    split
    · exact h j i
    · omega
  · omega

theorem worths_bd (p : Lp) (hm : p.may = true) (at' : List Int) (m : Nat) : ∀ j : Nat, -400 ≤ (worthsL p at' m)[j]?.getD 0 ∧ (worthsL p at' m)[j]?.getD 0 ≤ 400 := by
  intro j
  unfold worthsL
  rw [range_getD]
  split
  · exact withinB_iff _ _ (p.may_of hm).2.1 (by omega) _
  · omega

theorem mosts_bd (p : Lp) (hm : p.may = true) (m : Nat) : ∀ j : Nat, -400 ≤ (mostsL p m)[j]?.getD 0 ∧ (mostsL p m)[j]?.getD 0 ≤ 400 := by
  intro j
  unfold mostsL
  rw [range_getD]
  split
  · unfold mostF
    by_cases hj : j < p.rows.length
    · have := (p.row_of hm j hj).2.2; omega
    · rw [List.getElem?_eq_none (l := p.rows) (by omega)]; simp
  · omega

theorem shares_bd (ls : List (List Int)) (want : List Int) (m : Nat) (h : BdL 400 ls) (hl : ls.length ≤ 4) (h4 : ∀ l ∈ ls, l.length ≤ 4) (hw : ∀ j : Nat, -400 ≤ want[j]?.getD 0 ∧ want[j]?.getD 0 ≤ 400) (hw4 : want.length ≤ 4) :
    ∀ j : Nat, -6553600000000 ≤ (sharesL ls want m)[j]?.getD 0 ∧ (sharesL ls want m)[j]?.getD 0 ≤ 6553600000000 := by
  intro j
  unfold sharesL
  rw [range_getD]
  split
  · exact vol_bd' _ _ (h.set j want hw) (mem_set_le h4 j want hw4) (by simpa using hl)
  · omega

theorem den_bd (p : Lp) (hm : p.may = true) (at' : List Int) (m : Nat) (h4 : m ≤ 4) : -6553600000000 ≤ denL p at' m ∧ denL p at' m ≤ 6553600000000 :=
  vol_bd' _ _ (chosen_bd p hm at' m) (fun l hl => by have := (chosen_len p at' m).2 l hl; omega) (by have := (chosen_len p at' m).1; omega)

theorem price_bd (p : Lp) (hm : p.may = true) (at' : List Int) (m : Nat) (h4 : m ≤ 4) : ∀ j : Nat, -6553600000000 ≤ (priceL p at' m)[j]?.getD 0 ∧ (priceL p at' m)[j]?.getD 0 ≤ 6553600000000 := by
  have h := turn_len (chosenL p at' m) m (chosen_len p at' m).1
  exact shares_bd _ _ m (turn_bd _ _ (chosen_bd p hm at' m)) (by omega) (fun l hl => by have := h.2 l hl; omega) (worths_bd p hm at' m) (by unfold worthsL; simpa using h4)

/-- What Look answers: what is wrong, and the three points. -/
structure Look where
  err : Int
  x : List Int
  xd : Int
  y : List Int
  yd : Int
  g : List Int
  gd : Int

def noLook (e : Int) : Look := ⟨e, [], 0, [], 0, [], 0⟩

def look (p : Lp) (at' : List Int) : Look :=
  if p.may = false then noLook 2
  else if rightB at' p.rows.length (p.costs.length + p.rows.length) = false then noLook 3
  else if denL p at' p.rows.length = 0 then noLook 4
  else
    let m := p.rows.length
    let N := p.costs.length + m
    ⟨0, (pt (xL p at' m N) (denL p at' m)).1, (pt (xL p at' m N) (denL p at' m)).2.1, (pt (priceL p at' m) (denL p at' m)).1, (pt (priceL p at' m) (denL p at' m)).2.1,
      (pt (gainL p at' m N) (denL p at' m)).1, (pt (gainL p at' m N) (denL p at' m)).2.1⟩

end Num
end Go.Proofs.YtloncgmgcnaalaaGreat
