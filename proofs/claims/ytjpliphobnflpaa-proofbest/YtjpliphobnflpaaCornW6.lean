/- What slices.Clone, corner.shares and corner.turned do. -/
import Derived.Test.YtjpliphobnflpaaCornW5
namespace Go.Proofs.Ytjpliphobnflpaa
open Go.RowKit

theorem Lines.shape {w : World} {a : Option Addr} {n : Nat} {ls : List (List Int)} (h : Lines w a n ls) (h1 : 1 ≤ n) : ∃ b off, a = some ⟨b, off, none⟩ ∧ b < w.heap.size ∧ ∃ vs : List Value, vs.length = n ∧ (∀ j, j < n → w.cell? ⟨b, off + j, none⟩ = vs[j]?) ∧
    ∀ j, j < n → ∃ ra rl rc, vs[j]? = some (.slice ra rl rc) ∧ Ints w ra rl (ls[j]?.getD []) ∧ rl ≤ rc := by
  rcases h.2 with h0 | ⟨b, off, ha, hs, hc⟩
  · omega
  · refine ⟨b, off, ha, hs, (List.range n).map (fun j => (w.cell? ⟨b, off + j, none⟩).getD undef), by simp, fun j hj => ?_, fun j hj => ?_⟩
    · obtain ⟨ra, rl, rc, c0, _⟩ := hc j hj
      rw [List.getElem?_map]
      simp [hj, c0]
    · obtain ⟨ra, rl, rc, c0, c1, c2⟩ := hc j hj
      refine ⟨ra, rl, rc, ?_, c1, c2⟩
      rw [List.getElem?_map]
      simp [hj, c0]

theorem addr_add (b off j : Nat) : (⟨b, off, none⟩ : Addr).add j = ⟨b, off + j, none⟩ := by unfold Addr.add; split <;> simp_all

/-- Cells of a slice that was there, as the law on append asks for them. -/
theorem news_at {w w' : World} {b off n : Nat} {vs : List Value} (hb : Below w.heap.size w w') (hlt : b < w.heap.size) (hv : vs.length = n) (hc : ∀ j, j < n → w.cell? ⟨b, off + j, none⟩ = vs[j]?) :
    ∀ (j : Nat) (u : Value), vs[j]? = some u → w'.cell? ((⟨b, off, none⟩ : Addr).add j) = some u := by
  intro j u hu
  have hj : j < n := by
    rcases Nat.lt_or_ge j vs.length with h | h
    · omega
    · rw [List.getElem?_eq_none h] at hu; cases hu
  rw [addr_add, hb.cell (p := ⟨b, off + j, none⟩) hlt, hc j hj, hu]

theorem one_cells {vs : List Value} {n : Nat} (hv : vs.length = n) (hs : ∀ j, j < n → ∃ ra rl rc, vs[j]? = some (.slice ra rl rc)) : ∀ u ∈ vs, u.oneCell' = true := by
  intro u hu
  obtain ⟨j, hj, rfl⟩ := List.getElem_of_mem hu
  obtain ⟨ra, rl, rc, h⟩ := hs j (by omega)
  rw [List.getElem?_eq_getElem hj] at h
  simp only [Option.some.injEq] at h
  rw [h]; rfl

theorem own_some {w : World} {base n : Nat} {t : TypeId} {v : Value} {xs : List Value} (h : w.ownsRow base t 1 v n xs) (h1 : 1 ≤ n) : ∃ g c, v = .slice (some ⟨g, 0, none⟩) n c ∧ base ≤ g ∧ n ≤ c := by
  rcases h.2 with ⟨_, h0⟩ | ⟨g, cap, cur, hv, hb, _, hc, _⟩
  · omega
  · exact ⟨g, cap, hv, hb, hc⟩

set_option maxHeartbeats 400000 in
theorem clone_any (b off n cap : Nat) (w : World) (vs : List Value) (hv : vs.length = n) (hc : ∀ j, j < n → w.cell? ⟨b, off + j, none⟩ = vs[j]?) (hs : ∀ j, j < n → ∃ ra rl rc, vs[j]? = some (.slice ra rl rc)) (h1 : 1 ≤ n) (h4 : n ≤ 4) (hb : b < w.heap.size) :
    Calls Try.prog 86 #[.slice (some ⟨b, off, none⟩) n cap] w fun e w' => ∃ g c, e = .returned (.slice (some ⟨g, 0, none⟩) n c) ∧ w.heap.size ≤ g ∧ n ≤ c ∧ w'.ownsRow w.heap.size 22 1 (.slice (some ⟨g, 0, none⟩) n c) n vs ∧ Below w.heap.size w w' := by
  have HC : Hid (∀ j, j < n → w.cell? ⟨b, off + j, none⟩ = vs[j]?) := hc
  have HS : Hid (∀ j, j < n → ∃ ra rl rc, vs[j]? = some (.slice ra rl rc)) := hs
  have HV : Hid (vs.length = n) := hv
  clear hc hs hv
  obtain ⟨i0, hif, hz0, hz1, hz2⟩ := info_parts Try.infoSl
  go_enter Try.func86, Try.ntmps86
  have qn : ∀ (w : World) (a : Option Addr) (n c n' c' : Nat), (binOp .eql 77 (.slice a n c) (.slice none n' c')).run Try.prog w = .ok (.bool a.isNone) w := fun w a n c n' c' => Lib.run_eql_slice_nil w _ _ a n c n' c' Try.underlying77
  go_wp2_with (at_builtin; refine wpList_append_own _ rfl (.tmp 5) (.tmp 6) 77 rfl w.heap.size 22 i0 (.slice none 0 0) 1 24 Try.underlying77 hif hz0 hz1 hz2 rfl (by decide) _ 0 [] rfl ?o1 ⟨b, off, none⟩ n cap vs rfl ?o2 ?o3 ?o4 ?o5 ?o6 ?o7 ?_)
  case o1 => exact World.ownsRow_made w #[] 0 (Nat.le_refl _) (Nat.zero_le _) rfl
  case o2 => rw [HV.out, Nat.mul_one]
  case o3 => exact news_at (balloc _ _) hb HV.out HC.out
  case o4 => exact one_cells HV.out HS.out
  case o5 => unfold maxLen; omega
  case o6 => omega
  case o7 => simp
  intro v' w1 hown hgrow _
  obtain ⟨g, c, hv, hg, hn⟩ := own_some hown h1
  subst hv
  have HO : Hid _ := hown
  have hB : Below w.heap.size w w1 := Below.grown (balloc _ _) hgrow (by simp) (fun j hj => by simp [Value.ownBlock] at hj; omega)
  clear hown hgrow
  go_wp2_with fail
  go_ret
  exact ⟨g, c, rfl, hg, hn, HO.out, hB⟩

namespace Num
theorem BdL.set {B : Int} {ls : List (List Int)} (h : BdL B ls) (k : Nat) (l : List Int) (hl : ∀ j : Nat, -B ≤ l[j]?.getD 0 ∧ l[j]?.getD 0 ≤ B) : BdL B (ls.set k l) := by
  intro i j
  unfold at2
  rw [List.getElem?_set]
  by_cases hk : k = i
  · by_cases hi : k < ls.length
    · simp only [hk, if_true]; rw [if_pos (by omega)]; exact hl j
    · rw [if_pos hk, if_neg hi]; have := hl 0; simp; omega
  · rw [if_neg hk]; exact h i j

theorem mem_set_le {ls : List (List Int)} {n : Nat} (h : ∀ l ∈ ls, l.length ≤ n) (k : Nat) (x : List Int) (hx : x.length ≤ n) : ∀ l ∈ ls.set k x, l.length ≤ n := by
  intro l hl
  rcases List.mem_or_eq_of_mem_set hl with h1 | rfl
  · exact h l h1
  · exact hx
end Num

/-- Lines, one of them put in the place of another in a row of the call's own. -/
theorem lines_set {w w' : World} {base g c n k : Nat} {vs : List Value} {ls : List (List Int)} {wa : Option Addr} {wl wc : Nat} {want : List Int} (hls : ls.length = n) (ho : w'.ownsRow base 22 1 (.slice (some ⟨g, 0, none⟩) n c) n vs) (hb : Below w.heap.size w w') (hg : w.heap.size ≤ g)
    (hin : ∀ j, j < n → ∃ ra rl rc, vs[j]? = some (.slice ra rl rc) ∧ Ints w ra rl (ls[j]?.getD []) ∧ rl ≤ rc) (hk : k < n) (hw : Ints w wa wl want) (hwc : wl ≤ wc) :
    Lines (w'.setCell ⟨g, k, none⟩ (.slice wa wl wc)) (some ⟨g, 0, none⟩) n (ls.set k want) := by
  have hst := World.ownsRow.stored ho k (.slice wa wl wc)
  have hlt := (World.ownsRow.lt hst.1 g rfl).2
  have hb' : Below w.heap.size w (w'.setCell ⟨g, k, none⟩ (.slice wa wl wc)) := bset hb hg _
  have hl : vs.length = n := by simpa using ho.1
  refine ⟨by simp [hls], Or.inr ⟨g, 0, rfl, hlt, fun j hj => ?_⟩⟩
  rw [Nat.zero_add, World.ownsRow.cellAt hst.1 j (by omega)]
  by_cases hjk : k = j
  · subst hjk
    refine ⟨wa, wl, wc, by rw [List.getElem?_set_self (by omega)], ?_, hwc⟩
    rw [List.getElem?_set_self (by omega)]
    exact hw.below hb' (Nat.le_refl _)
  · obtain ⟨ra, rl, rc, h1, h2, h3⟩ := hin j hj
    refine ⟨ra, rl, rc, by rw [List.getElem?_set_ne hjk]; exact h1, ?_, h3⟩
    rw [List.getElem?_set_ne hjk]
    exact h2.below hb' (Nat.le_refl _)

set_option maxHeartbeats 800000 in
theorem shares_any (a : Option Addr) (n cap : Nat) (ls : List (List Int)) (w : World) (hl : Lines w a n ls) (wa : Option Addr) (wl wc : Nat) (want : List Int) (hw : Ints w wa wl want) (hwl : wl ≤ wc) (h1 : 1 ≤ n) (h4 : n ≤ 4) (h4w : wl ≤ 4) (hlen : ∀ l ∈ ls, l.length ≤ 4) (hB : Num.BdL 400 ls) (hwB : ∀ j : Nat, -400 ≤ want[j]?.getD 0 ∧ want[j]?.getD 0 ≤ 400) :
    Calls Try.prog 54 #[.slice a n cap, .slice wa wl wc] w fun e w' => ∃ g, e = .returned (.slice (some ⟨g, 0, none⟩) n n) ∧ w.heap.size ≤ g ∧ Ints w' (some ⟨g, 0, none⟩) n ((List.range n).map fun k => Num.vol (ls.set k want) Num.none4) ∧ Below w.heap.size w w' := by
  have HLN : Hid (n = ls.length) := hl.1
  obtain ⟨b, off, ha, hbs, vs, hvl, hvc, hvs⟩ := hl.shape h1
  have KC : Hid (∀ w', Below w.heap.size w w' → Calls Try.prog 86 #[.slice (some ⟨b, off, none⟩) n cap] w' fun e w'' => ∃ g c, e = .returned (.slice (some ⟨g, 0, none⟩) n c) ∧ w'.heap.size ≤ g ∧ n ≤ c ∧ w''.ownsRow w'.heap.size 22 1 (.slice (some ⟨g, 0, none⟩) n c) n vs ∧ Below w'.heap.size w' w'') := by
    intro w' h
    exact clone_any b off n cap w' vs hvl (fun j hj => by rw [h.cell (p := ⟨b, off + j, none⟩) hbs]; exact hvc j hj) (fun j hj => by obtain ⟨ra, rl, rc, q, _⟩ := hvs j hj; exact ⟨ra, rl, rc, q⟩) h1 h4 (Nat.lt_of_lt_of_le hbs h.size)
  have KL : Hid (∀ (w' : World) (base g c k : Nat), w'.ownsRow base 22 1 (.slice (some ⟨g, 0, none⟩) n c) n vs → Below w.heap.size w w' → w.heap.size ≤ g → k < n → Lines (w'.setCell ⟨g, k, none⟩ (.slice wa wl wc)) (some ⟨g, 0, none⟩) n (ls.set k want)) :=
    fun w' base g c k ho hb hg hk => lines_set HLN.out.symm ho hb hg hvs hk hw hwl
  have KV : Hid (∀ (w' : World) (g c k : Nat), Lines w' (some ⟨g, 0, none⟩) n (ls.set k want) → n ≤ c → Calls Try.prog 53 #[.slice (some ⟨g, 0, none⟩) n c] w' fun e w'' => e = .returned (.int .i64 (Num.vol (ls.set k want) Num.none4)) ∧ Below w'.heap.size w' w'') :=
    fun w' g c k hl hc => volume_any _ _ _ _ w' hl hc h4 (Num.mem_set_le hlen k want (by have := hw.1; omega)) (hB.set k want hwB)
  clear hl hvs hw hlen hB hwB hvc hvl
  generalize hf : (fun k => Num.vol (ls.set k want) Num.none4) = f
  have HF : Hid (∀ k, Num.vol (ls.set k want) Num.none4 = f k) := fun k => by rw [← hf]
  clear hf
  subst ha
  obtain ⟨i0, hif, hz0, hz1, hz2⟩ := info_parts Try.info64
  go_enter Try.func54, Try.ntmps54
  go_wp2_with (at_make; refine wpList_make_full _ rfl (.tmp 9) (.tmp 9) 22 rfl w.heap.size 2 i0 (.int .i64 0) 1 Try.underlying22 hif hz0 hz1 .i64 .i64 _ _ n rfl rfl rfl rfl (by rw [hz2]; omega) (by unfold maxLen; omega) (Nat.le_refl _) ?_; intro w3 hown hgrow; have hb3 := made_below hgrow; have HO : Hid _ := hown; clear hown hgrow)
  have HO3 : Hid (Own w3 w.heap.size w.heap.size n (Num.fill f n 0)) := Own.made _ HO.out
  clear HO
  go_loopw [13] (fun i wr => ∃ k : Nat, k ≤ n ∧ i = .int .i64 k ∧ Own wr w.heap.size w.heap.size n (Num.fill f n k) ∧ Below w.heap.size w wr) (fun i _ => n - (intOf i).toNat)
  case atStart => exact ⟨0, Nat.zero_le _, rfl, HO3.out, hb3⟩
  case round =>
    obtain ⟨k, hk, rfl, hO, hB⟩ := hrel
    have HO : Hid (Own wr w.heap.size w.heap.size n (Num.fill f n k)) := hO
    clear HO3 hb3
    have hgw := hO.lt.2
    clear hO
    by_cases hlt : k < n
    · go_wp2_with fail
      refine (KC.out _ hB).mono ?_
      rintro e w5 ⟨g5, c5, rfl, hg5, hc5, ho5, hb5⟩
      have HL6 : Hid (Lines (w5.setCell ⟨g5, k, none⟩ (.slice wa wl wc)) (some ⟨g5, 0, none⟩) n (ls.set k want)) := KL.out _ _ _ _ _ ho5 (bstep hB hb5) (by omega) hlt
      obtain ⟨v, v0⟩ : ∃ v, w5.cell? ⟨g5, k, none⟩ = some v := by
        rw [World.ownsRow.cellAt ho5 k (by omega)]
        exact ⟨_, List.getElem?_eq_getElem (by have := ho5.1; omega)⟩
      have v1 := World.ownsRow.frozenAt ho5 k
      have HO5 : Hid (Own (w5.setCell ⟨g5, k, none⟩ (.slice wa wl wc)) w.heap.size w.heap.size n (Num.fill f n k)) := by
        have h := Own.below HO.out hb5 hgw
        exact Own.below h (bset (Below.refl (w.heap.size + 1) _) (by omega) _) (by omega)
      have hB5 : Below w.heap.size w (w5.setCell ⟨g5, k, none⟩ (.slice wa wl wc)) := bset (bstep hB hb5) (by omega) _
      clear ho5 hb5
      go_wp2_with fail
      refine (KV.out _ _ _ k HL6.out hc5).mono ?_
      rintro e w7 ⟨rfl, hb7⟩
      rw [HF.out k]
      have HO7 : Hid (Own w7 w.heap.size w.heap.size n (Num.fill f n k)) := Own.below HO5.out hb7 (by have := HO5.out.lt.2; omega)
      obtain ⟨⟨u, u0⟩, u1⟩ := Own.cell' HO7.out k hlt
      have hB7 := bstep hB5 hb7
      clear hb7 v0 v1 hB5
      go_wp2_with fail
      go_roundw
      case rel => exact ⟨k + 1, hlt, by go_num, by rw [← Num.fill_set _ _ _ (f k) hlt rfl]; exact Own.store HO7.out k (f k), bset hB7 (Nat.le_refl _) _⟩
      case measure => simp [intOf]; omega
    · have hke : k = n := by omega
      subst hke
      go_wp2_with fail
      go_ret
      exact ⟨w.heap.size, rfl, Nat.le_refl _, by rw [← Num.fill_all]; exact Own.ints HO.out, hB⟩

end Go.Proofs.Ytjpliphobnflpaa
