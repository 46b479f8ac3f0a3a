/- What corner.turned does. -/
import Derived.Test.YtjpliphobnflpaaCornW6
namespace Go.Proofs.Ytjpliphobnflpaa
open Go.RowKit

theorem Ints.keep {w w' : World} {g n B : Nat} {l : List Int} (h : Ints w (some ⟨g, 0, none⟩) n l) (hb : Below B w w') (hg : g < B ∨ n = 0) : Ints w' (some ⟨g, 0, none⟩) n l := by
  obtain ⟨h1, h2⟩ := h
  refine ⟨h1, ?_⟩
  rcases h2 with h2 | ⟨b, off, ha, hs, hc⟩
  · exact Or.inl h2
  · rcases hg with hg | hg
    · simp only [Option.some.injEq, Addr.mk.injEq] at ha
      refine Or.inr ⟨b, off, by simp [ha], Nat.lt_of_lt_of_le hs hb.size, fun j hj => ?_⟩
      rw [hb.cell (p := ⟨b, off + j, none⟩) (by dsimp only; omega)]
      exact hc j hj
    · exact Or.inl hg

theorem Ints.lt {w : World} {g n : Nat} {l : List Int} (h : Ints w (some ⟨g, 0, none⟩) n l) : g < w.heap.size ∨ n = 0 := by
  rcases h.2 with h2 | ⟨b, off, ha, hs, _⟩
  · exact Or.inr h2
  · simp only [Option.some.injEq, Addr.mk.injEq] at ha
    exact Or.inl (by omega)

/-- A row that was laid at gi, behind all others, put into the place i, and filled there. -/
theorem OwnL.push {wr w5 w7 : World} {base g n i m : Nat} {f : Nat → List Int} (h : OwnL wr base g n i f) (hi : i < n) (h5 : Below wr.heap.size wr w5) (h7 : Below wr.heap.size (w5.setCell ⟨g, i, none⟩ (.slice (some ⟨wr.heap.size, 0, none⟩) m m)) w7)
    (hI : Ints w7 (some ⟨wr.heap.size, 0, none⟩) m (f i)) : OwnL w7 base g n (i + 1) f := by
  have hlt := h.lt.2
  obtain ⟨vs, h, hin⟩ := h
  have hl : vs.length = n := by simpa using h.1
  refine ⟨vs.set i (.slice (some ⟨wr.heap.size, 0, none⟩) m m), own_below (World.ownsRow.stored (own_below h h5 hlt) i _).1 h7 hlt, fun j hj => ?_⟩
  by_cases hjk : j = i
  · subst hjk
    exact ⟨_, m, by rw [List.getElem?_set_self (by omega)], hlt, hI⟩
  · obtain ⟨gj, m', h1, h2, h3⟩ := hin j (by omega)
    exact ⟨gj, m', by rw [List.getElem?_set_ne (by omega)]; exact h1, h2, ((h3.below h5 (Nat.le_refl _)).setOff h2 _).keep h7 h3.lt⟩

set_option maxHeartbeats 800000 in
theorem turned_any (a : Option Addr) (n cap : Nat) (ls : List (List Int)) (w : World) (hl : Lines w a n ls) (h1 : 1 ≤ n) (h4 : n ≤ 4) (hlen : ∀ l ∈ ls, l.length = n) :
    Calls Try.prog 55 #[.slice a n cap] w fun e w' => ∃ g, e = .returned (.slice (some ⟨g, 0, none⟩) n n) ∧ w.heap.size ≤ g ∧ Lines w' (some ⟨g, 0, none⟩) n (Num.turnL ls) ∧ Below w.heap.size w w' := by
  have HLN : Hid (n = ls.length) := hl.1
  have HL : Hid (Lines w a n ls) := hl
  have HT : Hid (Num.turnL ls = (List.range n).map fun i => (List.range n).map fun k => Num.at2 ls k i) := by have := HLN.out; rw [this]; exact rfl
  have HLL : Hid (∀ k, k < n → (ls[k]?.getD []).length = n) := fun k hk => by
    have := HLN.out
    rw [List.getElem?_eq_getElem (by omega)]
    exact hlen _ (List.getElem_mem _)
  obtain ⟨b, off, ha, hbs, _⟩ := hl.shape h1
  clear hl hlen
  generalize hf : (fun i => (List.range n).map fun k => Num.at2 ls k i) = f at HT
  have HF : Hid (∀ i, f i = (List.range n).map fun k => Num.at2 ls k i) := fun i => by rw [← hf]
  clear hf
  obtain ⟨i0, hif, hz0, hz1, hz2⟩ := info_parts Try.infoSl
  obtain ⟨j0, hjf, hy0, hy1, hy2⟩ := info_parts Try.info64
  subst ha
  go_enter Try.func55, Try.ntmps55
  go_wp2_with (at_make; refine wpList_make_full _ rfl (.tmp 8) (.tmp 8) 77 rfl w.heap.size 22 i0 (.slice none 0 0) 1 Try.underlying77 hif hz0 hz1 .i64 .i64 _ _ n rfl rfl rfl rfl (by rw [hz2]; omega) (by unfold maxLen; omega) (Nat.le_refl _) ?_; intro w3 hown hgrow; have hb3 := made_below hgrow; have HO : Hid _ := hown; clear hown hgrow)
  have HO3 : Hid (OwnL w3 w.heap.size w.heap.size n 0 f) := OwnL.made _ HO.out
  clear HO
  go_loopw [12] (fun i wr => ∃ k : Nat, k ≤ n ∧ i = .int .i64 k ∧ OwnL wr w.heap.size w.heap.size n k f ∧ Below w.heap.size w wr) (fun i _ => n - (intOf i).toNat)
  case atStart => exact ⟨0, Nat.zero_le _, rfl, HO3.out, hb3⟩
  case round =>
    obtain ⟨i, hi, rfl, hO, hB⟩ := hrel
    have HO : Hid (OwnL wr w.heap.size w.heap.size n i f) := hO
    clear HO3 hb3
    have hgw := hO.lt.2
    by_cases hlt : i < n
    · obtain ⟨⟨u, u0⟩, u1⟩ := hO.cell' i hlt
      clear hO
      go_wp2_with (at_make; refine wpList_make_full _ rfl (.tmp 18) (.tmp 18) 22 rfl wr.heap.size 2 j0 (.int .i64 0) 1 Try.underlying22 hjf hy0 hy1 .i64 .i64 _ _ n rfl rfl rfl rfl (by rw [hy2]; omega) (by unfold maxLen; omega) (Nat.le_refl _) ?_; intro w5 hown hgrow; have hb5 := made_below hgrow; have HO5 : Hid _ := hown; have x0 := carry hb5 u0; have x1 := carryF hb5 u0 u1; clear hown hgrow)
      have hs5 : wr.heap.size < w5.heap.size := (World.ownsRow.lt HO5.out wr.heap.size rfl).2
      have HO6 : Hid (Own (w5.setCell ⟨w.heap.size, i, none⟩ (.slice (some ⟨wr.heap.size, 0, none⟩) n n)) wr.heap.size wr.heap.size n (Num.fill (fun k => Num.at2 ls k i) n 0)) := by
        have h := Own.made (fun k => Num.at2 ls k i) HO5.out
        exact ownsRow_setCell_below h (by show w.heap.size < _; omega) _
      have hc6 : (w5.setCell ⟨w.heap.size, i, none⟩ (.slice (some ⟨wr.heap.size, 0, none⟩) n n)).cell? ⟨w.heap.size, i, none⟩ = some (.slice (some ⟨wr.heap.size, 0, none⟩) n n) := World.cell?_setCell_same' _ _ _ (by rw [x0]; rfl)
      have hB6 : Below w.heap.size w (w5.setCell ⟨w.heap.size, i, none⟩ (.slice (some ⟨wr.heap.size, 0, none⟩) n n)) := bset (bstep hB hb5) (Nat.le_refl _) _
      have HP : Hid (∀ w7, Below wr.heap.size (w5.setCell ⟨w.heap.size, i, none⟩ (.slice (some ⟨wr.heap.size, 0, none⟩) n n)) w7 → Ints w7 (some ⟨wr.heap.size, 0, none⟩) n (f i) → OwnL w7 w.heap.size w.heap.size n (i + 1) f) := fun w7 h hI => OwnL.push HO.out hlt hb5 h hI
      clear HO5 x0 x1 hb5 u0 u1
      go_wp2_with fail
      generalize w5.setCell ⟨w.heap.size, i, none⟩ (.slice (some ⟨wr.heap.size, 0, none⟩) n n) = w6 at *
      generalize wr.heap.size = gi at *
      go_loopw [23] (fun q wr => ∃ k : Nat, k ≤ n ∧ q = .int .i64 k ∧ Own wr gi gi n (Num.fill (fun k => Num.at2 ls k i) n k) ∧ Below gi w6 wr) (fun q _ => n - (intOf q).toNat)
      case atStart => exact ⟨0, Nat.zero_le _, rfl, HO6.out, Below.refl _ _⟩
      case round =>
        obtain ⟨k, hk, rfl, hOs, hbl⟩ := hrel
        have HOs : Hid (Own wr gi gi n (Num.fill (fun k => Num.at2 ls k i) n k)) := hOs
        have hBs : Below w.heap.size w wr := hB6.trans (hbl.mono (by omega))
        clear HO6
        by_cases hkt : k < n
        · rcases (Lines.below HL.out hBs (Nat.le_refl _)).2 with h | ⟨b1, off1, ha1, hbs1, hc1⟩
          · omega
          simp only [Option.some.injEq, Addr.mk.injEq] at ha1
          obtain ⟨rfl, rfl, _⟩ := ha1
          obtain ⟨ra, rl, rc, c0, hi2, hrc⟩ := hc1 k hkt
          clear hc1
          have hrl : rl = n := by have := hi2.1; have := HLL.out k hkt; omega
          subst hrl
          rcases hi2.2 with h | ⟨b2, o2, ha2, hb2, hc2⟩
          · omega
          have c1 := hc2 i hlt
          clear hc2 hi2
          have c2 : wr.cell? ⟨w.heap.size, i, none⟩ = some (.slice (some ⟨gi, 0, none⟩) rl rl) := by rw [hbl.cell (by show w.heap.size < _; omega)]; exact hc6
          obtain ⟨⟨v, v0⟩, v1⟩ := hOs.cell' k hkt
          clear hOs
          have HE : Hid ((ls[k]?.getD [])[i]?.getD 0 = Num.at2 ls k i) := rfl
          generalize (ls[k]?.getD [])[i]?.getD 0 = x at c1 HE
          subst ha2
          go_wp2_with fail
          go_region
          go_wp2_with fail
          go_roundw
          case rel => exact ⟨k + 1, hkt, by go_num, by rw [← Num.fill_set _ _ _ x hkt HE.out]; exact Own.store HOs.out k x, (bset hbl (Nat.le_refl _) _).drew⟩
          case measure => simp [intOf]; omega
        · have hke : k = n := by omega
          subst hke
          clear hOs
          have HI7 : Hid (Ints wr (some ⟨gi, 0, none⟩) k (f i)) := by rw [HF.out, ← Num.fill_all]; exact Own.ints HOs.out
          have HO7 : Hid (OwnL wr w.heap.size w.heap.size k (i + 1) f) := HP.out wr hbl HI7.out
          go_wp2_with fail
          go_roundw
          case rel => exact ⟨i + 1, hlt, by go_num, HO7.out, hBs⟩
          case measure => simp [intOf]; omega
    · have hke : i = n := by omega
      subst hke
      clear hO
      go_wp2_with fail
      go_ret
      exact ⟨w.heap.size, rfl, Nat.le_refl _, by rw [HT.out]; exact OwnL.lines HO.out, hB⟩

end Go.Proofs.Ytjpliphobnflpaa
