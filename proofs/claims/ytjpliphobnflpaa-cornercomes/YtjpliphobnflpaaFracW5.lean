/- What frac.Point does, for every slice of numbers. -/
import Derived.Test.YtjpliphobnflpaaRef1W2
namespace Go.Proofs.Ytjpliphobnflpaa
open Go.RowKit

theorem Try.info64 : (Try.prog.info? 2).map (fun i => (i.zero, i.size, i.bytes)) = some (some (.int .i64 0), 1, 8) := by kernel_rfl

set_option maxHeartbeats 400000 in
theorem point_bad (d : Int) (a : Option Addr) (len cap : Nat) (l : List Int) (w : World) (hi : Ints w a len l) (hlen : len ≤ 9223372036854775807) (h : ((Num.low d l).2 == 0) = false) :
    Calls Try.prog 15 #[.slice a len cap, .int .i64 d] w fun e w' => e = .returned (.tuple #[.agg #[.slice none 0 0, .int .i64 0], .int .i64 (Num.low d l).2]) ∧ Below w.heap.size w w' := by
  have h' : ((Num.low d l).2 != 0) = true := by simpa using h
  generalize hx : (Num.low d l).2 = x at *
  have HX : Hid _ := hx
  clear hx
  go_enter Try.func15, Try.ntmps15
  go_wp2_with fail
  refine (lowering_any d _ _ _ l _ (hi.below (B := w.heap.size) ((Below.refl _ _).alloc (Nat.le_refl _) _) (Nat.le_refl _)) (by omega)).mono ?_
  rintro e w' ⟨rfl, hb⟩
  rw [HX.out]
  generalize (Num.low d l).1 = y at *
  have c0 : w'.cell? ⟨w.heap.size, 0, none⟩ = some (.slice none 0 0) := by rw [hb.cell (by simp)]; go_simp
  have c1 : w'.cell? ⟨w.heap.size, 1, none⟩ = some (.int .i64 0) := by rw [hb.cell (by simp)]; go_simp
  have f0 : w'.frozen? ⟨w.heap.size, 0, none⟩ = false := by rw [hb.frozen (by simp)]; go_simp
  have f1 : w'.frozen? ⟨w.heap.size, 1, none⟩ = false := by rw [hb.frozen (by simp)]; go_simp
  go_wp2_with fail
  exact bodyPost_ret (v := .tuple #[.agg #[.slice none 0 0, .int .i64 0], .int .i64 x]) (by simp [results, Try.results15, go_sem, c0, c1]) rfl ⟨rfl, ((binto hb).setCell (Nat.le_refl _) _).setCell (Nat.le_refl _) _⟩

set_option maxHeartbeats 800000 in
theorem point_ok (d : Int) (a : Option Addr) (len cap : Nat) (l : List Int) (w : World) (hi : Ints w a len l) (h : (Num.low d l).2 = 0) :
    Calls Try.prog 15 #[.slice a len cap, .int .i64 d] w fun e w' => ∃ g, e = .returned (.tuple #[.agg #[.slice (some ⟨g, 0, none⟩) len len, .int .i64 (d.tdiv (Num.byOf d l))], .int .i64 0]) ∧
      Ints w' (some ⟨g, 0, none⟩) len (l.map fun n => n.tdiv (Num.byOf d l)) ∧ Below w.heap.size w w' ∧ w.heap.size ≤ g := by
  obtain ⟨e1, h0, ⟨hd1, hd2⟩, hl, hl8, _⟩ := Num.low_ok d l h
  have hlen : len ≤ 8 := by have := hi.1; omega
  have hy := Num.byOf_bd d l h0 hd1 hd2
  have HN : Hid _ := Num.withinB_iff _ _ hl (by omega)
  have HX : Hid _ := h
  have HE : Hid _ := e1
  have HL : Hid (len = l.length) := hi.1
  clear h e1 hl hl8
  generalize Num.byOf d l = y at *
  have hy0 : (y == 0) = false := by simpa using hy.1
  have q2 := Num.tdiv_abs d y
  have hw2 : wrap64 (d.tdiv y) = d.tdiv y := IntWalk.wrap64_in _ (by omega)
  clear q2
  obtain ⟨_, hy1, hy2⟩ := hy
  obtain ⟨i0, hif, hz0, hz1, hz2⟩ := info_parts Try.info64
  go_enter Try.func15, Try.ntmps15
  go_wp2_with fail
  refine (lowering_any d _ _ _ l _ (hi.below (B := w.heap.size) ((Below.refl _ _).alloc (Nat.le_refl _) _) (Nat.le_refl _)) (by omega)).mono ?_
  rintro e w2 ⟨rfl, hb⟩
  rw [HX.out, HE.out]
  go_wp2_with (at_make; refine wpList_make_full _ rfl (.tmp 22) (.tmp 22) 22 rfl w2.heap.size 2 i0 (.int .i64 0) 1 Try.underlying22 hif hz0 hz1 .i64 .i64 _ _ len rfl rfl rfl rfl (by rw [hz2]; omega) (by unfold maxLen; omega) (Nat.le_refl _) ?_; intro w3 hown hgrow)
  have hb3 : Below (w.alloc (.cells #[.slice none 0 0, .int .i64 0] 29)).heap.size (w.alloc (.cells #[.slice none 0 0, .int .i64 0] 29)) w3 :=
    hb.grown hgrow hb.size (fun k hk => by cases hk)
  have hsz3 := hgrow.size
  have hown' : ∃ xs : List Value, xs.length = len ∧ w3.ownsRow w2.heap.size 2 1 (.slice (some ⟨w2.heap.size, 0, none⟩) len len) len xs := ⟨_, by have := hown.1; omega, hown⟩
  clear hown hgrow
  go_loopw [26] (fun i wr => ∃ (k : Nat) (xs : List Value), k ≤ len ∧ i = .int .i64 k ∧ xs.length = len ∧ wr.ownsRow w2.heap.size 2 1 (.slice (some ⟨w2.heap.size, 0, none⟩) len len) len xs ∧
      (∀ j, j < k → xs[j]? = some (.int .i64 ((l[j]?.getD 0).tdiv y))) ∧ Below (w.alloc (.cells #[.slice none 0 0, .int .i64 0] 29)).heap.size (w.alloc (.cells #[.slice none 0 0, .int .i64 0] 29)) wr) (fun i _ => len - (intOf i).toNat)
  case atStart =>
    obtain ⟨xs, h1, h2⟩ := hown'
    exact ⟨0, xs, Nat.zero_le _, rfl, h1, h2, fun j hj => absurd hj (Nat.not_lt_zero _), hb3⟩
  case round =>
    obtain ⟨k, xs, hk, rfl, hxl, hown, hxs, hbl⟩ := hrel
    have HXS : Hid _ := hxs
    have HXL : Hid _ := hxl
    clear hxs hxl hown' hb3
    by_cases hlt : k < len
    · have hck : ∃ b off, a = some ⟨b, off, none⟩ ∧ wr.cell? ⟨b, off + k, none⟩ = some (.int .i64 (l[k]?.getD 0)) := by
        rcases hi.2 with h | ⟨b, off, ha, hbs, hc⟩
        · omega
        · refine ⟨b, off, ha, ?_⟩
          rw [hbl.cell (p := ⟨b, off + k, none⟩) (by simp; omega), ((Below.refl _ _).alloc (Nat.le_refl _) _).cell (p := ⟨b, off + k, none⟩) hbs]
          exact hc k hlt
      obtain ⟨b, off, ha, hck⟩ := hck
      have hx := HN.out k
      generalize hxv : l[k]?.getD 0 = x at hck hx
      have HV : Hid _ := hxv
      clear hxv
      have q1 := Num.tdiv_abs x y
      have hw1 : wrap64 (x.tdiv y) = x.tdiv y := IntWalk.wrap64_in _ (by omega)
      clear q1
      obtain ⟨u, hu⟩ : ∃ u, wr.cell? ⟨w2.heap.size, k, none⟩ = some u := by
        have := hown.cellAt k (by omega)
        rw [this]
        exact ⟨_, List.getElem?_eq_getElem (by have := HXL.out; omega)⟩
      have hf := hown.frozenAt k
      have hst := hown.stored k (.int .i64 (x.tdiv y))
      have HST : Hid _ := hst
      have HSZ : Hid _ := hb.size
      clear hst hown
      subst ha
      clear hi
      go_wp2_with fail
      go_roundw
      case rel =>
        refine ⟨k + 1, xs.set k (.int .i64 (x.tdiv y)), by omega, by go_num, by simpa using HXL.out, HST.out.1, ?_, hbl.grown HST.out.2 hbl.size (fun k hk => ?_)⟩
        · intro j hj
          by_cases hjk : j = k
          · subst hjk
            rw [HV.out, List.getElem?_set_self (by have := HXL.out; omega)]
          · rw [List.getElem?_set_ne (by omega)]
            exact HXS.out j (by omega)
        · cases hk
          exact HSZ.out
      case measure => simp [intOf]; omega
    · have c0 : wr.cell? ⟨w.heap.size, 0, none⟩ = some (.slice none 0 0) := by rw [hbl.cell (by simp)]; go_simp
      have c1 : wr.cell? ⟨w.heap.size, 1, none⟩ = some (.int .i64 0) := by rw [hbl.cell (by simp)]; go_simp
      have f0 : wr.frozen? ⟨w.heap.size, 0, none⟩ = false := by rw [hbl.frozen (by simp)]; go_simp
      have f1 : wr.frozen? ⟨w.heap.size, 1, none⟩ = false := by rw [hbl.frozen (by simp)]; go_simp
      have hsz : w.heap.size < w2.heap.size := by have := hb.size; simp at this; omega
      have HO : Hid _ := hown
      clear hown hi
      go_wp2_with fail
      refine bodyPost_ret (v := .tuple #[.agg #[.slice (some ⟨w2.heap.size, 0, none⟩) len len, .int .i64 (d.tdiv y)], .int .i64 0]) (by simp [results, Try.results15, go_sem, c0, c1]) rfl ⟨w2.heap.size, rfl, ?_, ((binto hbl).setCell (Nat.le_refl _) _).setCell (Nat.le_refl _) _, by omega⟩
      have hke : k = len := by omega
      subst hke
      exact Ints.ofOwn (ownsRow_setCell_below (ownsRow_setCell_below HO.out hsz _) hsz _) (by have := HL.out; simpa using this) (fun j hj => by rw [Num.map_getD _ (by simp)]; exact HXS.out j hj)

/-- frac.Point: for all numbers; what it makes is new. -/
theorem point_new (d : Int) (a : Option Addr) (len cap : Nat) (l : List Int) (w : World) (hi : Ints w a len l) (hlen : len ≤ 9223372036854775807) (m : List Int) (y z : Int) (h : Num.pt l d = (m, y, z)) :
    Calls Try.prog 15 #[.slice a len cap, .int .i64 d] w fun e w' => ∃ a' n' c', e = .returned (.tuple #[.agg #[.slice a' n' c', .int .i64 y], .int .i64 z]) ∧ Ints w' a' n' m ∧ n' ≤ len ∧ Below w.heap.size w w' ∧ (n' = 0 ∨ ∃ g, a' = some ⟨g, 0, none⟩ ∧ w.heap.size ≤ g) := by
  unfold Num.pt at h
  by_cases h0 : (Num.low d l).2 = 0
  · rw [if_pos h0] at h
    simp only [Prod.mk.injEq] at h
    obtain ⟨rfl, rfl, rfl⟩ := h
    refine (point_ok d a len cap l w hi h0).mono ?_
    rintro e w' ⟨g, rfl, h1, h2, h3⟩
    exact ⟨_, _, _, rfl, h1, Nat.le_refl _, h2, Or.inr ⟨g, rfl, h3⟩⟩
  · rw [if_neg h0] at h
    simp only [Prod.mk.injEq] at h
    obtain ⟨rfl, rfl, rfl⟩ := h
    refine (point_bad d a len cap l w hi hlen (by simpa using h0)).mono ?_
    rintro e w' ⟨rfl, h2⟩
    exact ⟨_, _, _, rfl, ⟨rfl, Or.inl rfl⟩, Nat.zero_le _, h2, Or.inl rfl⟩

/-- frac.Point: for all numbers. -/
theorem point_any (d : Int) (a : Option Addr) (len cap : Nat) (l : List Int) (w : World) (hi : Ints w a len l) (hlen : len ≤ 9223372036854775807) (m : List Int) (y z : Int) (h : Num.pt l d = (m, y, z)) :
    Calls Try.prog 15 #[.slice a len cap, .int .i64 d] w fun e w' => ∃ a' n' c', e = .returned (.tuple #[.agg #[.slice a' n' c', .int .i64 y], .int .i64 z]) ∧ Ints w' a' n' m ∧ n' ≤ len ∧ Below w.heap.size w w' :=
  (point_new d a len cap l w hi hlen m y z h).mono fun _ _ ⟨a', n', c', h1, h2, h3, h4, _⟩ => ⟨a', n', c', h1, h2, h3, h4⟩

end Go.Proofs.Ytjpliphobnflpaa
