/- What proof.leveled does. -/
import Derived.Test.YtjlkegchkngliaaPrfW2
namespace Go.Proofs.Ytjlkegchkngliaa
open Go.RowKit

theorem Try.infoRow : (Try.prog.info? 55).map (fun i => (i.zero, i.size, i.bytes)) = some (some (.agg #[.slice none 0 0, .int .i64 0]), 2, 32) := by kernel_rfl

/-- Rows of the call's own, the first k of them with the numbers of rs, and 0. -/
structure LRows (B : Nat) (V : World) (r n k : Nat) (W0 : World) (rs : List (List Int × Int)) (w : World) : Prop where
  held : HeldN B V r (n * 2) w
  rows : ∀ j, j < k → ∃ ra rl rc, w.cell? ⟨r, j * 2, none⟩ = some (.slice ra rl rc) ∧ w.cell? ⟨r, j * 2 + 1, none⟩ = some (.int .i64 0) ∧ Ints W0 ra rl (rs[j]?.getD ([], 0)).1 ∧ rl ≤ 9223372036854775807

theorem LRows.step {B : Nat} {V : World} {r n k : Nat} {W0 : World} {rs : List (List Int × Int)} {w w' : World} (h : LRows B V r n k W0 rs w) (hb : Below w.heap.size w w') : LRows B V r n k W0 rs w' := by
  refine ⟨h.held.step hb, fun j hj => ?_⟩
  obtain ⟨ra, rl, rc, c0, c1, hi, hl⟩ := h.rows j hj
  exact ⟨ra, rl, rc, carry hb c0, carry hb c1, hi, hl⟩

theorem LRows.push {B : Nat} {V : World} {r n k : Nat} {W0 : World} {rs : List (List Int × Int)} {w : World} (h : LRows B V r n k W0 rs w) (hk : k < n) (ra : Option Addr) (rl rc : Nat) (hi : Ints W0 ra rl (rs[k]?.getD ([], 0)).1) (hl : rl ≤ 9223372036854775807) :
    LRows B V r n (k + 1) W0 rs ((w.setCell ⟨r, k * 2, none⟩ (.slice ra rl rc)).setCell ⟨r, k * 2 + 1, none⟩ (.int .i64 0)) := by
  obtain ⟨F0, f0, _⟩ := HeldN.cell (B := B) (V := V) (r := r) (n := n * 2) (i := k * 2) (by omega)
  obtain ⟨F1, f1, _⟩ := HeldN.cell (B := B) (V := V) (r := r) (n := n * 2) (i := k * 2 + 1) (by omega)
  refine ⟨(h.held.set _ _).set _ _, fun j hj => ?_⟩
  by_cases hjk : j < k
  · obtain ⟨ra', rl', rc', c0, c1, hi', hl'⟩ := h.rows j hjk
    exact ⟨ra', rl', rc', by rw [cell_set_ne (by omega), cell_set_ne (by omega)]; exact c0, by rw [cell_set_ne (by omega), cell_set_ne (by omega)]; exact c1, hi', hl'⟩
  · obtain rfl : j = k := by omega
    exact ⟨ra, rl, rc, by rw [cell_set_ne (by omega)]; exact cell_set_eq (f0 w h.held), cell_set_eq (by rw [cell_set_ne (by omega)]; exact f1 w h.held), hi, hl⟩

theorem LRows.done {B : Nat} {V : World} {r n : Nat} {W0 : World} {rs : List (List Int × Int)} {w w' : World} (h : LRows B V r n n W0 rs w) (hn : n = rs.length) (hc : ∀ i, w'.cell? ⟨r, i, none⟩ = w.cell? ⟨r, i, none⟩) (hs : r < w'.heap.size) (hb : Below W0.heap.size W0 w') : RowsAt w' (some ⟨r, 0, none⟩) n (rs.map fun q => (q.1, 0)) := by
  refine ⟨by rw [List.length_map]; exact hn, Or.inr ⟨r, 0, rfl, hs, fun j hj => ?_⟩⟩
  obtain ⟨ra, rl, rc, c0, c1, hi, hl⟩ := h.rows j hj
  have e : (rs.map fun q => (q.1, (0 : Int)))[j]?.getD ([], 0) = ((rs[j]?.getD ([], 0)).1, 0) := by
    rw [List.getElem?_map, List.getElem?_eq_getElem (by omega)]; rfl
  rw [e]
  exact ⟨ra, rl, rc, by rw [Nat.zero_add, hc]; exact c0, by rw [Nat.zero_add, hc]; exact c1, hi.below hb (Nat.le_refl _), hl⟩

theorem two_set {w : World} {b : Nat} {a0 a1 : Value} (c0 : w.cell? ⟨b, 0, none⟩ = some a0) (c1 : w.cell? ⟨b, 1, none⟩ = some a1) (u0 u1 : Value) (X : World) (hX : X = (w.setCell ⟨b, 0, none⟩ u0).setCell ⟨b, 1, none⟩ u1) :
    X.cell? ⟨b, 0, none⟩ = some u0 ∧ X.cell? ⟨b, 1, none⟩ = some u1 := by
  subst hX
  exact ⟨by rw [cell_set_ne (by decide)]; exact cell_set_eq c0, cell_set_eq (by rw [cell_set_ne (by decide)]; exact c1)⟩

set_option maxHeartbeats 800000 in
theorem leveled_any (ca : Option Addr) (cl cc : Nat) (ra : Option Addr) (m rc : Nat) (p : Num.Lp) (w : World) (hr : RowsAt w ra m p.rows) (h4 : m ≤ 4) :
    Calls Try.prog 95 #[.agg #[.slice ca cl cc, .slice ra m rc]] w fun e w' => ∃ g, e = .returned (.agg #[.slice ca cl cc, .slice (some ⟨g, 0, none⟩) m m]) ∧ RowsAt w' (some ⟨g, 0, none⟩) m (Num.level p).rows ∧ Below w.heap.size w w' := by
  have HR : Hid (RowsAt w ra m p.rows) := hr
  have HRL : Hid (m = p.rows.length) := hr.1
  clear hr
  obtain ⟨i0, hif, hz0, hz1, hz2⟩ := info_parts Try.infoRow
  have hL0 := box2_refl w (.slice ca cl cc) (.slice ra m rc) (.slice none 0 0) (.slice none 0 0) 40 40
  go_enter Try.func95, Try.ntmps95
  go_wp2_with (at_make; refine wpList_make_full _ rfl (.tmp 8) (.tmp 8) 38 rfl (w.heap.size + 2) 55 i0 (.agg #[.slice none 0 0, .int .i64 0]) 2 Try.underlying38 hif hz0 hz1 .i64 .i64 _ _ m rfl rfl rfl rfl (by rw [hz2]; omega) (by unfold maxLen; omega) (by simp) ?_; intro w3 hown hgrow; have hb3 := made_below hgrow; obtain ⟨⟨k0, k1⟩, _⟩ := box2 hb3; have HO : Hid _ := hown; clear hown hgrow)
  have HL3 : Hid (LRows (w.heap.size + 2) w3 (w.heap.size + 1 + 1) m 0 w p.rows w3) := by
    refine ⟨⟨Below.refl _ _, by omega, ?_⟩, fun j hj => absurd hj (Nat.not_lt_zero _)⟩
    rcases HO.out.2 with ⟨h, _⟩ | ⟨g, cap, cur, h, _, hg, _, _, hs, _⟩
    · cases h
    · simp only [Value.slice.injEq, Option.some.injEq, Addr.mk.injEq] at h
      obtain ⟨⟨rfl, _⟩, _, rfl⟩ := h
      exact ⟨cur, _, by simpa using hg, hs⟩
  have hs3 : w.heap.size + 1 + 1 < w3.heap.size := HL3.out.held.lt
  have HB3 : Hid (∀ w', Below (w.heap.size + 2) w3 w' → (w'.cell? ⟨w.heap.size, 0, none⟩ = some (.slice ca cl cc) ∧ w'.cell? ⟨w.heap.size, 1, none⟩ = some (.slice ra m rc)) ∧ (w'.cell? ⟨w.heap.size + 1, 0, none⟩ = some (.slice none 0 0) ∧ w'.cell? ⟨w.heap.size + 1, 1, none⟩ = some (.slice none 0 0)) ∧ (w'.frozen? ⟨w.heap.size + 1, 0, none⟩ = false ∧ w'.frozen? ⟨w.heap.size + 1, 1, none⟩ = false) ∧ w.heap.size + 1 < w'.heap.size ∧ Below w.heap.size w w') := by
    intro w' h
    have h2 : Below ((w.alloc (.cells #[.slice ca cl cc, .slice ra m rc] 40)).alloc (.cells #[.slice none 0 0, .slice none 0 0] 40)).heap.size ((w.alloc (.cells #[.slice ca cl cc, .slice ra m rc] 40)).alloc (.cells #[.slice none 0 0, .slice none 0 0] 40)) w' := hb3.trans (h.mono (by simp))
    obtain ⟨a, b, c, d⟩ := box2 h2
    refine ⟨a, b, ⟨?_, ?_⟩, c, d⟩
    · rw [h2.frozen (by simp)]; go_simp
    · rw [h2.frozen (by simp)]; go_simp
  clear HO hL0 hb3 k0 k1
  go_loopw [13] (fun i wr => ∃ k : Nat, k ≤ m ∧ i = .int .i64 k ∧ LRows (w.heap.size + 2) w3 (w.heap.size + 1 + 1) m k w p.rows wr) (fun i _ => m - (intOf i).toNat)
  case atStart => exact ⟨0, Nat.zero_le _, rfl, HL3.out⟩
  case round =>
    obtain ⟨k, hk, rfl, hLR⟩ := hrel
    have HLR : Hid (LRows (w.heap.size + 2) w3 (w.heap.size + 1 + 1) m k w p.rows wr) := hLR
    obtain ⟨⟨c0, c1⟩, ⟨d0, d1⟩, ⟨f0, f1⟩, hz, hB⟩ := HB3.out _ hLR.held.bel
    have hrs := hLR.held.lt
    clear HL3
    by_cases hlt : k < m
    · rcases HR.out.2 with h | ⟨b, off, ha, hbs, hc⟩
      · omega
      obtain ⟨xa, xl, xc, e0, e1, hx, hxl⟩ := hc k hlt
      have HXI : Hid _ := hx
      have g0 : wr.cell? ⟨b, off + k * 2, none⟩ = some (.slice xa xl xc) := by rw [hB.cell (p := ⟨b, off + k * 2, none⟩) hbs]; exact e0
      have g1 : wr.cell? ⟨b, off + k * 2 + 1, none⟩ = some (.int .i64 (p.rows[k]?.getD ([], 0)).2) := by rw [hB.cell (p := ⟨b, off + k * 2 + 1, none⟩) hbs]; exact e1
      generalize (p.rows[k]?.getD ([], 0)).2 = mo at g1
      obtain ⟨F0, t0, s0⟩ := HeldN.cell (B := w.heap.size + 2) (V := w3) (r := w.heap.size + 1 + 1) (n := m * 2) (i := k * 2) (by omega)
      obtain ⟨F1, t1, s1⟩ := HeldN.cell (B := w.heap.size + 2) (V := w3) (r := w.heap.size + 1 + 1) (n := m * 2) (i := k * 2 + 1) (by omega)
      have u0 := t0 _ hLR.held
      have u1 := t1 _ hLR.held
      have v0 := s0 _ hLR.held
      have v1 := s1 _ hLR.held
      generalize F0 wr = o0 at u0
      generalize F1 wr = o1 at u1
      clear hc e0 e1 hx t0 t1 s0 s1 hLR d0 d1 f0 f1 hs3
      subst ha
      go_wp2_with fail
      go_roundw
      case rel => exact ⟨k + 1, hlt, by go_num, (HLR.out.push hlt xa xl xc HXI.out hxl).step (balloc _ _)⟩
      case measure => simp [intOf]; omega
    · have hke : m = k := by omega
      subst hke
      have hbf : Below w.heap.size w ((wr.setCell ⟨w.heap.size + 1, 0, none⟩ (.slice ca cl cc)).setCell ⟨w.heap.size + 1, 1, none⟩ (.slice (some ⟨w.heap.size + 1 + 1, 0, none⟩) m m)) := bset (bset hB (by omega) _) (by omega) _
      have HRT : Hid (RowsAt ((wr.setCell ⟨w.heap.size + 1, 0, none⟩ (.slice ca cl cc)).setCell ⟨w.heap.size + 1, 1, none⟩ (.slice (some ⟨w.heap.size + 1 + 1, 0, none⟩) m m)) (some ⟨w.heap.size + 1 + 1, 0, none⟩) m (Num.level p).rows) :=
        hLR.done HRL.out (fun i => by rw [World.cell?_setCell_far _ _ _ _ (by dsimp only; omega), World.cell?_setCell_far _ _ _ _ (by dsimp only; omega)]) (by simpa using hrs) hbf
      obtain ⟨z0, z1⟩ := two_set d0 d1 (.slice ca cl cc) (.slice (some ⟨w.heap.size + 1 + 1, 0, none⟩) m m) _ rfl
      have HBF : Hid _ := hbf
      clear hLR hbf
      go_wp2_with fail
      exact bodyPost_ret (v := .agg #[.slice ca cl cc, .slice (some ⟨w.heap.size + 1 + 1, 0, none⟩) m m]) (by simp [results, Try.results95, go_sem, z0, z1]) rfl ⟨_, rfl, HRT.out, HBF.out⟩

end Go.Proofs.Ytjlkegchkngliaa
