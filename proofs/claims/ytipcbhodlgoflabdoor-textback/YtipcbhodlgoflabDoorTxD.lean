/- Package text's reading: Parse. -/
import Derived.Test.YtipcbhodlgoflabDoorTxC
namespace Go.Proofs.YtipcbhodlgoflabDoor
open Go.RowKit

theorem PAt.rowsAt {B q : Nat} {w : World} {p : Num.Lp} {ca : Option Addr} {cl cc : Nat} {v : Value} {F : Nat → Value} (h : PAt B q w p ca cl cc v F) :
    ∃ ra rc, v = .slice ra p.rows.length rc ∧ RowsAt w ra p.rows.length p.rows := by
  by_cases h0 : p.rows.length = 0
  · exact ⟨none, 0, by rw [h.bare h0, h0], rfl, Or.inl h0⟩
  · obtain ⟨g, c, e, hr⟩ := RowsA.rows (rs := p.rows) h.rows rfl (by omega) (fun j hj => by
      obtain ⟨xa, xl, xc, e, hi, hx, _⟩ := h.each j hj
      exact ⟨xa, xl, xc, e, hi, by omega⟩) (fun _ _ => rfl)
    exact ⟨_, c, e, hr⟩

/-- Another box is written. -/
theorem PAt.setLow {B q : Nat} {w : World} {p : Num.Lp} {ca : Option Addr} {cl cc : Nat} {v : Value} {F : Nat → Value} (h : PAt B q w p ca cl cc v F) {b j : Nat} (hb : b < B) (hq : b ≠ q) (u : Value) :
    PAt B q (w.setCell ⟨b, j, none⟩ u) p ca cl cc v F where
  lo := h.lo
  hi := by simpa using h.hi
  c0 := by rw [World.cell?_setCell_other _ _ _ _ (fun e => hq (congrArg Addr.block e))]; exact h.c0
  c1 := by rw [World.cell?_setCell_other _ _ _ _ (fun e => hq (congrArg Addr.block e))]; exact h.c1
  f0 := by simpa using h.f0
  f1 := by simpa using h.f1
  costs := Ints.set h.costs h.far hb _
  few := h.few
  far := h.far
  rows := h.rows.setLow hb _
  each := fun j hj => by
    obtain ⟨xa, xl, xc, e, hi, hx, hf⟩ := h.each j hj
    exact ⟨xa, xl, xc, e, Ints.set hi hf hb _, hx, hf⟩
  bare := h.bare

/-- A box that is new, and empty. -/
theorem PA.new {q : Nat} {w : World} (hs : w.heap.size = q + 1) (c0 : w.cell? ⟨q, 0, none⟩ = some (.slice none 0 0)) (c1 : w.cell? ⟨q, 1, none⟩ = some (.slice none 0 0)) (f0 : w.frozen? ⟨q, 0, none⟩ = false) (f1 : w.frozen? ⟨q, 1, none⟩ = false) :
    PA (q + 1) q w ⟨[], []⟩ := by
  refine ⟨none, 0, 0, .slice none 0 0, fun _ => undef, ?_⟩
  exact {
    lo := by omega
    hi := by omega
    c0 := c0
    c1 := c1
    f0 := f0
    f1 := f1
    costs := ⟨rfl, Or.inl rfl⟩
    few := by omega
    far := Or.inl rfl
    rows := ⟨[], World.ownsRow_nil _ _ _ _, fun j hj => absurd hj (Nat.not_lt_zero j)⟩
    each := fun j hj => absurd hj (Nat.not_lt_zero j)
    bare := fun _ => rfl }

/-- A program that lies in blocks from B to E alone: it stays wherever these stay. -/
def PIn (B E : Nat) (w : World) (ca : Option Addr) (cl : Nat) (ra : Option Addr) (rl : Nat) (p : Num.Lp) : Prop :=
  ∀ w' : World, E ≤ w'.heap.size → (∀ k, B ≤ k → k < E → w'.heap[k]? = w.heap[k]?) → Ints w' ca cl p.costs ∧ RowsAt w' ra rl p.rows

theorem PIn.bare (B E : Nat) (w : World) : PIn B E w none 0 none 0 ⟨[], []⟩ := fun _ _ _ => ⟨⟨rfl, Or.inl rfl⟩, ⟨rfl, Or.inl rfl⟩⟩

theorem PIn.mono {B B' E : Nat} {w : World} {ca : Option Addr} {cl : Nat} {ra : Option Addr} {rl : Nat} {p : Num.Lp} (h : PIn B E w ca cl ra rl p) (hB : B' ≤ B) : PIn B' E w ca cl ra rl p :=
  fun w' h1 h2 => h w' h1 fun k hk => h2 k (by omega)

theorem Far.ints {B n : Nat} {w w' : World} {a : Option Addr} {l : List Int} (hi : Ints w a n l) (hf : Far B n a) (hE : w.heap.size ≤ w'.heap.size) (h : ∀ k, B ≤ k → k < w.heap.size → w'.heap[k]? = w.heap[k]?) : Ints w' a n l := by
  refine ⟨hi.1, ?_⟩
  rcases hi.2 with h0 | ⟨b, off, e, hb, hc⟩
  · exact Or.inl h0
  · rcases hf with h0 | ⟨g, e', hg⟩
    · exact Or.inl h0
    · rw [e] at e'
      have e'' := Option.some.inj e'
      simp only [Addr.mk.injEq] at e''
      refine Or.inr ⟨b, off, e, by omega, fun j hj => ?_⟩
      rw [World.cell?_of_block (w := w) (a := ⟨b, off + j, none⟩) (h b (by omega) hb)]
      exact hc j hj

theorem PAt.within {B q : Nat} {w : World} {p : Num.Lp} {ca : Option Addr} {cl cc : Nat} {F : Nat → Value} {ra : Option Addr} {rl rc : Nat} (h : PAt B q w p ca cl cc (.slice ra rl rc) F) : PIn B w.heap.size w ca cl ra rl p := by
  intro w' h1 h2
  refine ⟨Far.ints h.costs h.far h1 h2, ?_⟩
  have hrl : rl = p.rows.length := by
    by_cases h0 : p.rows.length = 0
    · have := h.bare h0
      simp only [Value.slice.injEq] at this
      omega
    · obtain ⟨vs, ho, _⟩ := h.rows
      obtain ⟨g, c, e, _⟩ := ho.form (by omega)
      simp only [Value.slice.injEq] at e
      exact e.2.1
  subst hrl
  by_cases h0 : p.rows.length = 0
  · exact ⟨rfl, Or.inl h0⟩
  · have hr : RowsA w' B (.slice ra p.rows.length rc) p.rows.length F (fun j => (p.rows[j]?.getD ([], 0)).2) := by
      obtain ⟨vs, ho, hin⟩ := h.rows
      refine ⟨vs, ⟨ho.1, ?_⟩, hin⟩
      rcases ho.2 with hn | ⟨g, cap, cur, e, hb, hg, r⟩
      · exact Or.inl hn
      · exact Or.inr ⟨g, cap, cur, e, hb, by rw [h2 g hb (Array.getElem?_eq_some_iff.1 hg).1]; exact hg, r⟩
    obtain ⟨g, c, e, hrr⟩ := RowsA.rows (rs := p.rows) hr rfl (by omega) (fun j hj => by
      obtain ⟨xa, xl, xc, e, hi, hx, hf⟩ := h.each j hj
      exact ⟨xa, xl, xc, e, Far.ints hi hf h1 h2, by omega⟩) (fun _ _ => rfl)
    simp only [Value.slice.injEq] at e
    rw [e.1]
    exact hrr

/-- What Parse answers, in plain words. -/
def codeR (l : List UInt8) : Int := match Num.readW l with
  | .ok _ => 0
  | .error _ => 2

def atR (l : List UInt8) : Int := match Num.readW l with
  | .ok _ => 0
  | .error k => k

def progR (l : List UInt8) : Num.Lp := match Num.readW l with
  | .ok p => p
  | .error _ => ⟨[], []⟩

theorem cap_head (c : List Int) (p : Num.Lp) : Num.capL ⟨c, p.rows⟩ = ⟨c.take 5, (Num.capL p).rows⟩ := rfl

theorem cap_push (p : Num.Lp) (x : List Int × Int) : Num.capL ⟨p.costs, p.rows ++ [x]⟩ = pushL (Num.capL p) (x.1.take 5) x.2 := by
  rw [Num.cap_rows, pushL, Num.cap_rows_length]
  by_cases h : p.rows.length ≤ 4
  · rw [if_pos h, if_pos (by omega)]
  · rw [if_neg h, if_neg (by omega)]

theorem cap_few (p : Num.Lp) : (Num.capL p).rows.length ≤ 5 := by
  rw [Num.cap_rows_length]; omega

/-- How far the lines of a text are read. -/
def Reads (l rest : List UInt8) (k : Nat) (p : Num.Lp) : Prop := Num.readW l = Num.readGo k p (Num.splitW 10 rest)

theorem Reads.ends {l rest : List UInt8} {k : Nat} {p : Num.Lp} (h : Reads l rest k p) (hr : Num.readGo k p (Num.splitW 10 rest) = .error k) : codeR l = 2 ∧ atR l = k ∧ progR l = ⟨[], []⟩ := by
  have e : Num.readW l = .error k := Eq.trans h hr
  unfold codeR atR progR
  rw [e]
  exact ⟨rfl, rfl, rfl⟩

theorem Reads.fine {l rest : List UInt8} {k : Nat} {p : Num.Lp} (h : Reads l rest k p) (hr : Num.readGo k p (Num.splitW 10 rest) = .ok p) : codeR l = 0 ∧ atR l = 0 ∧ progR l = p := by
  have e : Num.readW l = .ok p := Eq.trans h hr
  unfold codeR atR progR
  rw [e]
  exact ⟨rfl, rfl, rfl⟩

/-- Three new boxes of two cells. -/
theorem boxes3 (w : World) (a b c d e f : Value) (t t' t'' : TypeId) :
    (((((w.alloc (.cells #[a, b] t)).alloc (.cells #[c, d] t')).alloc (.cells #[e, f] t'')).cell? ⟨w.heap.size, 0, none⟩ = some a ∧ (((w.alloc (.cells #[a, b] t)).alloc (.cells #[c, d] t')).alloc (.cells #[e, f] t'')).cell? ⟨w.heap.size, 1, none⟩ = some b) ∧
      ((((w.alloc (.cells #[a, b] t)).alloc (.cells #[c, d] t')).alloc (.cells #[e, f] t'')).cell? ⟨w.heap.size + 1, 0, none⟩ = some c ∧ (((w.alloc (.cells #[a, b] t)).alloc (.cells #[c, d] t')).alloc (.cells #[e, f] t'')).cell? ⟨w.heap.size + 1, 1, none⟩ = some d) ∧
      ((((w.alloc (.cells #[a, b] t)).alloc (.cells #[c, d] t')).alloc (.cells #[e, f] t'')).cell? ⟨w.heap.size + 1 + 1, 0, none⟩ = some e ∧ (((w.alloc (.cells #[a, b] t)).alloc (.cells #[c, d] t')).alloc (.cells #[e, f] t'')).cell? ⟨w.heap.size + 1 + 1, 1, none⟩ = some f)) ∧
      ((∀ j, (((w.alloc (.cells #[a, b] t)).alloc (.cells #[c, d] t')).alloc (.cells #[e, f] t'')).frozen? ⟨w.heap.size, j, none⟩ = false) ∧ (∀ j, (((w.alloc (.cells #[a, b] t)).alloc (.cells #[c, d] t')).alloc (.cells #[e, f] t'')).frozen? ⟨w.heap.size + 1, j, none⟩ = false) ∧ (∀ j, (((w.alloc (.cells #[a, b] t)).alloc (.cells #[c, d] t')).alloc (.cells #[e, f] t'')).frozen? ⟨w.heap.size + 1 + 1, j, none⟩ = false)) := by
  refine ⟨⟨⟨?_, ?_⟩, ⟨?_, ?_⟩, ?_, ?_⟩, fun j => ?_, fun j => ?_, fun j => ?_⟩ <;> go_simp

set_option maxRecDepth 8000 in
set_option maxHeartbeats 3200000 in
theorem parseT_in (l : List UInt8) (hl : l.length < 4294967280) (w : World) (hL : Laid w) :
    Calls Tryd.prog 10 #[.string (B8 l)] w fun e w' => ∃ ca cl cc ra rl rc, e = .returned (.tuple #[.agg #[.slice ca cl cc, .slice ra rl rc], .agg #[.int .i64 (codeR l), .int .i64 (atR l)]]) ∧
      PIn w.heap.size w'.heap.size w' ca cl ra rl (progR l) ∧ (Ints w' ca cl (progR l).costs ∧ cl ≤ 2000001) ∧ (RowsAt w' ra rl (progR l).rows ∧ rl ≤ 5) ∧ Below w.heap.size w w' := by
  have HT : Hid (Laid w) := hL
  have HLL : Hid (l.length < 4294967280) := hl
  clear hL hl
  obtain ⟨⟨⟨k0, k1⟩, ⟨k2, k3⟩, ⟨k4, k5⟩⟩, j0, j2, j4⟩ := boxes3 w (.slice none 0 0) (.slice none 0 0) (.int .i64 0) (.int .i64 0) (.slice none 0 0) (.slice none 0 0) 25 32 25
  have hBV : Below w.heap.size w (((w.alloc (.cells #[.slice none 0 0, .slice none 0 0] 25)).alloc (.cells #[.int .i64 0, .int .i64 0] 32)).alloc (.cells #[.slice none 0 0, .slice none 0 0] 25)) := ((balloc w _).alloc (by simp) _).alloc (by simp; omega) _
  have hsz : (((w.alloc (.cells #[.slice none 0 0, .slice none 0 0] 25)).alloc (.cells #[.int .i64 0, .int .i64 0] 32)).alloc (.cells #[.slice none 0 0, .slice none 0 0] 25)).heap.size = w.heap.size + 1 + 1 + 1 := by simp
  generalize hV : ((w.alloc (.cells #[.slice none 0 0, .slice none 0 0] 25)).alloc (.cells #[.int .i64 0, .int .i64 0] 32)).alloc (.cells #[.slice none 0 0, .slice none 0 0] 25) = V at *
  have HPA : Hid (PA (w.heap.size + 1 + 1 + 1) (w.heap.size + 1 + 1) V ⟨[], []⟩) := PA.new hsz k4 k5 (j4 0) (j4 1)
  have HBX : Hid (∀ w', Below (w.heap.size + 1 + 1) V w' → (w'.cell? ⟨w.heap.size, 0, none⟩ = some (.slice none 0 0) ∧ w'.cell? ⟨w.heap.size, 1, none⟩ = some (.slice none 0 0) ∧ w'.cell? ⟨w.heap.size + 1, 0, none⟩ = some (.int .i64 0) ∧ w'.cell? ⟨w.heap.size + 1, 1, none⟩ = some (.int .i64 0)) ∧
      (w'.frozen? ⟨w.heap.size, 0, none⟩ = false ∧ w'.frozen? ⟨w.heap.size, 1, none⟩ = false ∧ w'.frozen? ⟨w.heap.size + 1, 0, none⟩ = false ∧ w'.frozen? ⟨w.heap.size + 1, 1, none⟩ = false) ∧ Below w.heap.size w w') := by
    intro w' h
    refine ⟨⟨?_, ?_, ?_, ?_⟩, ⟨?_, ?_, ?_, ?_⟩, hBV.trans (h.mono (by omega))⟩
    · rw [h.cell (by show w.heap.size < _; omega)]; exact k0
    · rw [h.cell (by show w.heap.size < _; omega)]; exact k1
    · rw [h.cell (by show w.heap.size + 1 < _; omega)]; exact k2
    · rw [h.cell (by show w.heap.size + 1 < _; omega)]; exact k3
    · rw [h.frozen (by show w.heap.size < _; omega)]; exact j0 0
    · rw [h.frozen (by show w.heap.size < _; omega)]; exact j0 1
    · rw [h.frozen (by show w.heap.size + 1 < _; omega)]; exact j2 0
    · rw [h.frozen (by show w.heap.size + 1 < _; omega)]; exact j2 1
  clear k0 k1 k2 k3 k4 k5 j0 j2 j4
  go_enter Tryd.func10, Tryd.ntmps10
  go_wp2_with fail
  clear hV
  go_loopw [0, 5] (fun s i wr => ∃ rest k p, s = .string (B8 rest) ∧ i = .int .i64 ((k : Nat) : Int) ∧ k + rest.length ≤ l.length ∧ Reads l rest k p ∧ PA (w.heap.size + 1 + 1 + 1) (w.heap.size + 1 + 1) wr (Num.capL p) ∧ Below (w.heap.size + 1 + 1) V wr) (fun s _ _ => lenV s)
  case atStart => exact ⟨l, 0, ⟨[], []⟩, rfl, rfl, by omega, rfl, HPA.out, Below.refl _ _⟩
  case round =>
    obtain ⟨rest, k, p, rfl, rfl, hkr, hrd, hpa, hbl⟩ := hrel
    have HRD : Hid (Reads l rest k p) := hrd
    have HP : Hid (PA (w.heap.size + 1 + 1 + 1) (w.heap.size + 1 + 1) wr (Num.capL p)) := hpa
    have HBL : Hid (Below (w.heap.size + 1 + 1) V wr) := hbl
    have HKR : Hid (k + rest.length ≤ l.length) := hkr
    clear hrd hpa hbl hkr
    by_cases hr0 : rest = []
    · subst hr0
      have hq : (B8 []).toList.isEmpty = true := by rw [B8_toList]; rfl
      generalize hS : B8 [] = S at hq
      clear hS
      obtain ⟨ca, cl, cc, v, F, hA⟩ := HP.out
      obtain ⟨ra, rc, hv, hrows⟩ := hA.rowsAt
      subst hv
      have c0 := hA.c0
      have c1 := hA.c1
      have hfew := cap_few p
      have HC : Hid (Ints wr ca cl (Num.capL p).costs) := hA.costs
      have HR : Hid (RowsAt wr ra (Num.capL p).rows.length (Num.capL p).rows) := hrows
      have hcl := hA.few
      generalize hrl : (Num.capL p).rows.length = rl at *
      have HA : Hid (PAt (w.heap.size + 1 + 1 + 1) (w.heap.size + 1 + 1) wr (Num.capL p) ca cl cc (.slice ra rl rc) F) := hA
      clear hA hrows hrl
      go_wp2_with fail
      refine (lmay_any ca cl cc ra rl rc (Num.capL p) wr HC.out (by omega) HR.out (by omega)).mono ?_
      rintro e w1 ⟨rfl, hb1⟩
      have hbl1 : Below (w.heap.size + 1 + 1) V w1 := HBL.out.trans (hb1.mono (by have := HBL.out.size; omega))
      obtain ⟨⟨r0, r1, r2, r3⟩, ⟨f0, f1, f2, f3⟩, hBW⟩ := HBX.out w1 hbl1
      have d0 := carry hb1 c0
      have d1 := carry hb1 c1
      have HC1 : Hid (Ints w1 ca cl (Num.capL p).costs) := HC.out.below hb1 (Nat.le_refl _)
      have HR1 : Hid (RowsAt w1 ra rl (Num.capL p).rows) := HR.out.below hb1 (Nat.le_refl _)
      have HA1 : Hid (PAt (w.heap.size + 1 + 1 + 1) (w.heap.size + 1 + 1) w1 (Num.capL p) ca cl cc (.slice ra rl rc) F) := HA.out.kept hb1
      clear c0 c1 hb1 hbl1
      cases hm : (Num.capL p).may with
      | true =>
        have hm' : p.may = true := by rw [← Num.may_cap]; exact hm
        have E : Hid (codeR l = 0 ∧ atR l = 0 ∧ progR l = Num.capL p) := by
          show _ ∧ _
          rw [Num.cap_of_may p hm']
          exact HRD.out.fine (by rw [Num.go_end, if_pos hm'])
        clear hm hm'
        go_wp2_with fail
        have hA4 := (((HA1.out.setLow (b := w.heap.size) (j := 0) (by omega) (by omega) (.slice ca cl cc)).setLow (b := w.heap.size) (j := 1) (by omega) (by omega) (.slice ra rl rc)).setLow (b := w.heap.size + 1) (j := 0) (by omega) (by omega) (.int .i64 0)).setLow (b := w.heap.size + 1) (j := 1) (by omega) (by omega) (.int .i64 0)
        obtain ⟨ra', rc', e', hrows⟩ := hA4.rowsAt
        simp only [Value.slice.injEq] at e'
        obtain ⟨rfl, hrl', rfl⟩ := e'
        rw [← hrl'] at hrows
        refine bodyPost_ret (v := .tuple #[.agg #[.slice ca cl cc, .slice ra rl rc], .agg #[.int .i64 0, .int .i64 0]]) (by simp [results, Tryd.results10, go_sem, r0, r1, r2, r3]) rfl ⟨ca, cl, cc, ra, rl, rc, by rw [E.out.1, E.out.2.1], by rw [E.out.2.2]; exact hA4.within.mono (by omega), ⟨by rw [E.out.2.2]; exact hA4.costs, hcl⟩, ⟨by rw [E.out.2.2]; exact hrows, hfew⟩, (((hBW.setCell (Nat.le_refl _) _).setCell (Nat.le_refl _) _).setCell (Nat.le_succ _) _).setCell (Nat.le_succ _) _⟩
      | false =>
        have hm' : p.may = false := by rw [← Num.may_cap]; exact hm
        have E : Hid (codeR l = 2 ∧ atR l = k ∧ progR l = ⟨[], []⟩) := HRD.out.ends (by rw [Num.go_end, if_neg (by rw [hm']; simp)])
        clear hm hm'
        go_wp2_with fail
        refine bodyPost_ret (v := .tuple #[.agg #[.slice none 0 0, .slice none 0 0], .agg #[.int .i64 2, .int .i64 k]]) (by simp [results, Tryd.results10, go_sem, r0, r1, r2, r3]) rfl ⟨none, 0, 0, none, 0, 0, by rw [E.out.1, E.out.2.1], by rw [E.out.2.2]; exact PIn.bare _ _ _, ⟨by rw [E.out.2.2]; exact ⟨rfl, Or.inl rfl⟩, by omega⟩, ⟨by rw [E.out.2.2]; exact ⟨rfl, Or.inl rfl⟩, by omega⟩, (((hBW.setCell (Nat.le_refl _) _).setCell (Nat.le_refl _) _).setCell (Nat.le_succ _) _).setCell (Nat.le_succ _) _⟩
    · have hq : (B8 rest).toList.isEmpty = false := by rw [B8_toList]; cases rest with
        | nil => exact absurd rfl hr0
        | cons c t => rfl
      have HR0 : Hid (rest ≠ []) := hr0
      clear hr0
      have HCUT : Hid (∀ w' , Laid w' → Calls Tryd.prog 21 #[.string (B8 rest), .string (B8 [10])] w' fun e w'' => e = .returned (.tuple #[.string (B8 (Lib.cut rest [10]).1), .string (B8 (Lib.cut rest [10]).2.1), .bool (Lib.cut rest [10]).2.2]) ∧ Below w'.heap.size w' w'') := fun w' h => cut_any rest [10] (by have := HKR.out; have := HLL.out; omega) w' h
      have HSZ : Hid ((B8 rest).size = rest.length) := B8_size rest
      generalize hS : B8 rest = S at hq HCUT HSZ
      clear hS
      have hBr := (HBX.out wr HBL.out).2.2
      go_wp2_with fail
      refine (HCUT.out wr (HT.out.later hBr)).mono ?_
      rintro e w1 ⟨rfl, hb1⟩
      have hbl1 : Below (w.heap.size + 1 + 1) V w1 := HBL.out.trans (hb1.mono (by have := HBL.out.size; omega))
      have HP1 : Hid (PA (w.heap.size + 1 + 1 + 1) (w.heap.size + 1 + 1) w1 (Num.capL p)) := HP.out.kept hb1
      clear hb1 hBr HCUT
      rcases Num.byte_first 10 rest with hno | ⟨a, b, hab, hno⟩
      · have E : Hid (codeR l = 2 ∧ atR l = k ∧ progR l = ⟨[], []⟩) := HRD.out.ends (Num.go_none k p rest HR0.out hno)
        rw [Num.cut_no 10 rest hno]
        obtain ⟨⟨r0, r1, r2, r3⟩, ⟨f0, f1, f2, f3⟩, hBW⟩ := HBX.out w1 hbl1
        clear hno
        go_wp2_with fail
        refine bodyPost_ret (v := .tuple #[.agg #[.slice none 0 0, .slice none 0 0], .agg #[.int .i64 2, .int .i64 k]]) (by simp [results, Tryd.results10, go_sem, r0, r1, r2, r3]) rfl ⟨none, 0, 0, none, 0, 0, by rw [E.out.1, E.out.2.1], by rw [E.out.2.2]; exact PIn.bare _ _ _, ⟨by rw [E.out.2.2]; exact ⟨rfl, Or.inl rfl⟩, by omega⟩, ⟨by rw [E.out.2.2]; exact ⟨rfl, Or.inl rfl⟩, by omega⟩, (((hBW.setCell (Nat.le_refl _) _).setCell (Nat.le_refl _) _).setCell (Nat.le_succ _) _).setCell (Nat.le_succ _) _⟩
      · subst hab
        have HM := Num.go_more k p a b hno
        have HMO : Hid (Num.readGo k p (Num.splitW 10 (a ++ 10 :: b)) = if k = 0 then match Num.headP a with
            | none => .error k
            | some c => Num.readGo (k + 1) ⟨c, p.rows⟩ (Num.splitW 10 b)
          else match Num.rowP a with
            | none => .error k
            | some q => Num.readGo (k + 1) ⟨p.costs, p.rows ++ [q]⟩ (Num.splitW 10 b)) := HM
        rw [Num.cut_yes 10 a b hno]
        have HLE : Hid (k + (a.length + (b.length + 1)) ≤ l.length) := by have := HKR.out; rw [List.length_append, List.length_cons] at this; exact this
        have HB1 : Hid (Below (w.heap.size + 1 + 1) V w1) := hbl1
        have hk1 : wrap64 ((k : Int) + 1) = (k : Int) + 1 := IntWalk.wrap64_in _ (by have := HLE.out; have := HLL.out; omega)
        have HSS : Hid (S.size = a.length + (b.length + 1)) := by have := HSZ.out; rw [List.length_append, List.length_cons] at this; exact this
        have hw1 := (HBX.out w1 hbl1).2.2
        clear hno HM HSZ HKR hbl1
        by_cases hk0 : k = 0
        · subst hk0
          go_wp2_with fail
          refine (take_head _ _ a w1 (Num.capL p) HP1.out (by have := HLE.out; have := HLL.out; omega) (HT.out.later hw1)).mono ?_
          rintro e w2 ⟨rfl, hp2, hb2⟩
          have HP2 : Hid (PA (w.heap.size + 1 + 1 + 1) (w.heap.size + 1 + 1) w2 ⟨((Num.headP a).getD []).take 5, (Num.capL p).rows⟩) := hp2
          have hbl2 : Below (w.heap.size + 1 + 1) V w2 := HB1.out.trans hb2
          clear hp2 hb2
          cases hh : Num.headP a with
          | none =>
            have E : Hid (codeR l = 2 ∧ atR l = (0 : Nat) ∧ progR l = ⟨[], []⟩) := HRD.out.ends (by rw [HMO.out, if_pos (by trivial), hh])
            obtain ⟨⟨r0, r1, r2, r3⟩, ⟨f0, f1, f2, f3⟩, hBW⟩ := HBX.out w2 hbl2
            clear hh
            simp only [Option.isSome_none]
            go_wp2_with fail
            refine bodyPost_ret (v := .tuple #[.agg #[.slice none 0 0, .slice none 0 0], .agg #[.int .i64 2, .int .i64 0]]) (by simp [results, Tryd.results10, go_sem, r0, r1, r2, r3]) rfl ⟨none, 0, 0, none, 0, 0, by rw [E.out.1, E.out.2.1]; rfl, by rw [E.out.2.2]; exact PIn.bare _ _ _, ⟨by rw [E.out.2.2]; exact ⟨rfl, Or.inl rfl⟩, by omega⟩, ⟨by rw [E.out.2.2]; exact ⟨rfl, Or.inl rfl⟩, by omega⟩, (((hBW.setCell (Nat.le_refl _) _).setCell (Nat.le_refl _) _).setCell (Nat.le_succ _) _).setCell (Nat.le_succ _) _⟩
          | some c =>
            have R : Hid (Reads l b (0 + 1) ⟨c, p.rows⟩) := Eq.trans HRD.out (by rw [HMO.out, if_pos (by trivial), hh])
            have HP3 : Hid (PA (w.heap.size + 1 + 1 + 1) (w.heap.size + 1 + 1) w2 (Num.capL ⟨c, p.rows⟩)) := by have := HP2.out; rw [hh] at this; exact this
            clear hh
            simp only [Option.isSome_some]
            go_wp2_with fail
            go_roundw
            case rel => exact ⟨b, 0 + 1, ⟨c, p.rows⟩, rfl, rfl, by have := HLE.out; omega, R.out, HP3.out, hbl2⟩
            case measure => show (B8 b).size < S.size; rw [B8_size, HSS.out]; omega
        · go_wp2_with fail
          refine (take_row _ _ k (by omega) (by have := HLE.out; have := HLL.out; omega) a w1 (Num.capL p) HP1.out (by have := HLE.out; have := HLL.out; omega) (cap_few p) (HT.out.later hw1)).mono ?_
          rintro e w2 ⟨rfl, ⟨o, m, ht, hp2⟩, hb2⟩
          have HP2 : Hid (PA (w.heap.size + 1 + 1 + 1) (w.heap.size + 1 + 1) w2 (pushL (Num.capL p) o m)) := hp2
          have HTO : Hid (RowTold a o m) := ht
          have hbl2 : Below (w.heap.size + 1 + 1) V w2 := HB1.out.trans hb2
          clear hp2 hb2 ht
          cases hh : Num.rowP a with
          | none =>
            have E : Hid (codeR l = 2 ∧ atR l = k ∧ progR l = ⟨[], []⟩) := HRD.out.ends (by rw [HMO.out, if_neg hk0, hh])
            obtain ⟨⟨r0, r1, r2, r3⟩, ⟨f0, f1, f2, f3⟩, hBW⟩ := HBX.out w2 hbl2
            clear hh
            simp only [Option.isSome_none]
            go_wp2_with fail
            refine bodyPost_ret (v := .tuple #[.agg #[.slice none 0 0, .slice none 0 0], .agg #[.int .i64 2, .int .i64 k]]) (by simp [results, Tryd.results10, go_sem, r0, r1, r2, r3]) rfl ⟨none, 0, 0, none, 0, 0, by rw [E.out.1, E.out.2.1], by rw [E.out.2.2]; exact PIn.bare _ _ _, ⟨by rw [E.out.2.2]; exact ⟨rfl, Or.inl rfl⟩, by omega⟩, ⟨by rw [E.out.2.2]; exact ⟨rfl, Or.inl rfl⟩, by omega⟩, (((hBW.setCell (Nat.le_refl _) _).setCell (Nat.le_refl _) _).setCell (Nat.le_succ _) _).setCell (Nat.le_succ _) _⟩
          | some x =>
            have R : Hid (Reads l b (k + 1) ⟨p.costs, p.rows ++ [x]⟩) := Eq.trans HRD.out (by rw [HMO.out, if_neg hk0, hh])
            have HP3 : Hid (PA (w.heap.size + 1 + 1 + 1) (w.heap.size + 1 + 1) w2 (Num.capL ⟨p.costs, p.rows ++ [x]⟩)) := by
              obtain ⟨e1, e2⟩ := HTO.out x hh
              have := HP2.out
              rw [← e1, ← e2, ← cap_push] at this
              exact this
            clear hh
            simp only [Option.isSome_some]
            go_wp2_with fail
            go_roundw
            case rel => exact ⟨b, k + 1, ⟨p.costs, p.rows ++ [x]⟩, rfl, by rw [hk1]; simp, by have := HLE.out; omega, R.out, HP3.out, hbl2⟩
            case measure => show (B8 b).size < S.size; rw [B8_size, HSS.out]; omega

theorem parseT_any (l : List UInt8) (hl : l.length < 4294967280) (w : World) (hL : Laid w) :
    Calls Tryd.prog 10 #[.string (B8 l)] w fun e w' => ∃ ca cl cc ra rl rc, e = .returned (.tuple #[.agg #[.slice ca cl cc, .slice ra rl rc], .agg #[.int .i64 (codeR l), .int .i64 (atR l)]]) ∧
      (Ints w' ca cl (progR l).costs ∧ cl ≤ 2000001) ∧ (RowsAt w' ra rl (progR l).rows ∧ rl ≤ 5) ∧ Below w.heap.size w w' :=
  (parseT_in l hl w hL).mono fun _ _ ⟨ca, cl, cc, ra, rl, rc, h1, _, h3⟩ => ⟨ca, cl, cc, ra, rl, rc, h1, h3⟩

end Go.Proofs.YtipcbhodlgoflabDoor
