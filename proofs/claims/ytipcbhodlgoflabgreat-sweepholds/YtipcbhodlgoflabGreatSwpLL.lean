/- A range over a function whose rounds are handed memory: what is handed to a round lies in the world in which it begins; the last round is the one that returns. -/
import Derived.RangeFuncNested
import Derived.RangeFuncBound
import Derived.RangeFuncCalls
import Derived.RangeFuncLeaves
import Derived.Test.YtipcbhodlgoflabGreatNum
namespace Go.Proofs.YtipcbhodlgoflabGreat
open Go.RowKit

/-- How the body of a round may be left: it goes on, and all lies as it lay; or it returns, what lay from B on lying as it lay. -/
def leftPost (T : Prop) (Z : World → Prop) (B : Nat) (W : World) : Exit → Act → World → Prop
  | .normal, _, W' => T ∧ Below W.heap.size W W'
  | .ret, _, W' => Z W' ∧ ∀ k, B ≤ k → k < W.heap.size → W'.heap[k]? = W.heap[k]?
  | _, _, _ => False

theorem range_law {P : Program} {n : Nat} {g : Operand} {ps : Array Tmp} {assign body : Code} {Q : Exit → Act → World → Prop} {a : Act} {w : World} {gf : Nat} {lb : Array Value}
    (hg : a.eval g = .func (.func gf) #[] lb) (eg : ∀ args w, (callFunc gf args).run P w = .ok (.enter gf args) w)
    (S0 : Nat) (T : Nat → Prop) (Skip : Nat → Prop) (Z : World → Prop) (Val : Nat → World → Array Value → Prop)
    (hsz : ∀ s W vs, Val s W vs → vs.size = ps.size) (hT : ∀ s, T (s + 1) → Skip s → T s) (h0 : T S0) (hT0 : ¬ T 0)
    (hZ : ∀ W l o r, w.heap.size ≤ l → W.heap[l]? = some (.loop r) → Z W → Z (W.putObj l o))
    (hiter : ∀ (l : Nat) (J : Nat → World → Prop) (Jx : World → Prop) (W : World), Below w.heap.size w W → (∀ s A B, J s A → Below A.heap.size A B → J s B) → (∀ s A, J (s + 1) A → Skip s → J s A) →
      (∀ s A vs, J (s + 1) A → Below W.heap.size W A → Val s A vs → YieldAt Fence.wide (n - 1 - 1) P l vs A fun e B => (e = .returned (.bool true) ∧ J s B ∧ Below A.heap.size A B) ∨ (e = .returned (.bool false) ∧ Jx B)) →
      J S0 W → CallsIn Fence.wide (n - 1) P gf (#[.func (.yield l) #[] #[]] ++ lb) W fun e B => (∃ v, e = .returned v) ∧ (J 0 B ∨ Jx B))
    (hround : ∀ s A vs, T (s + 1) → Val s A vs → Below w.heap.size w A → (∃ r, A.heap[w.heap.size + 1]? = some (.loop r)) → assign.wpIn (Fence.wide.inRound (w.heap.size + 1)) (n - 1 - 1) P
      (Exit.then (fun a₁ A1 => Below A.heap.size A A1 ∧ ∀ o, body.wpIn (Fence.wide.inRound (w.heap.size + 1)) (n - 1 - 1) P (leftPost (T s) Z w.heap.size (A1.putObj (w.heap.size + 1) o)) a₁ (A1.putObj (w.heap.size + 1) o)) (fun _ _ _ => False))
      { tmps := (ps.zip vs).foldl (fun t (p, v) => t.setIfInBounds p v) a.tmps, defers := [] } A)
    (hstop : ∀ B, Z B → B.heap[w.heap.size]? = some (.deferred (some [])) → Code.ret.wpIn Fence.wide n P Q { a with defers := { target := .collected w.heap.size, args := #[] } :: a.defers } B) :
    (Code.rangeFunc g ps assign body).wpIn Fence.wide n P Q a w := by
  refine wpIn_rangeFunc ?_
  intro fn hfn
  rw [show Fence.wide.round = none from rfl]
  obtain ⟨rec, hrec⟩ : ∃ rec : LoopState → Option Code → Loop, rec = fun st pe => { state := st, pending := pe, fn, tmps := a.tmps, params := ps, assign, body, defers := w.heap.size } := ⟨_, rfl⟩
  obtain ⟨W1, hW1⟩ : ∃ W1, (w.alloc (.deferred (some []))).alloc (.loop (rec .ready none)) = W1 := ⟨_, rfl⟩
  have hL1 : W1.heap[w.heap.size + 1]? = some (.loop (rec .ready none)) := by
    rw [← hW1]; have := World.alloc_heap_new (w.alloc (.deferred (some []))) (.loop (rec .ready none)); rwa [World.size_alloc] at this
  have hK1 : W1.heap[w.heap.size]? = some (.deferred (some [])) := by
    rw [← hW1]; exact (Below.heap_alloc _ _ _ (by simp)).trans (World.alloc_heap_new w _)
  have hb1 : Below w.heap.size w W1 := by
    rw [← hW1]; exact ((Below.refl _ w).alloc (Nat.le_refl _) _).alloc (by simp) _
  refine ⟨w.heap.size + 1, [{ target := .collected w.heap.size, args := #[] }], W1, { target := .fn (.func gf) lb, args := #[.func (.yield (w.heap.size + 1)) #[] #[]] }, W1, gf,
    #[.func (.yield (w.heap.size + 1)) #[] #[]] ++ lb, W1, ?_, ?_, ?_, ?_, fun h => (by cases h), ?_⟩
  · rw [← hW1, hrec]; exact run_enterLoop_outer _ _ _ _ _
  · simp only [resolve, hg]
    simp [go_sem]
  · intro f' hf'; trivial
  · simp [invoke, go_sem, eg]
  · refine (hiter (w.heap.size + 1)
      (fun s A => T s ∧ Below w.heap.size w A ∧ A.heap[w.heap.size + 1]? = some (.loop (rec .ready none)) ∧ A.heap[w.heap.size]? = some (.deferred (some [])))
      (fun B => Z B ∧ B.heap[w.heap.size + 1]? = some (.loop (rec .done (some .ret))) ∧ B.heap[w.heap.size]? = some (.deferred (some [])))
      W1 hb1 (fun s A B h hb => ⟨h.1, h.2.1.trans (hb.mono h.2.1.size), (hb.block _ (Array.getElem?_eq_some_iff.1 h.2.2.1).1).trans h.2.2.1, (hb.block _ (Array.getElem?_eq_some_iff.1 h.2.2.2).1).trans h.2.2.2⟩)
      (fun s A h hs => ⟨hT s h.1 hs, h.2⟩) ?_ ⟨h0, hb1, hL1, hK1⟩).mono ?_
    · rintro s A vs ⟨hTs, hbA, hl, hk⟩ _ hval
      have hlt : w.heap.size + 1 < A.heap.size := (Array.getElem?_eq_some_iff.1 hl).1
      have hy := run_yield (P := P) (args := vs) hl (by rw [hrec]; exact hsz s A vs hval)
      rw [hrec] at hy
      refine ⟨fn, _, assign, body, hy, roundIn_of_wpIn hfn (wpIn_mono (hround s A vs hTs hval hbA ⟨_, hl⟩) ?_)⟩
      intro e a₁ A1 hq
      cases e with
      | normal =>
        obtain ⟨hb2, hbody⟩ := hq
        have hl1 := (hb2.block _ hlt).trans hl
        have hk1 := (hb2.block w.heap.size (by omega)).trans hk
        have hlt1 : w.heap.size + 1 < A1.heap.size := (Array.getElem?_eq_some_iff.1 hl1).1
        refine ⟨_, run_beginRound hl1 (by rw [hrec]), ?_⟩
        refine wpIn_mono (hbody _) ?_
        intro e a₂ A3 hp
        generalize hA2 : A1.putObj (w.heap.size + 1) (.loop { rec .ready none with state := .busy }) = A2 at *
        have hl2 : A2.heap[w.heap.size + 1]? = some (.loop { rec .ready none with state := .busy }) := by rw [← hA2]; exact World.putObj_heap_same hlt1
        have hk2 : A2.heap[w.heap.size]? = some (.deferred (some [])) := by rw [← hA2]; exact (World.putObj_heap_other (by omega)).trans hk1
        have ho2 : ∀ k, k ≠ w.heap.size + 1 → A2.heap[k]? = A1.heap[k]? := fun k hk => by rw [← hA2]; exact World.putObj_heap_other hk
        have hs2 : A2.heap.size = A1.heap.size := by rw [← hA2]; simp
        have hg2 : A1.grownBy A2 (some (w.heap.size + 1)) := by rw [← hA2]; exact grownBy_putObj' _ _ _
        cases e with
        | normal =>
          obtain ⟨hTn, hb3⟩ := hp
          have hl3 := (hb3.block _ (by rw [hs2]; omega)).trans hl2
          have hk3 := (hb3.block w.heap.size (by rw [hs2]; omega)).trans hk2
          have hend := run_endRound (P := P) none hl3
          refine ⟨_, _, hend, .inl ⟨rfl, ⟨hTn, ?_, ?_, ?_⟩, ?_⟩⟩
          · have h1 : Below w.heap.size w A2 := (hbA.trans (hb2.mono hbA.size)).grown hg2 (by have := hbA.size; have := hb2.size; omega) (fun k e => by cases e; omega)
            have h2 : Below w.heap.size w A3 := h1.trans (hb3.mono h1.size)
            exact h2.grown (grownBy_putObj' _ _ _) h2.size (fun k e => by cases e; omega)
          · rw [World.putObj_heap_same (Array.getElem?_eq_some_iff.1 hl3).1, hrec]; rfl
          · exact (World.putObj_heap_other (by omega)).trans hk3
          · refine ⟨?_, ?_, ?_, ?_, fun k hkA => ?_⟩
            · show A3.os = A.os; rw [hb3.os, hg2.os, hb2.os]
            · show A3.tape = A.tape; rw [hb3.tape, hg2.tape, hb2.tape]
            · show A3.output = A.output; rw [hb3.output, hg2.output, hb2.output]
            · have h1 := hb3.size; have h2 := hb2.size; simp; omega
            · by_cases hke : k = w.heap.size + 1
              · subst hke
                rw [World.putObj_heap_same (Array.getElem?_eq_some_iff.1 hl3).1, hl, hrec]; rfl
              · rw [World.putObj_heap_other hke, hb3.block k (by rw [hs2]; have := hb2.size; omega), ho2 k hke, hb2.block k hkA]
        | ret =>
          obtain ⟨hZ3, hkeep⟩ := hp
          have hl3 := (hkeep (w.heap.size + 1) (by omega) (by rw [hs2]; omega)).trans hl2
          have hk3 := (hkeep w.heap.size (Nat.le_refl _) (by rw [hs2]; omega)).trans hk2
          have hend := run_endRound (P := P) (some .ret) hl3
          refine ⟨_, _, hend, .inr ⟨rfl, hZ _ _ _ _ (by omega) hl3 hZ3, ?_, ?_⟩⟩
          · rw [World.putObj_heap_same (Array.getElem?_eq_some_iff.1 hl3).1, hrec]; rfl
          · exact (World.putObj_heap_other (by omega)).trans hk3
        | exit id => exact hp.elim
        | goto t => exact hp.elim
        | panic ch => exact hp.elim
        | outgrown => exact hp.elim
      | ret => exact hq.elim
      | exit id => exact hq.elim
      | goto t => exact hq.elim
      | panic ch => exact hq.elim
      | outgrown => exact hq.elim
    · rintro e W2 ⟨⟨v, rfl⟩, (⟨hTn, _⟩ | ⟨hz, hl, hk⟩)⟩
      · exact absurd hTn hT0
      · exact ⟨some .ret, _, by have := run_endLoop (P := P) hl (by rw [hrec]; simp); rw [hrec] at this; exact this, hstop _ (hZ _ _ _ _ (by omega) hl hz) ((World.putObj_heap_other (by omega)).trans hk)⟩

end Go.Proofs.YtipcbhodlgoflabGreat

/- A range over a function that goes on to its end: each round may write what is the caller's. -/
namespace Go.Proofs.YtipcbhodlgoflabGreat
open Go.RowKit

/-- How the body of a round is left: it goes on; the two blocks of the loop lie as they lay. -/
def allPost (K : World → Prop) (B : Nat) (W : World) : Exit → Act → World → Prop
  | .normal, _, W' => K W' ∧ W'.heap[B]? = W.heap[B]? ∧ W'.heap[B + 1]? = W.heap[B + 1]?
  | _, _, _ => False

theorem range_all {P : Program} {n : Nat} {g : Operand} {ps : Array Tmp} {assign body : Code} {Q : Exit → Act → World → Prop} {a : Act} {w : World} {gf : Nat} {lb : Array Value}
    (hg : a.eval g = .func (.func gf) #[] lb) (eg : ∀ args w, (callFunc gf args).run P w = .ok (.enter gf args) w)
    (S0 : Nat) (K : Nat → World → Prop) (Skip : Nat → Prop) (Val : Nat → World → Array Value → Prop)
    (hsz : ∀ s W vs, Val s W vs → vs.size = ps.size)
    (hKb : ∀ s A B, K s A → Below A.heap.size A B → K s B) (hKs : ∀ s A, K (s + 1) A → Skip s → K s A)
    (hKl : ∀ s A l o r, w.heap.size ≤ l → A.heap[l]? = some (.loop r) → K s A → K s (A.putObj l o))
    (h0 : K S0 w)
    (hiter : ∀ (l : Nat) (J : Nat → World → Prop) (Jx : World → Prop) (W : World), (∀ s A, J s A → K s A) → (∀ s A B, J s A → Below A.heap.size A B → J s B) → (∀ s A, J (s + 1) A → Skip s → J s A) →
      (∀ s A vs, J (s + 1) A → Val s A vs → YieldAt Fence.wide (n - 1 - 1) P l vs A fun e B => (e = .returned (.bool true) ∧ J s B) ∨ (e = .returned (.bool false) ∧ Jx B)) →
      J S0 W → CallsIn Fence.wide (n - 1) P gf (#[.func (.yield l) #[] #[]] ++ lb) W fun e B => (∃ v, e = .returned v) ∧ (J 0 B ∨ Jx B))
    (hround : ∀ s A vs, K (s + 1) A → Val s A vs → (∃ r, A.heap[w.heap.size + 1]? = some (.loop r)) → w.heap.size + 1 < A.heap.size → assign.wpIn (Fence.wide.inRound (w.heap.size + 1)) (n - 1 - 1) P
      (Exit.then (fun a₁ A1 => Below A.heap.size A A1 ∧ ∀ o, body.wpIn (Fence.wide.inRound (w.heap.size + 1)) (n - 1 - 1) P (allPost (K s) w.heap.size (A1.putObj (w.heap.size + 1) o)) a₁ (A1.putObj (w.heap.size + 1) o)) (fun _ _ _ => False))
      { tmps := (ps.zip vs).foldl (fun t (p, v) => t.setIfInBounds p v) a.tmps, defers := [] } A)
    (hdone : ∀ B, K 0 B → B.heap[w.heap.size]? = some (.deferred (some [])) → Q .normal { a with defers := { target := .collected w.heap.size, args := #[] } :: a.defers } B) :
    (Code.rangeFunc g ps assign body).wpIn Fence.wide n P Q a w := by
  refine wpIn_rangeFunc ?_
  intro fn hfn
  rw [show Fence.wide.round = none from rfl]
  obtain ⟨rec, hrec⟩ : ∃ rec : LoopState → Option Code → Loop, rec = fun st pe => { state := st, pending := pe, fn, tmps := a.tmps, params := ps, assign, body, defers := w.heap.size } := ⟨_, rfl⟩
  obtain ⟨W1, hW1⟩ : ∃ W1, (w.alloc (.deferred (some []))).alloc (.loop (rec .ready none)) = W1 := ⟨_, rfl⟩
  have hL1 : W1.heap[w.heap.size + 1]? = some (.loop (rec .ready none)) := by
    rw [← hW1]; have := World.alloc_heap_new (w.alloc (.deferred (some []))) (.loop (rec .ready none)); rwa [World.size_alloc] at this
  have hK1 : W1.heap[w.heap.size]? = some (.deferred (some [])) := by
    rw [← hW1]; exact (Below.heap_alloc _ _ _ (by simp)).trans (World.alloc_heap_new w _)
  have hb1 : Below w.heap.size w W1 := by
    rw [← hW1]; exact ((Below.refl _ w).alloc (Nat.le_refl _) _).alloc (by simp) _
  refine ⟨w.heap.size + 1, [{ target := .collected w.heap.size, args := #[] }], W1, { target := .fn (.func gf) lb, args := #[.func (.yield (w.heap.size + 1)) #[] #[]] }, W1, gf,
    #[.func (.yield (w.heap.size + 1)) #[] #[]] ++ lb, W1, ?_, ?_, ?_, ?_, fun h => (by cases h), ?_⟩
  · rw [← hW1, hrec]; exact run_enterLoop_outer _ _ _ _ _
  · simp only [resolve, hg]
    simp [go_sem]
  · intro f' hf'; trivial
  · simp [invoke, go_sem, eg]
  · refine (hiter (w.heap.size + 1)
      (fun s A => K s A ∧ A.heap[w.heap.size + 1]? = some (.loop (rec .ready none)) ∧ A.heap[w.heap.size]? = some (.deferred (some [])))
      (fun _ => False)
      W1 (fun s A h => h.1) (fun s A B h hb => ⟨hKb s A B h.1 hb, (hb.block _ (Array.getElem?_eq_some_iff.1 h.2.1).1).trans h.2.1, (hb.block _ (Array.getElem?_eq_some_iff.1 h.2.2).1).trans h.2.2⟩)
      (fun s A h hs => ⟨hKs s A h.1 hs, h.2⟩) ?_ ⟨hKb _ _ _ h0 hb1, hL1, hK1⟩).mono ?_
    · rintro s A vs ⟨hKA, hl, hk⟩ hval
      have hlt : w.heap.size + 1 < A.heap.size := (Array.getElem?_eq_some_iff.1 hl).1
      have hy := run_yield (P := P) (args := vs) hl (by rw [hrec]; exact hsz s A vs hval)
      rw [hrec] at hy
      refine ⟨fn, _, assign, body, hy, roundIn_of_wpIn hfn (wpIn_mono (hround s A vs hKA hval ⟨_, hl⟩ hlt) ?_)⟩
      intro e a₁ A1 hq
      cases e with
      | normal =>
        obtain ⟨hb2, hbody⟩ := hq
        have hl1 := (hb2.block _ hlt).trans hl
        have hk1 := (hb2.block w.heap.size (by omega)).trans hk
        have hlt1 : w.heap.size + 1 < A1.heap.size := (Array.getElem?_eq_some_iff.1 hl1).1
        refine ⟨_, run_beginRound hl1 (by rw [hrec]), ?_⟩
        refine wpIn_mono (hbody _) ?_
        intro e a₂ A3 hp
        generalize hA2 : A1.putObj (w.heap.size + 1) (.loop { rec .ready none with state := .busy }) = A2 at *
        have hl2 : A2.heap[w.heap.size + 1]? = some (.loop { rec .ready none with state := .busy }) := by rw [← hA2]; exact World.putObj_heap_same hlt1
        have hk2 : A2.heap[w.heap.size]? = some (.deferred (some [])) := by rw [← hA2]; exact (World.putObj_heap_other (by omega)).trans hk1
        cases e with
        | normal =>
          obtain ⟨hKn, hk3, hl3⟩ := hp
          rw [hk2] at hk3
          rw [hl2] at hl3
          have hend := run_endRound (P := P) none hl3
          refine ⟨_, _, hend, .inl ⟨rfl, hKl _ _ _ _ _ (by omega) hl3 hKn, ?_, ?_⟩⟩
          · rw [World.putObj_heap_same (Array.getElem?_eq_some_iff.1 hl3).1, hrec]; rfl
          · exact (World.putObj_heap_other (by omega)).trans hk3
        | ret => exact hp.elim
        | exit id => exact hp.elim
        | goto t => exact hp.elim
        | panic ch => exact hp.elim
        | outgrown => exact hp.elim
      | ret => exact hq.elim
      | exit id => exact hq.elim
      | goto t => exact hq.elim
      | panic ch => exact hq.elim
      | outgrown => exact hq.elim
    · rintro e W2 ⟨⟨v, rfl⟩, (⟨hKn, hl, hk⟩ | hz)⟩
      · exact ⟨none, _, by have := run_endLoop (P := P) hl (by rw [hrec]; simp); rw [hrec] at this; exact this, hdone _ (hKl _ _ _ _ _ (by omega) hl hKn) ((World.putObj_heap_other (by omega)).trans hk)⟩
      · exact hz.elim

end Go.Proofs.YtipcbhodlgoflabGreat
