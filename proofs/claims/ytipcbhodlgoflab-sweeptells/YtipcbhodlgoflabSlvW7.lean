/- What solve.Solve does. -/
import Derived.Test.YtipcbhodlgoflabSlvW6
import Derived.Test.YtipcbhodlgoflabSwpLL
import Derived.Test.YtipcbhodlgoflabSlvE
namespace Go.Proofs.Ytipcbhodlgoflab
open Go.RowKit Go.Shelf

attribute [local go_sem] Oper.semAt_some

theorem wide_callR {n k l : Nat} {P : Program} {f : FuncId} {args : Array Value} {w : World} {R : Ending → World → Prop} (h : Calls P f args w R) : (Fence.wide.inRound l).fn f ∧ ((Fence.wide.inRound l).depth.isSome = true → 1 ≤ n) ∧ CallsIn (Fence.wide.inRound l) k P f args w R :=
  ⟨trivial, fun h => (by cases h), CallsIn.inRound l (callsIn_wide.2 h)⟩

theorem cell_putObj {W : World} {a : Addr} {v : Value} {l : Nat} {r : Loop} (o : Obj) (hl : W.heap[l]? = some (.loop r)) (h : W.cell? a = some v) : (W.putObj l o).cell? a = some v :=
  cell_kept h (grownBy_putObj' W l o) (fun k e => by cases e; exact ⟨_, hl, rfl⟩)

theorem Ints.putObj {W : World} {a : Option Addr} {n l : Nat} {x : List Int} {r : Loop} (o : Obj) (hl : W.heap[l]? = some (.loop r)) (h : Ints W a n x) : Ints (W.putObj l o) a n x := by
  obtain ⟨h1, h2⟩ := h
  refine ⟨h1, ?_⟩
  rcases h2 with h2 | ⟨b, off, ha, hs, hc⟩
  · exact Or.inl h2
  · exact Or.inr ⟨b, off, ha, by simpa using hs, fun j hj => cell_putObj o hl (hc j hj)⟩

theorem below_putObj {B : Nat} {w W : World} {l : Nat} (o : Obj) (h : Below B w W) (hB : B ≤ W.heap.size) (hl : B ≤ l) : Below B w (W.putObj l o) :=
  h.grown (grownBy_putObj' W l o) hB (fun k e => by cases e; exact hl)

set_option maxHeartbeats 400000 in
theorem corners_any (ca : Option Addr) (cl cc : Nat) (ra : Option Addr) (rl rc : Nat) (w : World) :
    Calls Try.prog 72 #[.agg #[.slice ca cl cc, .slice ra rl rc]] w fun e w' => e = .returned (.func (.func 84) #[] #[.pointer (some ⟨w.heap.size, 0, none⟩)]) ∧ w' = w.alloc (.cells #[.slice ca cl cc, .slice ra rl rc] 25) := by
  have hmf : ∀ (fn : Fn) (first cap : Array Value) (w : World), (Instr.makeFunc fn first cap).run Try.prog w = .ok (.func fn first cap) w := fun _ _ _ _ => rfl
  go_enter Try.func72, Try.ntmps72
  go_wp2_with fail
  go_ret
  exact ⟨rfl, rfl⟩

theorem cell9_other {w : World} {b : Nat} (u0 u1 u2 u3 u4 u5 u6 u7 u8 : Value) {p : Addr} {v : Value} (hp : p.block ≠ b) (h : w.cell? p = some v) : (((((((((w.setCell ⟨b, 0, none⟩ u0).setCell ⟨b, 1, none⟩ u1).setCell ⟨b, 2, none⟩ u2).setCell ⟨b, 3, none⟩ u3).setCell ⟨b, 4, none⟩ u4).setCell ⟨b, 5, none⟩ u5).setCell ⟨b, 6, none⟩ u6).setCell ⟨b, 7, none⟩ u7).setCell ⟨b, 8, none⟩ u8).cell? p = some v := by
  have ot : ∀ (W : World) (j : Nat) (u : Value), (W.setCell ⟨b, j, none⟩ u).cell? p = W.cell? p := fun W j u => World.cell?_setCell_other _ _ _ _ (by intro e; exact hp (by rw [← e]))
  rw [ot, ot, ot, ot, ot, ot, ot, ot, ot]
  exact h

/-- Where a round has left: the answer lies in its box. -/
def Left (p : Num.Lp) (w : World) (B : World) : Prop :=
  ∃ a xa xl xc ya yl yc za zl zc, Box9 (w.heap.size + 1) (.int .i64 a.kind) (.slice xa xl xc) (.int .i64 a.xd) (.slice ya yl yc) (.int .i64 a.yd) (.slice za zl zc) (.int .i64 a.rd) (.int .i64 a.wn) (.int .i64 a.wd) B ∧ B.cell? ⟨w.heap.size + 1 + 1, 0, none⟩ = some (.int .i64 0) ∧ AnsAt (w.heap.size + 1 + 1 + 1) B a xa xl ya yl za zl ∧ Num.holds p a = true ∧ Below w.heap.size w B

theorem AnsAt.set10 {B b : Nat} {w : World} {a : Num.Ans} {xa : Option Addr} {xl : Nat} {ya : Option Addr} {yl : Nat} {za : Option Addr} {zl : Nat} (h : AnsAt B w a xa xl ya yl za zl) (hb : b + 1 + 1 ≤ B) (u0 u1 u2 u3 u4 u5 u6 u7 u8 u : Value) :
    AnsAt B ((((((((((w.setCell ⟨b, 0, none⟩ u0).setCell ⟨b, 1, none⟩ u1).setCell ⟨b, 2, none⟩ u2).setCell ⟨b, 3, none⟩ u3).setCell ⟨b, 4, none⟩ u4).setCell ⟨b, 5, none⟩ u5).setCell ⟨b, 6, none⟩ u6).setCell ⟨b, 7, none⟩ u7).setCell ⟨b, 8, none⟩ u8).setCell ⟨b + 1, 0, none⟩ u) a xa xl ya yl za zl :=
  ⟨Ints.set (base := b + 1 + 1) (Ints.set9 h.x (far_up h.xf (by omega)) _ _ _ _ _ _ _ _ _) (far_up h.xf (by omega)) (Nat.lt_succ_self _) u,
   Ints.set (base := b + 1 + 1) (Ints.set9 h.y (far_up h.yf (by omega)) _ _ _ _ _ _ _ _ _) (far_up h.yf (by omega)) (Nat.lt_succ_self _) u,
   Ints.set (base := b + 1 + 1) (Ints.set9 h.r (far_up h.zf (by omega)) _ _ _ _ _ _ _ _ _) (far_up h.zf (by omega)) (Nat.lt_succ_self _) u, h.x8, h.y8, h.z8, h.xf, h.yf, h.zf⟩

theorem AnsAt.lower {B B' : Nat} {w : World} {a : Num.Ans} {xa : Option Addr} {xl : Nat} {ya : Option Addr} {yl : Nat} {za : Option Addr} {zl : Nat} (h : AnsAt B w a xa xl ya yl za zl) (hb : B' ≤ B) : AnsAt B' w a xa xl ya yl za zl :=
  ⟨h.x, h.y, h.r, h.x8, h.y8, h.z8, far_up h.xf hb, far_up h.yf hb, far_up h.zf hb⟩

theorem Box9.kept {b : Nat} {v0 v1 v2 v3 v4 v5 v6 v7 v8 : Value} {w w' : World} (h : Box9 b v0 v1 v2 v3 v4 v5 v6 v7 v8 w) (he : w'.heap[b]? = w.heap[b]?) : Box9 b v0 v1 v2 v3 v4 v5 v6 v7 v8 w' :=
  have hc : ∀ i, w'.cell? ⟨b, i, none⟩ = w.cell? ⟨b, i, none⟩ := fun i => World.cell?_of_block (a := ⟨b, i, none⟩) he
  ⟨(hc 0).trans h.c0, (hc 1).trans h.c1, (hc 2).trans h.c2, (hc 3).trans h.c3, (hc 4).trans h.c4, (hc 5).trans h.c5, (hc 6).trans h.c6, (hc 7).trans h.c7, (hc 8).trans h.c8, fun i => (World.frozen?_of_block (a := ⟨b, i, none⟩) he).trans (h.fz i)⟩

theorem Left.intro {p : Num.Lp} {w B : World} {v0 v1 v2 v3 v4 v5 v6 v7 v8 : Value} (hN : Box9 (w.heap.size + 1) v0 v1 v2 v3 v4 v5 v6 v7 v8 B) (hz : ∃ u, B.cell? ⟨w.heap.size + 1 + 1, 0, none⟩ = some u) (hB : Below w.heap.size w B) {a : Num.Ans} {xa : Option Addr} {xl : Nat} {ya : Option Addr} {yl : Nat} {za : Option Addr} {zl : Nat} (xc yc zc : Nat) (hA : AnsAt (w.heap.size + 1 + 1 + 1) B a xa xl ya yl za zl) (hh : Num.holds p a = true) :
    Left p w ((((((((((B.setCell ⟨w.heap.size + 1, 0, none⟩ (.int .i64 a.kind)).setCell ⟨w.heap.size + 1, 1, none⟩ (.slice xa xl xc)).setCell ⟨w.heap.size + 1, 2, none⟩ (.int .i64 a.xd)).setCell ⟨w.heap.size + 1, 3, none⟩ (.slice ya yl yc)).setCell ⟨w.heap.size + 1, 4, none⟩ (.int .i64 a.yd)).setCell ⟨w.heap.size + 1, 5, none⟩ (.slice za zl zc)).setCell ⟨w.heap.size + 1, 6, none⟩ (.int .i64 a.rd)).setCell ⟨w.heap.size + 1, 7, none⟩ (.int .i64 a.wn)).setCell ⟨w.heap.size + 1, 8, none⟩ (.int .i64 a.wd)).setCell ⟨w.heap.size + 1 + 1, 0, none⟩ (.int .i64 0)) := by
  obtain ⟨u, hu⟩ := hz
  refine ⟨a, xa, xl, xc, ya, yl, yc, za, zl, zc, (Box9.set hN _ _ _ _ _ _ _ _ _ _ rfl).kept (Below.heap_setCell _ _ _ _ (by show w.heap.size + 1 ≠ w.heap.size + 1 + 1; omega)), ?_, hA.set10 (by omega) _ _ _ _ _ _ _ _ _ _, hh, bset (bset9 hB (by omega) _ _ _ _ _ _ _ _ _) (by omega) _⟩
  exact cell_set_eq (cell9_other _ _ _ _ _ _ _ _ _ (by show w.heap.size + 1 + 1 ≠ w.heap.size + 1; omega) hu)

theorem Left.below {p : Num.Lp} {w B B' : World} (h : Left p w B) (hb : Below B.heap.size B B') : Left p w B' := by
  obtain ⟨a, xa, xl, xc, ya, yl, yc, za, zl, zc, h1, h2, h3, h4, h5⟩ := h
  exact ⟨a, xa, xl, xc, ya, yl, yc, za, zl, zc, h1.step hb, carry hb h2, ⟨h3.x.below hb (Nat.le_refl _), h3.y.below hb (Nat.le_refl _), h3.r.below hb (Nat.le_refl _), h3.x8, h3.y8, h3.z8, h3.xf, h3.yf, h3.zf⟩, h4, bstep h5 hb⟩

theorem Left.put {p : Num.Lp} {w B : World} (h : Left p w B) (l : Nat) (o o' : Obj) (hl : B.heap[l]? = some o') (ho : o'.isCells = false) (hle : w.heap.size + 1 + 1 < l) : Left p w (B.putObj l o) := by
  obtain ⟨a, xa, xl, xc, ya, yl, yc, za, zl, zc, h1, h2, h3, h4, h5⟩ := h
  have hI : ∀ {q : Option Addr} {n : Nat} {x : List Int}, Ints B q n x → Ints (B.putObj l o) q n x := by
    rintro q n x ⟨k1, k2⟩
    refine ⟨k1, ?_⟩
    rcases k2 with k2 | ⟨b, off, ha, hs, hc⟩
    · exact Or.inl k2
    · exact Or.inr ⟨b, off, ha, by simpa using hs, fun j hj => cell_kept (hc j hj) (grownBy_putObj' B l o) (fun k e => by cases e; exact ⟨_, hl, ho⟩)⟩
  refine ⟨a, xa, xl, xc, ya, yl, yc, za, zl, zc, h1.kept (World.putObj_heap_other (by omega)), ?_, ⟨hI h3.x, hI h3.y, hI h3.r, h3.x8, h3.y8, h3.z8, h3.xf, h3.yf, h3.zf⟩, h4, below_putObj o h5 h5.size (by omega)⟩
  rw [World.cell?_of_block (a := ⟨w.heap.size + 1 + 1, 0, none⟩) (World.putObj_heap_other (by show w.heap.size + 1 + 1 ≠ l; omega))]
  exact h2

end Go.Proofs.Ytipcbhodlgoflab
