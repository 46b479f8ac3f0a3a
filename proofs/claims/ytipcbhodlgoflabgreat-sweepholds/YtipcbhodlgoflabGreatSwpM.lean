/- The map of lines: what lies in it, a look into it, a store. -/
import Derived.DeepKeys4
import Derived.Maps.RangeRun
import Derived.Test.YtipcbhodlgoflabGreatPlnB
import Derived.Test.YtipcbhodlgoflabGreatBxs
namespace Go.Proofs.YtipcbhodlgoflabGreat
open Go.RowKit Go.WideMaps
open Go.ChangeMaps (setBlock)

def Num.PcOk (x : Num.Pc) : Prop := (-1073741824 ≤ x.f.n ∧ x.f.n ≤ 1073741824) ∧ (-1073741824 ≤ x.f.d ∧ x.f.d ≤ 1073741824) ∧ (-1073741824 ≤ x.t.n ∧ x.t.n ≤ 1073741824) ∧ (-1073741824 ≤ x.t.d ∧ x.t.d ≤ 1073741824) ∧ (-1073741824 ≤ x.bn ∧ x.bn ≤ 1073741824) ∧ (-1073741824 ≤ x.bd ∧ x.bd ≤ 1073741824) ∧ (-1073741824 ≤ x.sn ∧ x.sn ≤ 1073741824) ∧ (-1073741824 ≤ x.sd ∧ x.sd ≤ 1073741824)

def lineV (x : Num.Pc) : Value := .agg #[.int .i64 x.bn, .int .i64 x.bd, .int .i64 x.sn, .int .i64 x.sd]
def strV (x : Num.Pc) : Value := .agg #[.bool x.f.o, .int .i64 x.f.n, .int .i64 x.f.d, .bool x.t.o, .int .i64 x.t.n, .int .i64 x.t.d]

theorem lineV_eq {x y : Num.Pc} : lineV x = lineV y ↔ Num.sameL x y := by
  unfold lineV Num.sameL
  constructor
  · intro h
    injection h with h
    have := congrArg Array.toList h
    simp at this
    exact this
  · rintro ⟨h1, h2, h3, h4⟩
    rw [h1, h2, h3, h4]

theorem Tryz.laidOut : laidOutB Tryz.prog = true := by kernel_rfl
theorem rowLine : (72 : TypeId) < Tryz.prog.types.size := of_decide_eq_true (by kernel_rfl)
theorem sizeTypes : 2 ≤ Tryz.prog.types.size := of_decide_eq_true (by kernel_rfl)
theorem lawLine : KeyLaw Tryz.prog 72 := deep_law_laid Tryz.laidOut (m := 3) (by omega) rowLine (by kernel_rfl) (by rw [Tryz.underlying72])
theorem cellsLine : Tryz.prog.cellsOf 72 = 4 := by kernel_rfl
theorem cellsFr8 : Tryz.prog.cellsOf 36 = 2 := by kernel_rfl
theorem cellsI64 : Tryz.prog.cellsOf 2 = 1 := by kernel_rfl
theorem keyTLine : Tryz.prog.keyType 72 = true := by kernel_rfl

theorem keyLits_struct {P : Program} {d : Nat} {t : TypeId} {fs : Array Field} {cs : List Value} (h : P.underlying t = some (.struct fs)) (hl : cs.length = P.cellsOf t ∧ fs.all (·.name != "_") = true) :
    P.keyLits (d + 1) t cs = (fs.toList.mapM fun f => P.keyLits d f.type ((cs.drop f.offset).take (P.cellsOf f.type))).map List.flatten := by
  generalize hR : (fs.toList.mapM fun f => P.keyLits d f.type ((cs.drop f.offset).take (P.cellsOf f.type))).map List.flatten = R
  unfold Program.keyLits
  rw [h]
  simp only [hl, and_self, if_true]
  exact hR

theorem line_key (x : Num.Pc) (hx : Num.PcOk x) : ∃ l, keyOf Tryz.prog 72 (lineV x) = some l := by
  have uL := Tryz.underlying72
  have uF := Tryz.underlying36
  have uI := Tryz.underlying2
  obtain ⟨_, _, _, _, h1, h2, h3, h4⟩ := hx
  have wf : ∀ n : Int, -1073741824 ≤ n ∧ n ≤ 1073741824 → (Lit.int .i64 n).wf = true := fun n hn => by
    have h1 : IntKind.i64.min = -9223372036854775808 := by decide
    have h2 : IntKind.i64.max = 9223372036854775807 := by decide
    show (decide (IntKind.i64.min ≤ n) && decide (n ≤ IntKind.i64.max)) = true
    rw [h1, h2, Bool.and_eq_true, decide_eq_true_eq, decide_eq_true_eq]
    omega
  have w1 := wf _ h1
  have w2 := wf _ h2
  have w3 := wf _ h3
  have w4 := wf _ h4
  have fo : (lineV x).formed Tryz.prog 72 = true := by simp [lineV, Value.formed, uL, cellsLine]
  obtain ⟨N, hN⟩ : ∃ N, Tryz.prog.types.size + 1 = N + 3 := ⟨Tryz.prog.types.size - 2, by have := sizeTypes; omega⟩
  have kI : ∀ (N : Nat) (n : Int), (Lit.int .i64 n).wf = true → Tryz.prog.keyLits (N + 1) 2 [.int .i64 n] = some [.int .i64 n] := fun N n hn => by
    unfold Program.keyLits
    rw [uI]
    simp only [hn, and_self, if_true]
  have kF : ∀ (N : Nat) (a b : Int), (Lit.int .i64 a).wf = true → (Lit.int .i64 b).wf = true → Tryz.prog.keyLits (N + 1 + 1) 36 [.int .i64 a, .int .i64 b] = some [.int .i64 a, .int .i64 b] := fun N a b ha hb => by
    rw [keyLits_struct uF ⟨by rw [cellsFr8]; rfl, by simp⟩]
    simp only [List.mapM_cons, List.mapM_nil, cellsI64, List.drop_zero, List.drop_succ_cons, List.take_succ_cons, List.take_zero, kI N a ha, kI N b hb]
    rfl
  have kL : Tryz.prog.keyLits (N + 1 + 1 + 1) 72 [.int .i64 x.bn, .int .i64 x.bd, .int .i64 x.sn, .int .i64 x.sd] = some [.int .i64 x.bn, .int .i64 x.bd, .int .i64 x.sn, .int .i64 x.sd] := by
    rw [keyLits_struct uL ⟨by rw [cellsLine]; rfl, by simp⟩]
    simp only [List.mapM_cons, List.mapM_nil, cellsFr8, List.drop_zero, List.drop_succ_cons, List.take_succ_cons, List.take_zero, kF N _ _ w1 w2, kF N _ _ w3 w4]
    rfl
  refine ⟨.string (keyBytes [.int .i64 x.bn, .int .i64 x.bd, .int .i64 x.sn, .int .i64 x.sd]), ?_⟩
  unfold keyOf
  rw [uL]
  simp only [keyTLine, fo, Bool.and_self, if_true]
  rw [hN]
  show Option.map _ (Tryz.prog.keyLits (N + 1 + 1 + 1) 72 [.int .i64 x.bn, .int .i64 x.bd, .int .i64 x.sn, .int .i64 x.sd]) = _
  rw [kL]
  rfl

/-- A map that holds lines, each with its places. -/
def MapIs (w : World) (r : Nat) (l : List Num.Pc) : Prop := ∃ es clock, w.heap[r]? = some (.map es clock) ∧ es.toList.map (fun e => (e.key, e.val)) = l.map (fun x => (lineV x, strV x)) ∧ (∀ e ∈ es.toList, e.born < clock) ∧ (es.toList.map (·.born)).Nodup ∧ (l.Pairwise fun y z => ¬ Num.sameL y z) ∧ ∀ y ∈ l, Num.PcOk y

theorem MapIs.kept {w w' : World} {r : Nat} {l : List Num.Pc} (h : MapIs w r l) (hb : w'.heap[r]? = w.heap[r]?) : MapIs w' r l := by
  obtain ⟨es, clock, h1, h2⟩ := h
  exact ⟨es, clock, hb.trans h1, h2⟩

theorem MapIs.below {w w' : World} {r : Nat} {l : List Num.Pc} (h : MapIs w r l) (hb : Below w.heap.size w w') : MapIs w' r l := by
  refine h.kept (hb.block r ?_)
  obtain ⟨es, clock, h1, _⟩ := h
  exact (Array.getElem?_eq_some_iff.1 h1).1

theorem MapIs.new (w : World) : MapIs (w.alloc (.map #[] 0)) w.heap.size [] :=
  ⟨#[], 0, (MapKept.heap_alloc w _).1, rfl, fun e he => by simp at he, by simp, List.Pairwise.nil, fun y hy => by cases hy⟩

theorem pair_at {es : List MapEntry} {l : List Num.Pc} (h : es.map (fun e => (e.key, e.val)) = l.map (fun x => (lineV x, strV x))) {j : Nat} {e : MapEntry} (he : es[j]? = some e) : ∃ y, l[j]? = some y ∧ e.key = lineV y ∧ e.val = strV y := by
  have := congrArg (fun t => t[j]?) h
  simp only [List.getElem?_map, he, Option.map_some] at this
  cases hl : l[j]? with
  | none => rw [hl] at this; cases this
  | some y =>
    rw [hl] at this
    simp only [Option.map_some, Option.some.injEq, Prod.mk.injEq] at this
    exact ⟨y, rfl, this.1, this.2⟩

theorem at_pair {es : List MapEntry} {l : List Num.Pc} (h : es.map (fun e => (e.key, e.val)) = l.map (fun x => (lineV x, strV x))) {y : Num.Pc} (hy : y ∈ l) : ∃ e ∈ es, e.key = lineV y ∧ e.val = strV y := by
  have : (lineV y, strV y) ∈ es.map (fun e => (e.key, e.val)) := by rw [h]; exact List.mem_map.2 ⟨y, hy, rfl⟩
  obtain ⟨e, he, h1⟩ := List.mem_map.1 this
  injection h1 with h1 h2
  exact ⟨e, he, h1, h2⟩

theorem MapIs.find {es : Array MapEntry} {l : List Num.Pc} (h : es.toList.map (fun e => (e.key, e.val)) = l.map (fun x => (lineV x, strV x))) (hok : ∀ y ∈ l, Num.PcOk y) (x : Num.Pc) (hx : Num.PcOk x) (w : World) :
    ((Instr.findKey 72 (lineV x) es.toList).run Tryz.prog w = .ok none w ∧ ∀ y ∈ l, ¬ Num.sameL y x) ∨ ∃ j e y, (Instr.findKey 72 (lineV x) es.toList).run Tryz.prog w = .ok (some (j, strV y)) w ∧ es.toList[j]? = some e ∧ l[j]? = some y ∧ e.key = lineV x ∧ Num.sameL y x := by
  obtain ⟨lx, hlx⟩ := line_key x hx
  rcases lawLine.find w hlx es.toList (fun e he => by
    obtain ⟨j, hj⟩ := List.getElem?_of_mem he
    obtain ⟨y, hy, e1, _⟩ := pair_at h hj
    rw [e1]
    exact line_key y (hok y (List.mem_of_getElem? hy))) with ⟨h1, h2⟩ | ⟨j, e, h1, h2, h3⟩
  · refine Or.inl ⟨h1, fun y hy hs => ?_⟩
    obtain ⟨e, he, e1, _⟩ := at_pair h hy
    exact h2 e he (e1.trans (lineV_eq.2 hs))
  · obtain ⟨y, hy, e1, e2⟩ := pair_at h h2
    exact Or.inr ⟨j, e, y, by rw [h1, e2], h2, hy, h3, lineV_eq.1 (e1.symm.trans h3)⟩

def zeroP : Num.Pc := ⟨⟨false, 0, 0⟩, ⟨false, 0, 0⟩, 0, 0, 0, 0⟩

theorem MapIs.look {w : World} {r : Nat} {l : List Num.Pc} (h : MapIs w r l) (x : Num.Pc) (hx : Num.PcOk x) :
    (∃ y ∈ l, Num.sameL y x ∧ (Instr.lookup 50 (.map (some r)) (lineV x) true).run Tryz.prog w = .ok (.tuple #[strV y, .bool true]) w) ∨
    ((∀ y ∈ l, ¬ Num.sameL y x) ∧ (Instr.lookup 50 (.map (some r)) (lineV x) true).run Tryz.prog w = .ok (.tuple #[strV zeroP, .bool false]) w) := by
  obtain ⟨es, clock, h1, h2, _, _, _, h6⟩ := h
  obtain ⟨lx, hlx⟩ := line_key x hx
  have uM := Tryz.underlying50
  have hz : (zeroValue 74).run Tryz.prog w = .ok (strV zeroP) w := by kernel_rfl
  have hck := lawLine.check w es.isEmpty hlx
  rcases MapIs.find h2 h6 x hx w with ⟨f1, f2⟩ | ⟨j, e, y, f1, f2, f3, f4, f5⟩
  · refine Or.inr ⟨f2, ?_⟩
    simp [Instr.lookup, run_underlying uM, MapKept.run_getObj_map h1, hck, f1, hz, Result.andThen]
  · refine Or.inl ⟨y, List.mem_of_getElem? f3, f5, ?_⟩
    simp [Instr.lookup, run_underlying uM, MapKept.run_getObj_map h1, hck, f1, Result.andThen]

/-- A line's places put in their stead. -/
def Num.updN : List Num.Pc → Num.Pc → List Num.Pc
  | [], x => [x]
  | y :: l, x => if Num.sameL y x then x :: l else y :: Num.updN l x

theorem Num.upd_none (x : Num.Pc) : ∀ l : List Num.Pc, (∀ y ∈ l, ¬ Num.sameL y x) → Num.updN l x = l ++ [x] := by
  intro l
  induction l with
  | nil => intro _; rfl
  | cons y l ih =>
    intro h
    unfold Num.updN
    rw [if_neg (h y (by simp)), ih (fun z hz => h z (by simp [hz]))]
    rfl

theorem Num.upd_at (x : Num.Pc) : ∀ (l : List Num.Pc) (j : Nat) (y : Num.Pc), (l.Pairwise fun y z => ¬ Num.sameL y z) → l[j]? = some y → Num.sameL y x → Num.updN l x = l.set j x := by
  intro l
  induction l with
  | nil => intro j y _ h; simp at h
  | cons z l ih =>
    intro j y hp hj hs
    obtain ⟨h1, h2⟩ := List.pairwise_cons.1 hp
    unfold Num.updN
    cases j with
    | zero =>
      simp only [List.getElem?_cons_zero, Option.some.injEq] at hj
      subst hj
      rw [if_pos hs]; rfl
    | succ j =>
      rw [List.getElem?_cons_succ] at hj
      have hn : ¬ Num.sameL z x := fun hc => h1 y (List.mem_of_getElem? hj) (Num.sameL_trans hc (Num.sameL_symm hs))
      rw [if_neg hn, ih j y h2 hj hs]; rfl

theorem Num.upd_join (x : Num.Pc) : ∀ (l : List Num.Pc) (y : Num.Pc), (l.Pairwise fun y z => ¬ Num.sameL y z) → y ∈ l → Num.sameL y x → Num.joinedN l x = Num.updN l (Num.mergeN y x) := by
  intro l
  induction l with
  | nil => intro y _ h; cases h
  | cons z l ih =>
    intro y hp hy hs
    obtain ⟨h1, h2⟩ := List.pairwise_cons.1 hp
    unfold Num.updN Num.joinedN
    rcases List.mem_cons.1 hy with hy | hy
    · subst hy
      rw [if_pos hs, if_pos (show Num.sameL y (Num.mergeN y x) from ⟨rfl, rfl, rfl, rfl⟩)]
    · have hn : ¬ Num.sameL z x := fun hc => h1 y hy (Num.sameL_trans hc (Num.sameL_symm hs))
      have hn2 : ¬ Num.sameL z (Num.mergeN y x) := fun hc => h1 y hy hc
      rw [if_neg hn, if_neg hn2, ih y h2 hy hs]

theorem Num.join_none (x : Num.Pc) : ∀ l : List Num.Pc, (∀ y ∈ l, ¬ Num.sameL y x) → Num.joinedN l x = l ++ [x] := by
  intro l
  induction l with
  | nil => intro _; rfl
  | cons y l ih =>
    intro h
    unfold Num.joinedN
    rw [if_neg (h y (by simp)), ih (fun z hz => h z (by simp [hz]))]
    rfl

theorem Num.upd_one (x : Num.Pc) : ∀ l : List Num.Pc, (l.Pairwise fun y z => ¬ Num.sameL y z) → (Num.updN l x).Pairwise fun y z => ¬ Num.sameL y z := by
  intro l
  induction l with
  | nil => intro _; exact List.pairwise_singleton _ _
  | cons y l ih =>
    intro h
    obtain ⟨h1, h2⟩ := List.pairwise_cons.1 h
    unfold Num.updN
    by_cases hs : Num.sameL y x
    · rw [if_pos hs]
      exact List.pairwise_cons.2 ⟨fun z hz hc => h1 z hz (Num.sameL_trans hs hc), h2⟩
    · rw [if_neg hs]
      refine List.pairwise_cons.2 ⟨fun z hz hc => ?_, ih h2⟩
      have key : ∀ (l : List Num.Pc), z ∈ Num.updN l x → z ∈ l ∨ z = x := by
        intro l
        induction l with
        | nil => intro h; exact Or.inr (by simpa [Num.updN] using h)
        | cons w l ih =>
          intro h
          unfold Num.updN at h
          split at h
          · rcases List.mem_cons.1 h with h | h
            · exact Or.inr h
            · exact Or.inl (by simp [h])
          · rcases List.mem_cons.1 h with h | h
            · exact Or.inl (by simp [h])
            · rcases ih h with h | h
              · exact Or.inl (by simp [h])
              · exact Or.inr h
      rcases key l hz with hz | hz
      · exact h1 z hz hc
      · subst hz; exact hs hc

theorem Num.upd_mem (x z : Num.Pc) : ∀ (l : List Num.Pc), z ∈ Num.updN l x → z ∈ l ∨ z = x := by
  intro l
  induction l with
  | nil => intro h; exact Or.inr (by simpa [Num.updN] using h)
  | cons w l ih =>
    intro h
    unfold Num.updN at h
    split at h
    · rcases List.mem_cons.1 h with h | h
      · exact Or.inr h
      · exact Or.inl (by simp [h])
    · rcases List.mem_cons.1 h with h | h
      · exact Or.inl (by simp [h])
      · rcases ih h with h | h
        · exact Or.inl (by simp [h])
        · exact Or.inr h

theorem MapIs.put {w : World} {r : Nat} {l : List Num.Pc} (h : MapIs w r l) (x : Num.Pc) (hx : Num.PcOk x) :
    ∃ o, (Instr.mapUpdate 50 (.map (some r)) (lineV x) (strV x)).run Tryz.prog w = .ok () (setBlock w r o) ∧ MapIs (setBlock w r o) r (Num.updN l x) := by
  obtain ⟨es, clock, h1, h2, h3, h4, h5, h6⟩ := h
  obtain ⟨lx, hlx⟩ := line_key x hx
  have uM := Tryz.underlying50
  have hck := lawLine.check w false hlx
  have hpo := Num.upd_one x l h5
  have hok : ∀ y ∈ Num.updN l x, Num.PcOk y := fun y hy => by
    rcases Num.upd_mem x y l hy with hy | hy
    · exact h6 y hy
    · subst hy; exact hx
  rcases MapIs.find h2 h6 x hx w with ⟨f1, f2⟩ | ⟨j, e, y, f1, f2, f3, f4, f5⟩
  · refine ⟨.map (es.push { key := lineV x, val := strV x, born := clock }) (clock + 1), ?_, ?_⟩
    · simp [Instr.mapUpdate, run_underlying uM, MapKept.run_getObj_map h1, hck, f1, MapKept.run_setObj_map _ h1, Result.andThen, setBlock]
    · refine ⟨_, _, (MapKept.heap_set h1).1, ?_, ?_, ?_, hpo, hok⟩
      · rw [Num.upd_none x l f2]
        simp [h2]
      · intro z hz
        simp at hz
        rcases hz with hz | hz
        · have := h3 z (by simpa using hz); omega
        · subst hz; exact Nat.lt_succ_self _
      · simp only [Array.toList_push, List.map_append, List.map_cons, List.map_nil]
        refine List.nodup_append.2 ⟨h4, by simp, fun a ha b hb => ?_⟩
        simp only [List.mem_singleton] at hb
        subst hb
        obtain ⟨z, hz, rfl⟩ := List.mem_map.1 ha
        have := h3 z hz
        omega
  · have hst := lawLine.stays w hlx
    have hj : es[j]? = some e := by rw [← Array.getElem?_toList]; exact f2
    refine ⟨.map (es.modify j fun e => { e with key := lineV x, val := strV x }) clock, ?_, ?_⟩
    · simp [Instr.mapUpdate, run_underlying uM, MapKept.run_getObj_map h1, hck, f1, hj, f4, hst, MapKept.run_setObj_map _ h1, Result.andThen, setBlock]
    · have hmod : (es.modify j fun e => { e with key := lineV x, val := strV x }).toList = es.toList.set j { e with key := lineV x, val := strV x } := by
        apply List.ext_getElem?
        intro i
        rw [Array.getElem?_toList, Array.getElem?_modify, List.getElem?_set]
        by_cases hij : j = i
        · subst hij
          rw [if_pos rfl, if_pos rfl, hj]
          have : j < es.toList.length := (List.getElem?_eq_some_iff.1 f2).1
          rw [if_pos this]; rfl
        · rw [if_neg hij, if_neg hij, Array.getElem?_toList]
      refine ⟨_, _, (MapKept.heap_set h1).1, ?_, ?_, ?_, hpo, hok⟩
      · rw [hmod, Num.upd_at x l j y h5 f3 f5, List.map_set, List.map_set, h2]
      · intro z hz
        rw [hmod] at hz
        rcases List.mem_or_eq_of_mem_set hz with hz | hz
        · exact h3 z hz
        · subst hz; exact h3 e (List.mem_of_getElem? f2)
      · rw [hmod, List.map_set]
        have : (es.toList.map (·.born)).set j e.born = es.toList.map (·.born) := by
          apply List.ext_getElem?
          intro i
          rw [List.getElem?_set]
          by_cases hij : j = i
          · subst hij
            rw [if_pos rfl, List.getElem?_map, f2, if_pos (by rw [List.length_map]; exact (List.getElem?_eq_some_iff.1 f2).1)]; rfl
          · rw [if_neg hij]
        rw [this]; exact h4

end Go.Proofs.YtipcbhodlgoflabGreat
