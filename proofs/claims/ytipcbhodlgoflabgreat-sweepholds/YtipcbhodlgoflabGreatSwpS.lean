/- slices.SortFunc puts pieces in order by slope. -/
import Derived.Test.YtipcbhodlgoflabGreatSwpKG
import Derived.Test.YtipcbhodlgoflabGreatShf
namespace Go.Proofs.YtipcbhodlgoflabGreat
open Go.RowKit Go.Shelf Go.Lib Go.Sort

/-- A row holds pieces, none of its cells frozen. -/
def HoldsPc (w : World) (g : Nat) (l : List Num.Pc) : Prop := ∀ j y, l[j]? = some y → ∀ i v, (pcL y)[i]? = some v → w.cell? ⟨g, j * 10 + i, none⟩ = some v ∧ w.frozen? ⟨g, j * 10 + i, none⟩ = false

theorem encP_len (x : SPc) : (encP x).length = 10 := rfl

theorem lt_cmpP (x y : SPc) : ltOf cmpP x y = decide (Num.slLt x.1 y.1) := by
  unfold ltOf cmpP Num.cmpN
  by_cases h1 : Num.slLt x.1 y.1
  · simp [h1]
  · by_cases h2 : Num.slLt y.1 x.1 <;> simp [h1, h2]

theorem cmpP_swo : SWO (ltOf cmpP) where
  irrefl x := by rw [lt_cmpP]; exact decide_eq_false (Num.slLt_irrefl x.1)
  trans x y z h1 h2 := by
    rw [lt_cmpP, decide_eq_true_eq] at *
    exact Num.slLt_trans _ _ _ (Num.may_pos _ _ x.2) (Num.may_pos _ _ y.2) (Num.may_pos _ _ z.2) h1 h2
  ntrans x y z h1 h2 := by
    rw [lt_cmpP, decide_eq_false_iff_not] at *
    have px := Num.may_pos _ _ x.2
    have py := Num.may_pos _ _ y.2
    have pz := Num.may_pos _ _ z.2
    unfold Num.slLt at *
    intro hc
    have p1 := Int.mul_le_mul_of_nonneg_right (Int.not_lt.1 h1) (Int.le_of_lt pz)
    have p2 := Int.mul_le_mul_of_nonneg_right (Int.not_lt.1 h2) (Int.le_of_lt px)
    have p3 := Int.mul_lt_mul_of_pos_right hc py
    have r1 : y.1.sn * x.1.sd * z.1.sd = y.1.sn * z.1.sd * x.1.sd := by grind
    have r2 : x.1.sn * y.1.sd * z.1.sd = x.1.sn * z.1.sd * y.1.sd := by grind
    have r3 : z.1.sn * y.1.sd * x.1.sd = z.1.sn * x.1.sd * y.1.sd := by grind
    omega

theorem cmpP_lays (blk off size : Nat) (w : World) : CmpLays Tryz.prog 24 #[] encP 10 cmpP blk off size w := by
  intro m os dk _ x y
  refine Calls.mono (cmp_walk x.1 y.1 x.2 y.2 _) ?_
  rintro e w' ⟨rfl, hb, hd⟩
  exact ⟨rfl, grow_of hb hd⟩

def subL (l : List Num.Pc) (h : ∀ y ∈ l, Num.mayB y.sd [y.sn] = true) : Array SPc := (l.attach.map fun y => (⟨y.1, h y.1 y.2⟩ : SPc)).toArray

theorem subL_size (l : List Num.Pc) (h : ∀ y ∈ l, Num.mayB y.sd [y.sn] = true) : (subL l h).size = l.length := by simp [subL]

theorem subL_list (l : List Num.Pc) (h : ∀ y ∈ l, Num.mayB y.sd [y.sn] = true) : (subL l h).toList.map (·.1) = l := by
  simp [subL, List.map_map, Function.comp_def]

theorem arr_at (d : Array SPc) (j : Nat) (y : Num.Pc) (h : (d.toList.map (·.1))[j]? = some y) : j < d.size ∧ d[j]!.1 = y := by
  rw [List.getElem?_map] at h
  cases hd : d.toList[j]? with
  | none => rw [hd] at h; cases h
  | some x =>
    rw [hd] at h
    have hj : j < d.size := by have := (List.getElem?_eq_some_iff.1 hd).1; simpa using this
    refine ⟨hj, ?_⟩
    rw [getElem!_pos d j hj]
    have := (List.getElem?_eq_some_iff.1 hd).2
    simp only [Array.getElem_toList] at this
    rw [this]
    simpa using h

theorem holdsK_iff (w : World) (g : Nat) (d : Array SPc) : HoldsK encP 10 w g 0 d ↔ HoldsPc w g (d.toList.map (·.1)) := by
  constructor
  · intro h j y hy i v hv
    obtain ⟨hj, e⟩ := arr_at d j y hy
    have hi : i < 10 := by have := (List.getElem?_eq_some_iff.1 hv).1; exact this
    have := h.cell (i := j) (c := i) hj hi
    rw [show encP d[j]! = pcL y by unfold encP; rw [e]] at this
    rw [Nat.zero_add] at this
    rw [getElem!_pos (pcL y) i (by exact hi)] at this
    rw [List.getElem?_eq_getElem (by exact hi)] at hv
    cases hv
    exact this
  · intro h t ht
    rw [size_flatK] at ht
    have hj : t / 10 < d.size := by omega
    have hi : t % 10 < 10 := Nat.mod_lt _ (by omega)
    rw [get_flatK encP 10 d t ht]
    have := h (t / 10) d[t / 10]!.1 (by rw [List.getElem?_map, List.getElem?_eq_getElem (by simpa using hj), getElem!_pos d _ hj]; rfl) (t % 10) _ (List.getElem?_eq_getElem (l := pcL d[t / 10]!.1) (by exact hi))
    rw [show t / 10 * 10 + t % 10 = 0 + t by omega] at this
    rw [getElem!_pos (encP d[t / 10]!) (t % 10) (by rw [encP_len]; exact hi)]
    exact this

theorem below_sorted {w : World} {g n : Nat} {os : Array Obj} (d : Array SPc) (hg : g < w.heap.size) : Below g w (sortWorldK encP 10 w g 0 n d os) := by
  unfold sortWorldK
  refine ⟨rfl, rfl, rfl, ?_, fun k hk => ?_⟩
  · show w.heap.size ≤ ((putRowK encP 10 (Sort.ahead w n) g 0 d).heap ++ os).size
    rw [Array.size_append]
    have : (putRowK encP 10 (Sort.ahead w n) g 0 d).heap.size = w.heap.size := by unfold putRowK; rw [size_putRow]; rfl
    omega
  · show ((putRowK encP 10 (Sort.ahead w n) g 0 d).heap ++ os)[k]? = _
    have hp : (putRowK encP 10 (Sort.ahead w n) g 0 d).heap[k]? = w.heap[k]? := by
      unfold putRowK putRow mapBlock
      show (w.heap.modify g _)[k]? = _
      rw [Array.getElem?_modify, if_neg (by omega)]
    rw [Array.getElem?_append_left (by unfold putRowK; rw [size_putRow]; show k < w.heap.size; omega), hp]

theorem sortP_any (g cap : Nat) (l : List Num.Pc) (hm : ∀ y ∈ l, Num.mayB y.sd [y.sn] = true) (w : World) (hh : HoldsPc w g l) (hg : g < w.heap.size) (hl : l.length < 4611686018427387904) :
    Calls Tryz.prog 23 #[.slice (some ⟨g, 0, none⟩) l.length cap, .func (.func 24) #[] #[]] w fun e w' => e = .returned (.tuple #[]) ∧ ∃ l', l'.Perm l ∧ (l'.Pairwise fun y z => ¬ Num.slLt z y) ∧ HoldsPc w' g l' ∧ Below g w w' ∧ g < w'.heap.size := by
  have eg : ∀ args w, (callFunc 24 args).run Tryz.prog w = .ok (.enter 24 args) w := enters_of Tryz.func24 (by kernel_rfl) rfl
  have hH : HoldsK encP 10 w g 0 (subL l hm) := by rw [holdsK_iff, subL_list]; exact hh
  have hcon := AnyQ.slices_SortFunc Tryz.sortP 10 Tryz.isAgg47 Tryz.sizeOf47 encP encP_len encP_one cmpP cmpP_swo 24 #[] g 0 cap (subL l hm) w eg (cmpP_lays g 0 _ w) hH hg (by rw [subL_size]; exact hl)
  change Calls Tryz.prog 23 _ _ _ at hcon
  rw [subL_size] at hcon
  refine hcon.mono ?_
  rintro e w' ⟨rfl, d', n, os, hp, hs, rfl⟩
  have hsz : d'.size = l.length := by rw [hp.1, subL_size]
  have hperm : d'.toList.Perm (subL l hm).toList := by
    have := hp.2.2
    rw [Array.toList_extract, Array.toList_extract] at this
    simp only [List.extract_eq_take_drop, Nat.sub_zero, List.drop_zero] at this
    rw [List.take_of_length_le (by simp [hsz]), List.take_of_length_le (by simp [subL_size])] at this
    exact this
  refine ⟨rfl, d'.toList.map (·.1), ?_, ?_, ?_, below_sorted d' hg, ?_⟩
  · have := hperm.map (·.1)
    rwa [subL_list] at this
  · rw [List.pairwise_map, List.pairwise_iff_getElem]
    intro i j hi hj hij
    have hi' : i < d'.size := by simpa using hi
    have hj' : j < d'.size := by simpa using hj
    have := hs i j (Nat.zero_le _) hij (by omega)
    rw [lt_cmpP, decide_eq_false_iff_not, getElem!_pos d' i hi', getElem!_pos d' j hj'] at this
    simpa using this
  · rw [← holdsK_iff]
    unfold sortWorldK
    refine holdsK_grow _ _ _ _ _ _ _ ?_ ?_
    · unfold putRowK; rw [size_putRow]; exact hg
    · exact holdsK_putRowK _ _ _ _ _ (subL l hm) d' (holdsK_ahead _ _ _ _ _ _ _ hH) hp.1
  · have := (below_sorted (w := w) (g := g) (n := n) (os := os) d' hg).size
    omega

end Go.Proofs.YtipcbhodlgoflabGreat
