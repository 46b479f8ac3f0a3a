/- What sweep.pieces does. -/
import Derived.Test.YtipcbhodlgoflabGreatSwpS
import Derived.Test.YtipcbhodlgoflabGreatSwpM
import Derived.Deep.AppendLies
import Derived.Test.YtipcbhodlgoflabGreatSpnWA
namespace Go.Proofs.YtipcbhodlgoflabGreat
open Go.RowKit
open Go.ChangeMaps (setBlock)

/-- What a key and a value come to, as a piece. -/
def decP (k v : Value) : Num.Pc :=
  match k, v with
  | .agg #[.int _ bn, .int _ bd, .int _ sn, .int _ sd], .agg #[.bool fo, .int _ fn, .int _ fd, .bool to, .int _ tn, .int _ td] => ⟨⟨fo, fn, fd⟩, ⟨to, tn, td⟩, bn, bd, sn, sd⟩
  | _, _ => zeroP

theorem dec_enc (y : Num.Pc) : decP (lineV y) (strV y) = y := rfl

def entP (e : MapEntry) : Num.Pc := decP e.key e.val

theorem Tryz.infoPiece : (Tryz.prog.info? 47).map (fun i => (i.zero, i.size, i.bytes)) = some (some (.agg #[.bool false, .int .i64 0, .int .i64 0, .bool false, .int .i64 0, .int .i64 0, .int .i64 0, .int .i64 0, .int .i64 0, .int .i64 0]), 10, 80) := by kernel_rfl

theorem map_entP {es : List MapEntry} {l : List Num.Pc} (h : es.map (fun e => (e.key, e.val)) = l.map (fun x => (lineV x, strV x))) : es.map entP = l := by
  have := congrArg (List.map fun q : Value × Value => decP q.1 q.2) h
  rw [List.map_map, List.map_map] at this
  have e1 : (l.map ((fun q : Value × Value => decP q.1 q.2) ∘ fun x => (lineV x, strV x))) = l := by
    have : ((fun q : Value × Value => decP q.1 q.2) ∘ fun x => (lineV x, strV x)) = id := funext fun y => dec_enc y
    rw [this, List.map_id]
  rw [e1] at this
  exact this

theorem holds_of_owns {w : World} {base g cap : Nat} {l : List Num.Pc} (h : w.ownsRow base 47 10 (.slice (some ⟨g, 0, none⟩) l.length cap) l.length (l.flatMap pcL)) : HoldsPc w g l := by
  intro j y hy i v hv
  have hj : j < l.length := (List.getElem?_eq_some_iff.1 hy).1
  have hi : i < 10 := (List.getElem?_eq_some_iff.1 hv).1
  have hf : ∀ (l : List Num.Pc) (j : Nat) (y : Num.Pc), l[j]? = some y → (l.flatMap pcL)[j * 10 + i]? = (pcL y)[i]? := by
    intro l
    induction l with
    | nil => intro j y h; simp at h
    | cons x l ih =>
      intro j y h
      rw [List.flatMap_cons]
      cases j with
      | zero =>
        simp only [List.getElem?_cons_zero, Option.some.injEq] at h
        subst h
        rw [Nat.zero_mul, Nat.zero_add, List.getElem?_append_left (by exact hi)]
      | succ j =>
        rw [List.getElem?_cons_succ] at h
        rw [List.getElem?_append_right (by show 10 ≤ _; omega), show (j + 1) * 10 + i - (pcL x).length = j * 10 + i by show (j + 1) * 10 + i - 10 = _; omega]
        exact ih j y h
  refine ⟨?_, ?_⟩
  · rw [World.ownsRow.cellAt h _ (by omega), hf l j y hy]; exact hv
  · rcases h.2 with ⟨h', _⟩ | ⟨g', cap', cur, h', _, hg, _⟩
    · cases h'
    · simp only [Value.slice.injEq, Option.some.injEq, Addr.mk.injEq, and_true, true_and] at h'
      obtain ⟨rfl, _⟩ := h'
      unfold World.frozen?
      simp only [hg]
      simp

set_option maxRecDepth 4000 in
set_option maxHeartbeats 800000 in
theorem pieces_any (r : Nat) (l : List Num.Pc) (w : World) (hm : MapIs w r l) (hlen : l.length ≤ 1000) (hmay : ∀ y ∈ l, Num.mayB y.sd [y.sn] = true) :
    Calls Tryz.prog 12 #[.map (some r)] w fun e w' => ∃ g cap srt, e = .returned (.slice (some ⟨g, 0, none⟩) srt.length cap) ∧ srt.Perm l ∧ (srt.Pairwise fun y z => ¬ Num.slLt z y) ∧ HoldsPc w' g srt ∧ srt.length ≤ cap ∧ w.heap.size ≤ g ∧ g < w'.heap.size ∧ Below w.heap.size w w' := by
  obtain ⟨es, clock, hb, hkv, hborn, hnd, hone, hok⟩ := hm
  have hel : es.size = l.length := by
    have := congrArg List.length hkv
    simpa using this
  have hrl : r < w.heap.size := (Array.getElem?_eq_some_iff.1 hb).1
  have HKV : Hid _ := hkv
  have HBORN : Hid _ := hborn
  have HND : Hid _ := hnd
  have HEL : Hid _ := hel
  have HLEN : Hid _ := hlen
  have HMAY : Hid _ := hmay
  have HHB : Hid _ := hb
  clear hkv hborn hnd hone hok hel hlen hmay
  obtain ⟨i0, hif, hz0, hz1, hz2⟩ := info_parts Tryz.infoPiece
  go_enter Tryz.func12, Tryz.ntmps12
  have hes : es.size ≤ 1000 := by have := HEL.out; have := HLEN.out; omega
  have hlm : (Builtin.len_ #[50] 3 #[.map (some r)]).run Tryz.prog w = .ok (.int .i64 es.size) w := by
    simp [Builtin.len_, run_underlying Tryz.underlying50, MapKept.run_getObj_map hb, goInt]
  go_wp2_with (at_make; refine wpList_make_own _ rfl (.const (.int .i64 0)) (.tmp 7) 27 rfl w.heap.size 47 i0 (.agg #[.bool false, .int .i64 0, .int .i64 0, .bool false, .int .i64 0, .int .i64 0, .int .i64 0, .int .i64 0, .int .i64 0, .int .i64 0]) 10 Tryz.underlying27 hif hz0 hz1 .i64 .i64 _ es.size rfl rfl rfl (by rw [hz2]; omega) (by unfold maxLen; omega) (Nat.le_refl _) ?_; intro w1 hown hgrow; have hb1 : w1.heap[r]? = some (.map es clock) := (hgrow.block r hrl (by simp)).trans hb; have hrange : (Instr.range 50 (.map (some r))).run Tryz.prog w1 = .ok (.pointer (some ⟨w1.heap.size, 0, none⟩)) (w1.alloc (.mapIter (some r) clock #[] clock)) := run_range_map w1 _ _ _ r es clock Tryz.underlying50 hb1)
  have hB1 : Below w.heap.size w w1 := made_below hgrow
  have hg1 : w.heap.size < w1.heap.size := by
    rcases hown.2 with ⟨h, _⟩ | ⟨g, cap, cur, h, _, hg, _⟩
    · cases h
    · simp only [Value.slice.injEq, Option.some.injEq, Addr.mk.injEq, and_true, true_and] at h
      rw [h.1]
      exact (Array.getElem?_eq_some_iff.1 hg).1
  clear hlm hrange
  go_loopw [3] (fun v wr => ∃ ds : List MapEntry, v = .slice (some ⟨w.heap.size, 0, none⟩) ds.length es.size ∧ (∀ e ∈ ds, e ∈ es.toList) ∧ (ds.map (·.born)).Nodup ∧ wr.heap[r]? = some (.map es clock) ∧ (∃ c0, clock ≤ c0 ∧ wr.heap[w1.heap.size]? = some (.mapIter (some r) clock (ds.map (·.born)).toArray c0)) ∧ wr.ownsRow w.heap.size 47 10 v ds.length ((ds.map entP).flatMap pcL) ∧ Below w.heap.size w wr) (fun _ wr => (leftOf es (wr.iterSeen w1.heap.size)).size)
  case atStart =>
    refine ⟨[], rfl, fun e he => (by cases he), List.nodup_nil, (Below.heap_alloc _ _ _ (by omega)).trans hb1, ⟨clock, Nat.le_refl _, heap_alloc_new _ _⟩, ?_, bstep hB1 (balloc _ _)⟩
    exact World.ownsRow.kept (row := none) hown (World.grownBy_alloc w1 _ none) (by simp [Value.ownBlock])
  case round =>
    obtain ⟨ds, rfl, hds, hdn, hbr, ⟨c0, hc0, hit⟩, hor, hBr⟩ := hrel
    have hseen : wr.iterSeen w1.heap.size = (ds.map (·.born)).toArray := by unfold World.iterSeen; rw [hit]
    have HSEEN : Hid _ := hseen
    clear hseen
    rcases run_next_at (P := Tryz.prog) wr 0 w1.heap.size r clock c0 (ds.map (·.born)).toArray es clock hit hbr HBORN.out hc0 with ⟨h0, hnext⟩ | ⟨e, he, w2, hw2, hnext⟩
    · have hdone : ds.Perm es.toList := by
        refine (List.perm_ext_iff_of_nodup ?_ ?_).2 ?_
        · exact List.Pairwise.of_map _ (fun a b h hab => h (by rw [hab])) hdn
        · exact List.Pairwise.of_map _ (fun a b h hab => h (by rw [hab])) HND.out
        · intro x
          refine ⟨hds x, fun hx => ?_⟩
          have := all_seen es _ h0 x hx
          simp only [List.contains_toArray, List.contains_iff_mem, List.mem_map] at this
          obtain ⟨z, hz, hzb⟩ := this
          rw [← born_inj HND.out (hds z hz) hx hzb]; exact hz
      have hlp : (ds.map entP).Perm l := by
        have := hdone.map entP
        rwa [map_entP HKV.out] at this
      have HLP : Hid _ := hlp
      have HHO : Hid (HoldsPc wr w.heap.size (ds.map entP)) := by
        refine holds_of_owns (base := w.heap.size) (cap := es.size) ?_
        rw [List.length_map]; exact hor
      have hgw : w.heap.size < wr.heap.size := by have := hBr.size; have := (Array.getElem?_eq_some_iff.1 hit).1; omega
      have ks := sortP_any w.heap.size es.size (ds.map entP) (fun y hy => HMAY.out y (hlp.subset hy)) wr HHO.out hgw (by have := hlp.length_eq; have := HLEN.out; omega)
      rw [List.length_map] at ks
      have KS : Hid _ := ks
      have HDL : Hid (ds.length = l.length) := by have := hlp.length_eq; rw [List.length_map] at this; exact this
      have hnx : ∀ ty, (Instr.next (.pointer (some ⟨w1.heap.size, 0, none⟩)) false ty).run Tryz.prog wr = .ok (.tuple #[.bool false]) wr := fun _ => hnext
      have HBR : Hid _ := hBr
      clear hnext hor hds hdn hit ks hlp hdone hBr
      go_wp2_with fail
      refine (Calls.mono KS.out ?_)
      rintro e w3 ⟨rfl, srt, hsp, hso, hsh, hsb, hsg⟩
      have hsl : ds.length = srt.length := by have := hsp.length_eq; rw [List.length_map] at this; exact this.symm
      have HFIN : Hid (∃ g cap srt', Ending.returned (.slice (some ⟨w.heap.size, 0, none⟩) ds.length es.size) = .returned (.slice (some ⟨g, 0, none⟩) srt'.length cap) ∧ srt'.Perm l ∧ (srt'.Pairwise fun y z => ¬ Num.slLt z y) ∧ HoldsPc w3 g srt' ∧ srt'.length ≤ cap ∧ w.heap.size ≤ g ∧ g < w3.heap.size ∧ Below w.heap.size w w3) :=
        ⟨w.heap.size, es.size, srt, by rw [hsl], hsp.trans HLP.out, hso, hsh, by have := HDL.out; have := HEL.out; omega, Nat.le_refl _, hsg, HBR.out.trans hsb⟩
      clear hsp hso hsh hsb hsg hsl KS
      go_wp2_with fail
      go_ret
      exact HFIN.out
    · obtain ⟨hem, hes'⟩ := mem_left he
      obtain ⟨jj, hjj⟩ := List.getElem?_of_mem hem
      obtain ⟨y, hy, ek, ev⟩ := pair_at HKV.out hjj
      have hey : entP e = y := by unfold entP; rw [ek, ev]; rfl
      have hlt2 : ds.length < es.size := by
        have h1 : ((e :: ds).map (·.born)).Nodup := by
          rw [List.map_cons]
          refine List.nodup_cons.2 ⟨fun hc => ?_, hdn⟩
          have : (ds.map (·.born)).toArray.contains e.born = true := by simpa using hc
          rw [this] at hes'; cases hes'
        have h2 : (e :: ds).Nodup := List.Pairwise.of_map _ (fun a b h hab => h (by rw [hab])) h1
        have h3 : (e :: ds) ⊆ es.toList := by
          intro x hx
          rcases List.mem_cons.1 hx with hx | hx
          · rw [hx]; exact hem
          · exact hds x hx
        have := (h2.length_le_of_subset h3)
        simp at this
        omega
      have hne : r ≠ w1.heap.size := by omega
      have hit2' : w2.heap[w1.heap.size]? = some (.mapIter (some r) clock (ds.map (·.born)).toArray c0) := by rcases hw2 with rfl | rfl <;> exact hit
      have hbr2' : w2.heap[r]? = some (.map es clock) := by rcases hw2 with rfl | rfl <;> exact hbr
      have hW2 := MapKept.heap_set (o' := .mapIter (some r) clock ((ds.map (·.born)).toArray.push e.born) clock) hit2'
      have hit2 : (setBlock w2 w1.heap.size (.mapIter (some r) clock ((ds.map (·.born)).toArray.push e.born) clock)).heap[w1.heap.size]? = some (.mapIter (some r) clock ((ds.map (·.born)).toArray.push e.born) clock) := hW2.1
      have hbr2 : (setBlock w2 w1.heap.size (.mapIter (some r) clock ((ds.map (·.born)).toArray.push e.born) clock)).heap[r]? = some (.map es clock) := (hW2.2 r hne).trans hbr2'
      have hgr2 : wr.grownBy (setBlock w2 w1.heap.size (.mapIter (some r) clock ((ds.map (·.born)).toArray.push e.born) clock)) (some w1.heap.size) := by
        rcases hw2 with rfl | rfl <;> exact ⟨rfl, rfl, rfl, by simp [setBlock], fun k _ hk => hW2.2 k (fun e1 => hk (by rw [e1]))⟩
      have hor2 := World.ownsRow.kept hor hgr2 (Or.inr (by simp only [Value.ownBlock, ne_eq, Option.some.injEq]; omega))
      have hBr2 : Below w.heap.size w (setBlock w2 w1.heap.size (.mapIter (some r) clock ((ds.map (·.born)).toArray.push e.born) clock)) := hBr.grown hgr2 hBr.size (fun k hk => by cases hk; omega)
      have hent : (Instr.entry (.pointer (some ⟨w1.heap.size, 0, none⟩))).run Tryz.prog (setBlock w2 w1.heap.size (.mapIter (some r) clock ((ds.map (·.born)).toArray.push e.born) clock)) = .ok (.tuple #[e.key, e.val]) (setBlock w2 w1.heap.size (.mapIter (some r) clock ((ds.map (·.born)).toArray.push e.born) clock)) := run_entry_at _ w1.heap.size r clock _ es clock e hit2 hbr2 hem HND.out
      have hnx : ∀ ty, (Instr.next (.pointer (some ⟨w1.heap.size, 0, none⟩)) false ty).run Tryz.prog wr = .ok (.tuple #[.bool true, e.key, e.val]) (setBlock w2 w1.heap.size (.mapIter (some r) clock ((ds.map (·.born)).toArray.push e.born) clock)) := fun _ => hnext
      have hpush : (ds.map (·.born)).toArray.push e.born = ((ds ++ [e]).map (·.born)).toArray := by simp
      have HMS : Hid (∀ W : World, W.heap[w1.heap.size]? = some (.mapIter (some r) clock ((ds.map (·.born)).toArray.push e.born) clock) → (leftOf es (W.iterSeen w1.heap.size)).size < (leftOf es (wr.iterSeen w1.heap.size)).size) := by
        intro W hW
        rw [HSEEN.out]
        have : W.iterSeen w1.heap.size = (ds.map (·.born)).toArray.push e.born := by unfold World.iterSeen; rw [hW]
        rw [this]
        exact left_shrinks es _ e he
      have hsz2 : w1.heap.size < (setBlock w2 w1.heap.size (.mapIter (some r) clock ((ds.map (·.born)).toArray.push e.born) clock)).heap.size := (Array.getElem?_eq_some_iff.1 hit2).1
      rw [ek, ev] at hent hnx
      have HREL : Hid (∀ (W4 : World) , W4.heap[r]? = some (.map es clock) → W4.heap[w1.heap.size]? = some (.mapIter (some r) clock ((ds.map (·.born)).toArray.push e.born) clock) → W4.ownsRow w.heap.size 47 10 (.slice (some ⟨w.heap.size, 0, none⟩) (ds.length + 1) es.size) (ds.length + 1) ((ds.map entP).flatMap pcL ++ pcL y) → Below w.heap.size w W4 →
          ∃ ds' : List MapEntry, Value.slice (some ⟨w.heap.size, 0, none⟩) (ds.length + 1) es.size = .slice (some ⟨w.heap.size, 0, none⟩) ds'.length es.size ∧ (∀ e ∈ ds', e ∈ es.toList) ∧ (ds'.map (·.born)).Nodup ∧ W4.heap[r]? = some (.map es clock) ∧ (∃ c0, clock ≤ c0 ∧ W4.heap[w1.heap.size]? = some (.mapIter (some r) clock (ds'.map (·.born)).toArray c0)) ∧ W4.ownsRow w.heap.size 47 10 (.slice (some ⟨w.heap.size, 0, none⟩) (ds.length + 1) es.size) ds'.length ((ds'.map entP).flatMap pcL) ∧ Below w.heap.size w W4) := by
        intro W4 g1 g2 g3 g4
        refine ⟨ds ++ [e], by simp, fun x hx => ?_, ?_, g1, ⟨clock, Nat.le_refl _, by rw [← hpush]; exact g2⟩, ?_, g4⟩
        · rcases List.mem_append.1 hx with hx | hx
          · exact hds x hx
          · rw [List.mem_singleton.1 hx]; exact hem
        · rw [List.map_append]
          refine List.nodup_append.2 ⟨hdn, by simp, fun a ha b hb hab => ?_⟩
          simp only [List.map_cons, List.map_nil, List.mem_singleton] at hb
          subst hb
          subst hab
          have : (ds.map (·.born)).toArray.contains e.born = true := by simpa using ha
          rw [this] at hes'; cases hes'
        · rw [List.map_append, List.flatMap_append, List.length_append]
          simpa [hey] using g3
      obtain ⟨⟨fo, fn, fd⟩, ⟨to, tn, td⟩, bn, bd, sn, sd⟩ := y
      simp only [lineV, strV] at hent hnx
      simp only [pcL] at HREL
      generalize (setBlock w2 w1.heap.size (.mapIter (some r) clock ((ds.map (·.born)).toArray.push e.born) clock)) = W2 at *
      have hgx := ((World.grownBy_alloc W2 (.cells #[.int .i64 bn, .int .i64 bd, .int .i64 sn, .int .i64 sd] 72) none).trans (World.grownBy_alloc _ (.cells #[.bool fo, .int .i64 fn, .int .i64 fd, .bool to, .int .i64 tn, .int .i64 td] 74) none)).trans (World.grownBy_alloc _ (.cells #[.bool fo, .int .i64 fn, .int .i64 fd, .bool to, .int .i64 tn, .int .i64 td, .int .i64 bn, .int .i64 bd, .int .i64 sn, .int .i64 sd] 47) none)
      have HOX : Hid _ := World.ownsRow.kept hor2 hgx (by simp [Value.ownBlock])
      have HHX : Hid ((((W2.alloc (.cells #[.int .i64 bn, .int .i64 bd, .int .i64 sn, .int .i64 sd] 72)).alloc (.cells #[.bool fo, .int .i64 fn, .int .i64 fd, .bool to, .int .i64 tn, .int .i64 td] 74)).alloc (.cells #[.bool fo, .int .i64 fn, .int .i64 fd, .bool to, .int .i64 tn, .int .i64 td, .int .i64 bn, .int .i64 bd, .int .i64 sn, .int .i64 sd] 47)).heap[r]? = some (.map es clock) ∧ (((W2.alloc (.cells #[.int .i64 bn, .int .i64 bd, .int .i64 sn, .int .i64 sd] 72)).alloc (.cells #[.bool fo, .int .i64 fn, .int .i64 fd, .bool to, .int .i64 tn, .int .i64 td] 74)).alloc (.cells #[.bool fo, .int .i64 fn, .int .i64 fd, .bool to, .int .i64 tn, .int .i64 td, .int .i64 bn, .int .i64 bd, .int .i64 sn, .int .i64 sd] 47)).heap[w1.heap.size]? = some (.mapIter (some r) clock ((ds.map (·.born)).toArray.push e.born) clock) ∧ Below w.heap.size w (((W2.alloc (.cells #[.int .i64 bn, .int .i64 bd, .int .i64 sn, .int .i64 sd] 72)).alloc (.cells #[.bool fo, .int .i64 fn, .int .i64 fd, .bool to, .int .i64 tn, .int .i64 td] 74)).alloc (.cells #[.bool fo, .int .i64 fn, .int .i64 fd, .bool to, .int .i64 tn, .int .i64 td, .int .i64 bn, .int .i64 bd, .int .i64 sn, .int .i64 sd] 47))) :=
        ⟨(hgx.block r (by omega) (by simp)).trans hbr2, (hgx.block _ hsz2 (by simp)).trans hit2, bstep (bstep (bstep hBr2 (balloc _ _)) (balloc _ _)) (balloc _ _)⟩
      have hbx1 : r < W2.heap.size := by omega
      have hwz : w.heap.size < W2.heap.size := by omega
      clear hgx hit hit2 hit2' hbr hbr2 hbr2' hW2 hgr2 hor hor2 hBr hBr2 hnext he hem hds hdn hes' hjj hy ek ev hey hpush hb hb1 hown hgrow HSEEN
      go_wp2_with (at_builtin; refine wpList_append_fits _ rfl (.tmp 16) (.tmp 26) 27 rfl w.heap.size 47 i0 10 Tryz.underlying27 hif hz1 w.heap.size ds.length es.size _ rfl HOX.out ⟨W2.heap.size + 1 + 1, 0, none⟩ 1 1 [.bool fo, .int .i64 fn, .int .i64 fd, .bool to, .int .i64 tn, .int .i64 td, .int .i64 bn, .int .i64 bd, .int .i64 sn, .int .i64 sd] rfl rfl ?o3 ?o4 ?o5 ?_)
      case o3 =>
        intro j u hu
        rw [show W2.heap.size + 1 + 1 = ((W2.alloc (.cells #[.int .i64 bn, .int .i64 bd, .int .i64 sn, .int .i64 sd] 72)).alloc (.cells #[.bool fo, .int .i64 fn, .int .i64 fd, .bool to, .int .i64 tn, .int .i64 td] 74)).heap.size by simp, Addr.add_lit, Nat.zero_add, World.cell?_alloc_new]
        simpa using hu
      case o4 =>
        intro u hu
        simp only [List.mem_cons, List.not_mem_nil, or_false] at hu
        rcases hu with rfl | rfl | rfl | rfl | rfl | rfl | rfl | rfl | rfl | rfl <;> rfl
      case o5 => omega
      intro w4 hown4 hgrow4
      obtain ⟨x1, x2, x3⟩ := HHX.out
      have y1 : w4.heap[r]? = some (.map es clock) := (hgrow4.block r (by simp; omega) (by simp; omega)).trans x1
      have y2 : w4.heap[w1.heap.size]? = some (.mapIter (some r) clock ((ds.map (·.born)).toArray.push e.born) clock) := (hgrow4.block _ (by simp; omega) (by simp; omega)).trans x2
      have y3 : Below w.heap.size w w4 := x3.grown hgrow4 x3.size (fun k hk => by cases hk; omega)
      have HR4 : Hid _ := HREL.out w4 y1 y2 hown4 y3
      have HM4 : Hid _ := HMS.out w4 y2
      clear x1 x2 x3 y1 y2 y3 hown4 hgrow4 HREL HMS HOX HHX
      go_wp2
      go_roundw
      case rel => exact HR4.out
      case measure => exact HM4.out

end Go.Proofs.YtipcbhodlgoflabGreat

/- What sweep.longest does. -/
namespace Go.Proofs.YtipcbhodlgoflabGreat
open Go.RowKit

/-- A slice that holds pieces. -/
def PcsAt (w : World) (a : Option Addr) (k : Nat) (l : List Num.Pc) : Prop := k = l.length ∧ (k = 0 ∨ ∃ g, a = some ⟨g, 0, none⟩ ∧ g < w.heap.size ∧ HoldsPc w g l)

theorem HoldsPc.below {w w' : World} {g : Nat} {l : List Num.Pc} (h : HoldsPc w g l) (hb : Below w.heap.size w w') (hg : g < w.heap.size) : HoldsPc w' g l := by
  intro j y hy i v hv
  obtain ⟨h1, h2⟩ := h j y hy i v hv
  exact ⟨carry hb h1, by rw [hb.frozen (p := ⟨g, j * 10 + i, none⟩) hg]; exact h2⟩

theorem PcsAt.below {w w' : World} {a : Option Addr} {k : Nat} {l : List Num.Pc} (h : PcsAt w a k l) (hb : Below w.heap.size w w') : PcsAt w' a k l := by
  refine ⟨h.1, ?_⟩
  rcases h.2 with h0 | ⟨g, e, hg, hh⟩
  · exact Or.inl h0
  · exact Or.inr ⟨g, e, Nat.lt_of_lt_of_le hg hb.size, hh.below hb hg⟩

theorem own_base {w : World} {base : Nat} {e : TypeId} {size : Nat} {v : Value} {n : Nat} {xs : List Value} (h : w.ownsRow base e size v n xs) {k : Nat} (hk : v.ownBlock = some k) : base ≤ k := by
  rcases h.2 with ⟨rfl, _⟩ | ⟨g, cap, cur, rfl, hb, _⟩
  · cases hk
  · simp only [Value.ownBlock, Option.some.injEq] at hk
    omega

theorem own_shapeK {w : World} {base : Nat} {e : TypeId} {size : Nat} {v : Value} {n : Nat} {xs : List Value} (h : w.ownsRow base e size v n xs) : ∃ a c, v = .slice a n c := by
  rcases h.2 with ⟨hv, h0⟩ | ⟨g, cap, cur, hv, _⟩
  · subst h0; exact ⟨none, 0, hv⟩
  · exact ⟨_, cap, hv⟩

theorem HoldsPc.take {w : World} {g : Nat} {l : List Num.Pc} (h : HoldsPc w g l) (k : Nat) : HoldsPc w g (l.take k) := by
  intro j y hy
  rw [List.getElem?_take] at hy
  split at hy
  · exact h j y hy
  · cases hy

theorem own_pcs {w : World} {base : Nat} {a : Option Addr} {c : Nat} {l : List Num.Pc} (h : w.ownsRow base 47 10 (.slice a l.length c) l.length (l.flatMap pcL)) : PcsAt w a l.length l := by
  refine ⟨rfl, ?_⟩
  rcases h.2 with ⟨_, h0⟩ | ⟨g, cap, cur, hv, _, hg, _⟩
  · exact Or.inl h0
  · simp only [Value.slice.injEq] at hv
    obtain ⟨rfl, _, rfl⟩ := hv
    exact Or.inr ⟨g, rfl, (Array.getElem?_eq_some_iff.1 hg).1, holds_of_owns h⟩

def Num.wideL (l : List Num.Pc) : List Num.Pc := l.filter fun x => !Num.spotB x

theorem Num.wide_snoc (l : List Num.Pc) (k : Nat) (y : Num.Pc) (h : l[k]? = some y) : Num.wideL (l.take (k + 1)) = Num.wideL (l.take k) ++ (if Num.spotB y = true then [] else [y]) := by
  unfold Num.wideL
  rw [List.take_add_one, h, List.filter_append]
  congr 1
  simp only [Option.toList_some, List.filter_cons, List.filter_nil]
  cases Num.spotB y <;> rfl

theorem HoldsPc.ten {w : World} {g : Nat} {l : List Num.Pc} (h : HoldsPc w g l) {k : Nat} {fo : Bool} {fn fd : Int} {to : Bool} {tn td bn bd sn sd : Int} (hk : l[k]? = some ⟨⟨fo, fn, fd⟩, ⟨to, tn, td⟩, bn, bd, sn, sd⟩) :
    w.cell? ⟨g, k * 10, none⟩ = some (.bool fo) ∧ w.cell? ⟨g, k * 10 + 1, none⟩ = some (.int .i64 fn) ∧ w.cell? ⟨g, k * 10 + 2, none⟩ = some (.int .i64 fd) ∧ w.cell? ⟨g, k * 10 + 3, none⟩ = some (.bool to) ∧ w.cell? ⟨g, k * 10 + 4, none⟩ = some (.int .i64 tn) ∧ w.cell? ⟨g, k * 10 + 5, none⟩ = some (.int .i64 td) ∧ w.cell? ⟨g, k * 10 + 6, none⟩ = some (.int .i64 bn) ∧ w.cell? ⟨g, k * 10 + 7, none⟩ = some (.int .i64 bd) ∧ w.cell? ⟨g, k * 10 + 8, none⟩ = some (.int .i64 sn) ∧ w.cell? ⟨g, k * 10 + 9, none⟩ = some (.int .i64 sd) :=
  ⟨(h k _ hk 0 _ rfl).1, (h k _ hk 1 _ rfl).1, (h k _ hk 2 _ rfl).1, (h k _ hk 3 _ rfl).1, (h k _ hk 4 _ rfl).1, (h k _ hk 5 _ rfl).1, (h k _ hk 6 _ rfl).1, (h k _ hk 7 _ rfl).1, (h k _ hk 8 _ rfl).1, (h k _ hk 9 _ rfl).1⟩

set_option maxRecDepth 4000 in
set_option maxHeartbeats 1600000 in
theorem longest_any (g cap : Nat) (l : List Num.Pc) (w : World) (hh : HoldsPc w g l) (hg : g < w.heap.size) (hlen : l.length ≤ 1000) (hcap : l.length ≤ cap) :
    Calls Tryz.prog 11 #[.slice (some ⟨g, 0, none⟩) l.length cap] w fun e w' => ∃ a c, e = .returned (.slice a (Num.longN l).length c) ∧ PcsAt w' a (Num.longN l).length (Num.longN l) ∧ Below w.heap.size w w' := by
  have HH : Hid (HoldsPc w g l) := hh
  clear hh
  obtain ⟨i0, hif, hz0, hz1, hz2⟩ := info_parts Tryz.infoPiece
  generalize hn : l.length = n at *
  have HN : Hid (l.length = n) := hn
  clear hn
  go_enter Tryz.func11, Tryz.ntmps11
  go_wp2
  go_loopw [3, 8] (fun v i wr => ∃ k : Nat, k ≤ n ∧ i = .int .i64 k ∧ wr.ownsRow w.heap.size 47 10 v (Num.wideL (l.take k)).length ((Num.wideL (l.take k)).flatMap pcL) ∧ Below w.heap.size w wr) (fun _ i _ => n - (intOf i).toNat)
  case atStart => exact ⟨0, Nat.zero_le _, rfl, ⟨rfl, Or.inl ⟨rfl, rfl⟩⟩, Below.refl _ _⟩
  case round =>
    obtain ⟨k, hk, rfl, hown, hbl⟩ := hrel
    have HOWN : Hid _ := hown
    by_cases hlt : k < n
    · obtain ⟨y, hy⟩ : ∃ y, l[k]? = some y := ⟨_, List.getElem?_eq_getElem (by have := HN.out; omega)⟩
      have hsn := Num.wide_snoc l k y hy
      have hHr := HH.out.below hbl hg
      obtain ⟨⟨fo, fn, fd⟩, ⟨to, tn, td⟩, bn, bd, sn, sd⟩ := y
      obtain ⟨c0, c1, c2, c3, c4, c5, c6, c7, c8, c9⟩ := hHr.ten hy
      have hE := end_eq fo fn fd to tn td
      have hsp : Num.spotB ⟨⟨fo, fn, fd⟩, ⟨to, tn, td⟩, bn, bd, sn, sd⟩ = (!fo && ((fo == to) && ((fn == tn) && (fd == td)))) := by
        unfold Num.spotB
        cases fo <;> cases to <;> by_cases h1 : fn = tn <;> by_cases h2 : fd = td <;> simp [h1, h2]
      cases fo
      · generalize ((false == to) && ((fn == tn) && (fd == td))) = q at *
        cases q
        · skip
          have hgx := (World.grownBy_alloc wr (.cells #[.bool false, .int .i64 fn, .int .i64 fd, .bool to, .int .i64 tn, .int .i64 td, .int .i64 bn, .int .i64 bd, .int .i64 sn, .int .i64 sd] 47) none).trans (World.grownBy_alloc _ (.cells #[.bool false, .int .i64 fn, .int .i64 fd, .bool to, .int .i64 tn, .int .i64 td, .int .i64 bn, .int .i64 bd, .int .i64 sn, .int .i64 sd] 47) none)
          have HOX : Hid _ := World.ownsRow.kept HOWN.out hgx (by cases u3.ownBlock <;> simp)
          have HBX : Hid (Below w.heap.size w ((wr.alloc (.cells #[.bool false, .int .i64 fn, .int .i64 fd, .bool to, .int .i64 tn, .int .i64 td, .int .i64 bn, .int .i64 bd, .int .i64 sn, .int .i64 sd] 47)).alloc (.cells #[.bool false, .int .i64 fn, .int .i64 fd, .bool to, .int .i64 tn, .int .i64 td, .int .i64 bn, .int .i64 bd, .int .i64 sn, .int .i64 sd] 47))) := bstep (bstep hbl (balloc _ _)) (balloc _ _)
          have HSN : Hid (Num.wideL (l.take (k + 1)) = Num.wideL (l.take k) ++ [⟨⟨false, fn, fd⟩, ⟨to, tn, td⟩, bn, bd, sn, sd⟩]) := by show _ = _; rw [hsn, if_neg (by rw [hsp]; simp)]
          have hwl : (Num.wideL (l.take k)).length ≤ k := Nat.le_trans (List.length_filter_le _ _) (by rw [List.length_take]; omega)
          clear hgx hsn hsp hown hHr
          generalize hcnt : (Num.wideL (l.take k)).length = cnt at *
          have HCNT : Hid _ := hcnt
          clear hcnt
          go_wp2_with (at_builtin; refine wpList_append_own _ rfl (.tmp 22) (.tmp 24) 27 rfl w.heap.size 47 i0 (.agg #[.bool false, .int .i64 0, .int .i64 0, .bool false, .int .i64 0, .int .i64 0, .int .i64 0, .int .i64 0, .int .i64 0, .int .i64 0]) 10 80 Tryz.underlying27 hif hz0 hz1 hz2 rfl (by decide) _ cnt _ rfl HOX.out ⟨wr.heap.size + 1, 0, none⟩ 1 1 [.bool false, .int .i64 fn, .int .i64 fd, .bool to, .int .i64 tn, .int .i64 td, .int .i64 bn, .int .i64 bd, .int .i64 sn, .int .i64 sd] rfl rfl ?o3 ?o4 ?o5 ?o6 ?o7 ?_)
          case o3 =>
            intro j u hu
            rw [show wr.heap.size + 1 = (wr.alloc (.cells #[.bool false, .int .i64 fn, .int .i64 fd, .bool to, .int .i64 tn, .int .i64 td, .int .i64 bn, .int .i64 bd, .int .i64 sn, .int .i64 sd] 47)).heap.size by simp, Addr.add_lit, Nat.zero_add, World.cell?_alloc_new]
            simpa using hu
          case o4 =>
            intro u hu
            simp only [List.mem_cons, List.not_mem_nil, or_false] at hu
            rcases hu with rfl | rfl | rfl | rfl | rfl | rfl | rfl | rfl | rfl | rfl <;> rfl
          case o5 => unfold maxLen; omega
          case o6 => omega
          case o7 => exact HBX.out.size
          intro v4 w4 hown4 hgrow4 _
          have HB4 : Hid (Below w.heap.size w w4) := HBX.out.grown hgrow4 HBX.out.size (fun q hq => own_base HOX.out hq)
          have HO4 : Hid (w4.ownsRow w.heap.size 47 10 v4 (Num.wideL (l.take (k + 1))).length ((Num.wideL (l.take (k + 1))).flatMap pcL)) := by
            show w4.ownsRow _ _ _ _ _ _
            rw [HSN.out, List.length_append, List.flatMap_append, HCNT.out]
            exact hown4
          clear hown4 hgrow4 HOX HBX HSN HCNT
          go_wp2
          go_roundw
          case rel => exact ⟨k + 1, hlt, by go_num, HO4.out, HB4.out⟩
          case measure => simp [intOf]; omega

        · have HSN : Hid (Num.wideL (l.take (k + 1)) = Num.wideL (l.take k)) := by show _ = _; rw [hsn, if_pos (by rw [hsp]; rfl), List.append_nil]
          have HB4 : Hid (Below w.heap.size w (wr.alloc (.cells #[.bool false, .int .i64 fn, .int .i64 fd, .bool to, .int .i64 tn, .int .i64 td, .int .i64 bn, .int .i64 bd, .int .i64 sn, .int .i64 sd] 47))) := bstep hbl (balloc _ _)
          have HO4 : Hid _ := World.ownsRow.kept HOWN.out (World.grownBy_alloc wr (.cells #[.bool false, .int .i64 fn, .int .i64 fd, .bool to, .int .i64 tn, .int .i64 td, .int .i64 bn, .int .i64 bd, .int .i64 sn, .int .i64 sd] 47) none) (by cases u3.ownBlock <;> simp)
          clear hsn hsp hown hHr
          go_wp2
          go_roundw
          case rel => exact ⟨k + 1, hlt, by go_num, by rw [HSN.out]; exact HO4.out, HB4.out⟩
          case measure => simp [intOf]; omega
      · skip
        have hgx := (World.grownBy_alloc wr (.cells #[.bool true, .int .i64 fn, .int .i64 fd, .bool to, .int .i64 tn, .int .i64 td, .int .i64 bn, .int .i64 bd, .int .i64 sn, .int .i64 sd] 47) none).trans (World.grownBy_alloc _ (.cells #[.bool true, .int .i64 fn, .int .i64 fd, .bool to, .int .i64 tn, .int .i64 td, .int .i64 bn, .int .i64 bd, .int .i64 sn, .int .i64 sd] 47) none)
        have HOX : Hid _ := World.ownsRow.kept HOWN.out hgx (by cases u3.ownBlock <;> simp)
        have HBX : Hid (Below w.heap.size w ((wr.alloc (.cells #[.bool true, .int .i64 fn, .int .i64 fd, .bool to, .int .i64 tn, .int .i64 td, .int .i64 bn, .int .i64 bd, .int .i64 sn, .int .i64 sd] 47)).alloc (.cells #[.bool true, .int .i64 fn, .int .i64 fd, .bool to, .int .i64 tn, .int .i64 td, .int .i64 bn, .int .i64 bd, .int .i64 sn, .int .i64 sd] 47))) := bstep (bstep hbl (balloc _ _)) (balloc _ _)
        have HSN : Hid (Num.wideL (l.take (k + 1)) = Num.wideL (l.take k) ++ [⟨⟨true, fn, fd⟩, ⟨to, tn, td⟩, bn, bd, sn, sd⟩]) := by show _ = _; rw [hsn, if_neg (by rw [hsp]; simp)]
        have hwl : (Num.wideL (l.take k)).length ≤ k := Nat.le_trans (List.length_filter_le _ _) (by rw [List.length_take]; omega)
        clear hgx hsn hsp hown hHr
        generalize hcnt : (Num.wideL (l.take k)).length = cnt at *
        have HCNT : Hid _ := hcnt
        clear hcnt
        go_wp2_with (at_builtin; refine wpList_append_own _ rfl (.tmp 22) (.tmp 24) 27 rfl w.heap.size 47 i0 (.agg #[.bool false, .int .i64 0, .int .i64 0, .bool false, .int .i64 0, .int .i64 0, .int .i64 0, .int .i64 0, .int .i64 0, .int .i64 0]) 10 80 Tryz.underlying27 hif hz0 hz1 hz2 rfl (by decide) _ cnt _ rfl HOX.out ⟨wr.heap.size + 1, 0, none⟩ 1 1 [.bool true, .int .i64 fn, .int .i64 fd, .bool to, .int .i64 tn, .int .i64 td, .int .i64 bn, .int .i64 bd, .int .i64 sn, .int .i64 sd] rfl rfl ?o3 ?o4 ?o5 ?o6 ?o7 ?_)
        case o3 =>
          intro j u hu
          rw [show wr.heap.size + 1 = (wr.alloc (.cells #[.bool true, .int .i64 fn, .int .i64 fd, .bool to, .int .i64 tn, .int .i64 td, .int .i64 bn, .int .i64 bd, .int .i64 sn, .int .i64 sd] 47)).heap.size by simp, Addr.add_lit, Nat.zero_add, World.cell?_alloc_new]
          simpa using hu
        case o4 =>
          intro u hu
          simp only [List.mem_cons, List.not_mem_nil, or_false] at hu
          rcases hu with rfl | rfl | rfl | rfl | rfl | rfl | rfl | rfl | rfl | rfl <;> rfl
        case o5 => unfold maxLen; omega
        case o6 => omega
        case o7 => exact HBX.out.size
        intro v4 w4 hown4 hgrow4 _
        have HB4 : Hid (Below w.heap.size w w4) := HBX.out.grown hgrow4 HBX.out.size (fun q hq => own_base HOX.out hq)
        have HO4 : Hid (w4.ownsRow w.heap.size 47 10 v4 (Num.wideL (l.take (k + 1))).length ((Num.wideL (l.take (k + 1))).flatMap pcL)) := by
          show w4.ownsRow _ _ _ _ _ _
          rw [HSN.out, List.length_append, List.flatMap_append, HCNT.out]
          exact hown4
        clear hown4 hgrow4 HOX HBX HSN HCNT
        go_wp2
        go_roundw
        case rel => exact ⟨k + 1, hlt, by go_num, HO4.out, HB4.out⟩
        case measure => simp [intOf]; omega

    · have hke : k = n := by omega
      subst hke
      have htk : l.take k = l := List.take_of_length_le (by have := HN.out; omega)
      rw [htk] at hown
      obtain ⟨a, c, rfl⟩ := own_shapeK hown
      have HPC : Hid (PcsAt wr a (Num.wideL l).length (Num.wideL l)) := own_pcs hown
      have HHR : Hid (HoldsPc wr g l) := HoldsPc.below HH.out hbl hg
      have hgr : g < wr.heap.size := Nat.lt_of_lt_of_le hg hbl.size
      have HBL : Hid (Below w.heap.size w wr) := hbl
      have HLO : Hid (Num.longN l = if Num.wideL l = [] then l.take 1 else Num.wideL l) := rfl
      clear hown HOWN htk hbl
      by_cases hz : (Num.wideL l).length = 0
      · have hlo : Num.longN l = l.take 1 := by rw [HLO.out, if_pos (List.eq_nil_of_length_eq_zero hz)]
        have HLO2 : Hid _ := hlo
        have hz' : (((Num.wideL l).length : Int) == 0) = true := by simp [hz]
        by_cases hk0 : k = 0
        · have HFIN : Hid (PcsAt wr (some ⟨g, 0, none⟩) (l.take 1).length (l.take 1)) := ⟨rfl, Or.inl (by rw [List.length_take]; have := HN.out; omega)⟩
          have HL1 : Hid ((l.take 1).length = 0) := by show _ = _; rw [List.length_take]; have := HN.out; omega
          subst hk0
          have hmin : min (0 : Int) 1 = 0 := by decide
          clear hlo HPC HHR HLO
          go_wp2_with fail
          go_ret
          rw [HLO2.out]
          refine ⟨some ⟨g, 0, none⟩, cap, ?_, HFIN.out, HBL.out⟩
          rw [HL1.out]; rfl
        · have HFIN : Hid (PcsAt wr (some ⟨g, 0, none⟩) (l.take 1).length (l.take 1)) := ⟨rfl, Or.inr ⟨g, rfl, hgr, HoldsPc.take HHR.out 1⟩⟩
          have HL1 : Hid ((l.take 1).length = 1) := by show _ = _; rw [List.length_take]; have := HN.out; omega
          have hmin : min (k : Int) 1 = 1 := by omega
          clear hlo HPC HHR HLO
          go_wp2_with fail
          go_ret
          rw [HLO2.out]
          refine ⟨some ⟨g, 0, none⟩, cap, ?_, HFIN.out, HBL.out⟩
          rw [HL1.out]; rfl
      · have hlo : Num.longN l = Num.wideL l := by rw [HLO.out, if_neg (fun h => hz (by rw [h]; rfl))]
        have HLO2 : Hid _ := hlo
        have hz' : (((Num.wideL l).length : Int) == 0) = false := by simpa using hz
        clear hlo HHR HLO
        go_wp2_with fail
        go_ret
        rw [HLO2.out]
        exact ⟨a, c, rfl, HPC.out, HBL.out⟩

end Go.Proofs.YtipcbhodlgoflabGreat
