/- What the document's joined does. -/
import Derived.Laws.AppendOwnNone
import Derived.Test.YtipcbhodlgoflabSwpKG
import Derived.Test.YtipcbhodlgoflabSwpPN
import Derived.Test.YtipcbhodlgoflabSwpR
import Derived.Test.YtipcbhodlgoflabSwpB0
namespace Go.Proofs.Ytipcbhodlgoflab
open Go.RowKit

/-- A slice of pieces: nil, or some. -/
def PcsV (w : World) (v : Value) (l : List Num.Pc) : Prop := (l = [] ∧ v = .slice none 0 0) ∨ (∃ g c, v = .slice (some ⟨g, 0, none⟩) l.length c ∧ g < w.heap.size ∧ HoldsPc w g l ∧ l ≠ [] ∧ l.length ≤ c)

theorem PcsV.below {w w' : World} {v : Value} {l : List Num.Pc} (h : PcsV w v l) (hb : Below w.heap.size w w') : PcsV w' v l := by
  rcases h with h | ⟨g, c, h1, h2, h3, h4, h5⟩
  · exact Or.inl h
  · exact Or.inr ⟨g, c, h1, Nat.lt_of_lt_of_le h2 hb.size, HoldsPc.below h3 hb h2, h4, h5⟩

theorem own_pcsV {w : World} {base : Nat} {v : Value} {l : List Num.Pc} (h : w.ownsRow base 58 10 v l.length (l.flatMap pcL)) (hl : l ≠ []) : PcsV w v l := by
  rcases h.2 with ⟨_, h0⟩ | ⟨g, cap, cur, rfl, _, hg, hc, _⟩
  · exact absurd (List.eq_nil_of_length_eq_zero h0) hl
  · exact Or.inr ⟨g, cap, rfl, (Array.getElem?_eq_some_iff.1 hg).1, holds_of_owns h, hl, hc⟩

theorem flat_len (l : List Num.Pc) : (l.flatMap pcL).length = l.length * 10 := by
  induction l with
  | nil => rfl
  | cons x l ih => rw [List.flatMap_cons, List.length_append, ih, List.length_cons]; show 10 + _ = _; omega

theorem flat_at (l : List Num.Pc) (t : Nat) (u : Value) (h : (l.flatMap pcL)[t]? = some u) : ∃ y, l[t / 10]? = some y ∧ (pcL y)[t % 10]? = some u := by
  induction l generalizing t with
  | nil => simp at h
  | cons x l ih =>
    rw [List.flatMap_cons] at h
    by_cases ht : t < 10
    · rw [List.getElem?_append_left (by exact ht)] at h
      refine ⟨x, ?_, ?_⟩
      · rw [Nat.div_eq_of_lt ht]; rfl
      · rw [Nat.mod_eq_of_lt ht]; exact h
    · rw [List.getElem?_append_right (by show 10 ≤ t; omega)] at h
      obtain ⟨y, h1, h2⟩ := ih (t - (pcL x).length) h
      have e1 : (t - (pcL x).length) / 10 + 1 = t / 10 := by show (t - 10) / 10 + 1 = _; omega
      have e2 : (t - (pcL x).length) % 10 = t % 10 := by show (t - 10) % 10 = _; omega
      refine ⟨y, ?_, by rw [← e2]; exact h2⟩
      rw [← e1]; exact h1

theorem HoldsPc.flat {w : World} {g : Nat} {l : List Num.Pc} (h : HoldsPc w g l) (t : Nat) (u : Value) (hu : (l.flatMap pcL)[t]? = some u) : w.cell? (Addr.add ⟨g, 0, none⟩ t) = some u := by
  obtain ⟨y, h1, h2⟩ := flat_at l t u hu
  have := (h (t / 10) y h1 (t % 10) u h2).1
  rw [Addr.add_lit, Nat.zero_add]
  rw [show t / 10 * 10 + t % 10 = t by omega] at this
  exact this

theorem flat_one (l : List Num.Pc) (u : Value) (hu : u ∈ l.flatMap pcL) : u.oneCell' = true := by
  obtain ⟨y, _, hy⟩ := List.mem_flatMap.1 hu
  simp only [pcL, List.mem_cons, List.not_mem_nil, or_false] at hy
  rcases hy with rfl | rfl | rfl | rfl | rfl | rfl | rfl | rfl | rfl | rfl <;> rfl

theorem HoldsPc.set {w : World} {g : Nat} {l : List Num.Pc} (h : HoldsPc w g l) (k i : Nat) (y y' : Num.Pc) (u : Value) (hk : l[k]? = some y) (hy : pcL y' = (pcL y).set i u) (hi : i < 10) : HoldsPc (w.setCell ⟨g, k * 10 + i, none⟩ u) g (l.set k y') := by
  intro j z hz t v hv
  have ht : t < 10 := (List.getElem?_eq_some_iff.1 hv).1
  by_cases hjk : j = k
  · subst hjk
    have hl : j < l.length := (List.getElem?_eq_some_iff.1 hk).1
    rw [List.getElem?_set_self hl] at hz
    cases hz
    rw [hy] at hv
    by_cases hti : t = i
    · subst hti
      rw [List.getElem?_set_self (by exact ht)] at hv
      cases hv
      obtain ⟨v0, hv0⟩ : ∃ v0, (pcL y)[t]? = some v0 := ⟨_, List.getElem?_eq_getElem (by exact ht)⟩
      obtain ⟨h1, h2⟩ := h j y hk t v0 hv0
      exact ⟨cell_set_eq h1, by simpa using h2⟩
    · rw [List.getElem?_set_ne (by omega)] at hv
      obtain ⟨h1, h2⟩ := h j y hk t v hv
      exact ⟨by rw [cell_set_ne (by omega)]; exact h1, by simpa using h2⟩
  · rw [List.getElem?_set_ne (by omega)] at hz
    obtain ⟨h1, h2⟩ := h j z hz t v hv
    exact ⟨by rw [cell_set_ne (by omega)]; exact h1, by simpa using h2⟩

theorem Num.join_at (x y : Num.Pc) : ∀ (l : List Num.Pc) (k : Nat), (∀ j z, j < k → l[j]? = some z → ¬ Num.sameL z x) → l[k]? = some y → Num.sameL y x → Num.joinedN l x = l.set k (Num.mergeN y x) := by
  intro l
  induction l with
  | nil => intro k _ h; simp at h
  | cons z l ih =>
    intro k hn hk hs
    unfold Num.joinedN
    cases k with
    | zero =>
      simp only [List.getElem?_cons_zero, Option.some.injEq] at hk
      subst hk
      rw [if_pos hs]; rfl
    | succ k =>
      rw [List.getElem?_cons_succ] at hk
      rw [if_neg (hn 0 z (by omega) rfl), ih k (fun j q hj hq => hn (j + 1) q (by omega) (by rw [List.getElem?_cons_succ]; exact hq)) hk hs]
      rfl

/-- The boxes of joined. -/
structure JB (w : World) (xs : List Value) (w' : World) : Prop where
  x : Bx w.heap.size xs w'
  bel : Below w.heap.size w w'

theorem JB.step {w v v' : World} {xs : List Value} (h : JB w xs v) (hb : Below v.heap.size v v') : JB w xs v' := ⟨h.x.step hb, bstep h.bel hb⟩
theorem JB.set {w v : World} {xs : List Value} (h : JB w xs v) (g i : Nat) (u : Value) (hg : ¬ w.heap.size = g) (hw : w.heap.size ≤ g := by omega) : JB w xs (v.setCell ⟨g, i, none⟩ u) := ⟨h.x.other hg i u, bset h.bel hw u⟩

theorem Bx.all10 {b : Nat} {a0 a1 a2 a3 a4 a5 a6 a7 a8 a9 : Value} {w : World} (h : Bx b [a0, a1, a2, a3, a4, a5, a6, a7, a8, a9] w) :
    w.cell? ⟨b, 0, none⟩ = some a0 ∧ w.cell? ⟨b, 1, none⟩ = some a1 ∧ w.cell? ⟨b, 2, none⟩ = some a2 ∧ w.cell? ⟨b, 3, none⟩ = some a3 ∧ w.cell? ⟨b, 4, none⟩ = some a4 ∧ w.cell? ⟨b, 5, none⟩ = some a5 ∧ w.cell? ⟨b, 6, none⟩ = some a6 ∧ w.cell? ⟨b, 7, none⟩ = some a7 ∧ w.cell? ⟨b, 8, none⟩ = some a8 ∧ w.cell? ⟨b, 9, none⟩ = some a9 :=
  ⟨h.c 0 _ rfl, h.c 1 _ rfl, h.c 2 _ rfl, h.c 3 _ rfl, h.c 4 _ rfl, h.c 5 _ rfl, h.c 6 _ rfl, h.c 7 _ rfl, h.c 8 _ rfl, h.c 9 _ rfl⟩

theorem news_ten {w : World} {a0 a1 a2 a3 a4 a5 a6 a7 a8 a9 : Value} {t : TypeId} : ∀ (j : Nat) (x : Value), [a0, a1, a2, a3, a4, a5, a6, a7, a8, a9][j]? = some x → (w.alloc (.cells #[a0, a1, a2, a3, a4, a5, a6, a7, a8, a9] t)).cell? (Addr.add ⟨w.heap.size, 0, none⟩ j) = some x := by
  intro j x hj
  rw [Addr.add_lit, Nat.zero_add, World.cell?_alloc_new]
  simpa using hj

theorem ten_one {fo tt : Bool} {fn fd tn td bn bd sn sd : Int} : ∀ u ∈ [Value.bool fo, .int .i64 fn, .int .i64 fd, .bool tt, .int .i64 tn, .int .i64 td, .int .i64 bn, .int .i64 bd, .int .i64 sn, .int .i64 sd], u.oneCell' = true := by
  intro u hu
  simp only [List.mem_cons, List.not_mem_nil, or_false] at hu
  rcases hu with rfl | rfl | rfl | rfl | rfl | rfl | rfl | rfl | rfl | rfl <;> rfl

theorem joined_end {w w' : World} {base : Nat} {v : Value} {l : List Num.Pc} (h : w'.ownsRow base 58 10 v l.length (l.flatMap pcL)) (hl : 0 < l.length) (hb : Below w.heap.size w w') : ∃ g c, Ending.returned v = .returned (.slice (some ⟨g, 0, none⟩) l.length c) ∧ HoldsPc w' g l ∧ g < w'.heap.size ∧ l.length ≤ c ∧ Below w.heap.size w w' := by
  rcases h.2 with ⟨_, h0⟩ | ⟨g, cap, cur, rfl, _, hg, hc, _⟩
  · omega
  · exact ⟨g, cap, rfl, holds_of_owns h, (Array.getElem?_eq_some_iff.1 hg).1, hc, hb⟩


set_option maxRecDepth 4000 in
set_option maxHeartbeats 1600000 in
theorem rjoined_any (v0 : Value) (l : List Num.Pc) (X : Num.Pc) (w : World) (hl : PcsV w v0 l) (hlen : l.length ≤ 1000) (hX : Num.PcOk X) (hok : ∀ y ∈ l, Num.PcOk y) :
    Calls Try.prog 56 #[v0, .agg (pcL X).toArray] w fun e w' => ∃ g c, e = .returned (.slice (some ⟨g, 0, none⟩) (Num.joinedN l X).length c) ∧ HoldsPc w' g (Num.joinedN l X) ∧ g < w'.heap.size ∧ (Num.joinedN l X).length ≤ c ∧ Below w.heap.size w w' := by
  obtain ⟨i0, hif, hz0, hz1, hz2⟩ := info_parts Try.infoPiece
  have HOK : Hid (∀ y ∈ l, Num.PcOk y) := hok
  have HXO : Hid (Num.PcOk X) := hX
  clear hok hX
  have hXe : X = ⟨X.f, X.t, X.bn, X.bd, X.sn, X.sd⟩ := rfl
  obtain ⟨fo, hfo⟩ : ∃ q, X.f.o = q := ⟨_, rfl⟩
  obtain ⟨fn, hfn⟩ : ∃ q, X.f.n = q := ⟨_, rfl⟩
  obtain ⟨fd, hfd⟩ : ∃ q, X.f.d = q := ⟨_, rfl⟩
  obtain ⟨tt, hto⟩ : ∃ q, X.t.o = q := ⟨_, rfl⟩
  obtain ⟨tn, htn⟩ : ∃ q, X.t.n = q := ⟨_, rfl⟩
  obtain ⟨td, htd⟩ : ∃ q, X.t.d = q := ⟨_, rfl⟩
  obtain ⟨bn, hbn⟩ : ∃ q, X.bn = q := ⟨_, rfl⟩
  obtain ⟨bd, hbd⟩ : ∃ q, X.bd = q := ⟨_, rfl⟩
  obtain ⟨sn, hsn⟩ : ∃ q, X.sn = q := ⟨_, rfl⟩
  obtain ⟨sd, hsd⟩ : ∃ q, X.sd = q := ⟨_, rfl⟩
  have HXE : Hid (X = ⟨⟨fo, fn, fd⟩, ⟨tt, tn, td⟩, bn, bd, sn, sd⟩) := by
    show X = _
    rw [← hfo, ← hfn, ← hfd, ← hto, ← htn, ← htd, ← hbn, ← hbd, ← hsn, ← hsd]
  have hpc : pcL X = [.bool fo, .int .i64 fn, .int .i64 fd, .bool tt, .int .i64 tn, .int .i64 td, .int .i64 bn, .int .i64 bd, .int .i64 sn, .int .i64 sd] := by rw [HXE.out]; rfl
  rw [hpc]
  clear hXe hfo hfn hfd hto htn htd hbn hbd hsn hsd hpc
  have hgx := (World.grownBy_alloc w (.cells #[.bool fo, .int .i64 fn, .int .i64 fd, .bool tt, .int .i64 tn, .int .i64 td, .int .i64 bn, .int .i64 bd, .int .i64 sn, .int .i64 sd] 58) none).trans (World.grownBy_alloc _ (.cells #[] 58) none)
  have hxb : Bx w.heap.size [.bool fo, .int .i64 fn, .int .i64 fd, .bool tt, .int .i64 tn, .int .i64 td, .int .i64 bn, .int .i64 bd, .int .i64 sn, .int .i64 sd] ((w.alloc (.cells #[.bool fo, .int .i64 fn, .int .i64 fd, .bool tt, .int .i64 tn, .int .i64 td, .int .i64 bn, .int .i64 bd, .int .i64 sn, .int .i64 sd] 58)).alloc (.cells #[] 58)) := (Bx.new rfl _ _).step (balloc _ _)
  have hwb : Below w.heap.size w ((w.alloc (.cells #[.bool fo, .int .i64 fn, .int .i64 fd, .bool tt, .int .i64 tn, .int .i64 td, .int .i64 bn, .int .i64 bd, .int .i64 sn, .int .i64 sd] 58)).alloc (.cells #[] 58)) := bstep (balloc _ _) (balloc _ _)
  have hmade : ((w.alloc (.cells #[.bool fo, .int .i64 fn, .int .i64 fd, .bool tt, .int .i64 tn, .int .i64 td, .int .i64 bn, .int .i64 bd, .int .i64 sn, .int .i64 sd] 58)).alloc (.cells #[] 58)).ownsRow (w.heap.size + 1) 58 10 (.slice (some ⟨w.heap.size + 1, 0, none⟩) 0 0) 0 [] := by
    have := World.ownsRow_made (size := 10) (base := w.heap.size + 1) (e := 58) (w.alloc (.cells #[.bool fo, .int .i64 fn, .int .i64 fd, .bool tt, .int .i64 tn, .int .i64 td, .int .i64 bn, .int .i64 bd, .int .i64 sn, .int .i64 sd] 58)) #[] 0 (by simp) (Nat.zero_le _) rfl
    simpa using this
  have HMADE : Hid (((w.alloc (.cells #[.bool fo, .int .i64 fn, .int .i64 fd, .bool tt, .int .i64 tn, .int .i64 td, .int .i64 bn, .int .i64 bd, .int .i64 sn, .int .i64 sd] 58)).alloc (.cells #[] 58)).ownsRow (w.heap.size + 1) 58 10 (.slice (some ⟨w.heap.size + 1, 0, none⟩) 0 0) 0 []) := hmade
  have HXB : Hid _ := hxb
  have HWB : Hid _ := hwb
  clear hmade hxb hwb hgx
  rcases hl with ⟨rfl, rfl⟩ | ⟨g0, c0, rfl, hg0, hh0, hne, _⟩
  · go_enter Try.func56, Try.ntmps56
    go_wp2_with (at_builtin; refine wpList_append_own_none rfl (.tmp 7) (.tmp 8) 61 rfl (w.heap.size + 1) 58 i0 10 Try.underlying61 hif _ 0 [] rfl HMADE.out rfl ?_)
    have hw1 : w.heap.size + 1 < ((w.alloc (.cells #[.bool fo, .int .i64 fn, .int .i64 fd, .bool tt, .int .i64 tn, .int .i64 td, .int .i64 bn, .int .i64 bd, .int .i64 sn, .int .i64 sd] 58)).alloc (.cells #[] 58)).heap.size := by simp
    have HMADE2 : Hid (((w.alloc (.cells #[.bool fo, .int .i64 fn, .int .i64 fd, .bool tt, .int .i64 tn, .int .i64 td, .int .i64 bn, .int .i64 bd, .int .i64 sn, .int .i64 sd] 58)).alloc (.cells #[] 58)).ownsRow (w.heap.size + 1) 58 10 (.slice (some ⟨w.heap.size + 1, 0, none⟩) 0 0) 0 []) := HMADE.out
    have HXB2 : Hid (Bx w.heap.size [.bool fo, .int .i64 fn, .int .i64 fd, .bool tt, .int .i64 tn, .int .i64 td, .int .i64 bn, .int .i64 bd, .int .i64 sn, .int .i64 sd] ((w.alloc (.cells #[.bool fo, .int .i64 fn, .int .i64 fd, .bool tt, .int .i64 tn, .int .i64 td, .int .i64 bn, .int .i64 bd, .int .i64 sn, .int .i64 sd] 58)).alloc (.cells #[] 58))) := HXB.out
    have HWB2 : Hid (Below w.heap.size w ((w.alloc (.cells #[.bool fo, .int .i64 fn, .int .i64 fd, .bool tt, .int .i64 tn, .int .i64 td, .int .i64 bn, .int .i64 bd, .int .i64 sn, .int .i64 sd] 58)).alloc (.cells #[] 58))) := HWB.out
    clear HMADE HWB HXB
    generalize (w.alloc (.cells #[.bool fo, .int .i64 fn, .int .i64 fd, .bool tt, .int .i64 tn, .int .i64 td, .int .i64 bn, .int .i64 bd, .int .i64 sn, .int .i64 sd] 58)).alloc (.cells #[] 58) = w1 at *
    go_loopw [6] (fun i wr => i = .int .i64 0 ∧ wr = w1) (fun _ _ => 0)
    case atStart => exact ⟨rfl, rfl⟩
    case round =>
      obtain ⟨rfl, rfl⟩ := hrel
      have hten := Bx.all10 HXB2.out
      obtain ⟨x0, x1, x2, x3, x4, x5, x6, x7, x8, x9⟩ := hten
      have HOX : Hid (World.ownsRow (wr.alloc (.cells #[.bool fo, .int .i64 fn, .int .i64 fd, .bool tt, .int .i64 tn, .int .i64 td, .int .i64 bn, .int .i64 bd, .int .i64 sn, .int .i64 sd] 58)) (w.heap.size + 1) 58 10 (.slice (some ⟨w.heap.size + 1, 0, none⟩) 0 0) 0 []) := World.ownsRow.kept HMADE2.out (World.grownBy_alloc wr _ none) (by simp [Value.ownBlock])
      have HBX : Hid (Below w.heap.size w (wr.alloc (.cells #[.bool fo, .int .i64 fn, .int .i64 fd, .bool tt, .int .i64 tn, .int .i64 td, .int .i64 bn, .int .i64 bd, .int .i64 sn, .int .i64 sd] 58))) := bstep HWB2.out (balloc _ _)
      go_wp2_with (at_builtin; refine wpList_append_own _ rfl (.tmp 59) (.tmp 61) 61 rfl (w.heap.size + 1) 58 i0 (.agg #[.bool false, .int .i64 0, .int .i64 0, .bool false, .int .i64 0, .int .i64 0, .int .i64 0, .int .i64 0, .int .i64 0, .int .i64 0]) 10 80 Try.underlying61 hif hz0 hz1 hz2 rfl (by decide) _ 0 [] rfl HOX.out ⟨wr.heap.size, 0, none⟩ 1 1 [.bool fo, .int .i64 fn, .int .i64 fd, .bool tt, .int .i64 tn, .int .i64 td, .int .i64 bn, .int .i64 bd, .int .i64 sn, .int .i64 sd] rfl rfl ?o3 ?o4 (by unfold maxLen; omega) (by omega) (by simp; omega) ?_)
      case o3 => exact news_ten
      case o4 => exact ten_one
      intro v4 w4 hown4 hgrow4 _
      have HB4 : Hid (Below w.heap.size w w4) := HBX.out.grown hgrow4 HBX.out.size (fun q hq => by have := own_base HOX.out hq; omega)
      have hjn : Num.joinedN [] X = [X] := rfl
      have HO4 : Hid (w4.ownsRow (w.heap.size + 1) 58 10 v4 (Num.joinedN [] X).length ((Num.joinedN [] X).flatMap pcL)) := by
        show w4.ownsRow _ _ _ _ _ _
        rw [hjn, HXE.out]
        exact hown4
      clear hown4 hgrow4 hjn
      go_wp2_with fail
      go_ret
      exact joined_end HO4.out (by simp [Num.joinedN]) HB4.out
  · have hB2 : Below w.heap.size w ((w.alloc (.cells #[.bool fo, .int .i64 fn, .int .i64 fd, .bool tt, .int .i64 tn, .int .i64 td, .int .i64 bn, .int .i64 bd, .int .i64 sn, .int .i64 sd] 58)).alloc (.cells #[] 58)) := HWB.out
    have HH2 : Hid (HoldsPc ((w.alloc (.cells #[.bool fo, .int .i64 fn, .int .i64 fd, .bool tt, .int .i64 tn, .int .i64 td, .int .i64 bn, .int .i64 bd, .int .i64 sn, .int .i64 sd] 58)).alloc (.cells #[] 58)) g0 l) := HoldsPc.below hh0 hB2 hg0
    clear hh0 hB2
    go_enter Try.func56, Try.ntmps56
    go_wp2_with (at_builtin; refine wpList_append_own _ rfl (.tmp 7) (.tmp 8) 61 rfl (w.heap.size + 1) 58 i0 (.agg #[.bool false, .int .i64 0, .int .i64 0, .bool false, .int .i64 0, .int .i64 0, .int .i64 0, .int .i64 0, .int .i64 0, .int .i64 0]) 10 80 Try.underlying61 hif hz0 hz1 hz2 rfl (by decide) _ 0 [] rfl HMADE.out ⟨g0, 0, none⟩ l.length c0 (l.flatMap pcL) rfl (flat_len l) (HoldsPc.flat HH2.out) (flat_one l) ?o5 ?o6 (by simp) ?_)
    case o5 => unfold maxLen; omega
    case o6 => omega
    intro v1 w1 ho1 hg1 _
    have hB1 : Below w.heap.size w w1 := HWB.out.grown hg1 HWB.out.size (fun q hq => by have := own_base HMADE.out hq; omega)
    have hx1 : Bx w.heap.size [.bool fo, .int .i64 fn, .int .i64 fd, .bool tt, .int .i64 tn, .int .i64 td, .int .i64 bn, .int .i64 bd, .int .i64 sn, .int .i64 sd] w1 := HXB.out.stepLow (B := w.heap.size + 1) ((Below.refl _ _).grown hg1 (by simp) (fun q hq => own_base HMADE.out hq)) (by omega)
    have hlt1 : w.heap.size < w1.heap.size := hx1.lt
    obtain ⟨g1, c1, rfl, hgb, hgl⟩ := World.ownsRow.form ho1 (List.length_pos_iff.2 hne)
    have HO1 : Hid (w1.ownsRow (w.heap.size + 1) 58 10 (.slice (some ⟨g1, 0, none⟩) l.length c1) l.length (l.flatMap pcL)) := ho1
    have HX1 : Hid _ := hx1
    have HB1 : Hid (Below w.heap.size w w1) := hB1
    clear ho1 hx1 hB1
    generalize hn : l.length = n at *
    have HN : Hid (l.length = n) := hn
    clear hn
    go_wp2_with fail
    go_loopw [6] (fun i wr => ∃ k : Nat, k ≤ n ∧ i = .int .i64 k ∧ (∀ j z, j < k → l[j]? = some z → ¬ Num.sameL z X) ∧ Below w1.heap.size w1 wr) (fun i _ => n - (intOf i).toNat)
    case atStart => exact ⟨0, Nat.zero_le _, rfl, fun j z hj => by omega, Below.refl _ _⟩
    case round =>
      obtain ⟨k, hk, rfl, hno, hbl⟩ := hrel
      have HNO : Hid _ := hno
      have hXr := HX1.out.step hbl
      have HBr : Hid (Below w.heap.size w wr) := bstep HB1.out hbl
      have HBL : Hid (Below w1.heap.size w1 wr) := hbl
      clear hno
      have HH1 : Hid (HoldsPc wr g1 l) := HoldsPc.below (holds_of_owns (by have := HO1.out; rw [← HN.out] at this; exact this)) hbl hgl
      have hglr : g1 < wr.heap.size := Nat.lt_of_lt_of_le hgl hbl.size
      by_cases hlt : k < n
      · obtain ⟨y, hy⟩ : ∃ y, l[k]? = some y := ⟨_, List.getElem?_eq_getElem (by have := HN.out; omega)⟩
        have HYE : Hid (l[k]? = some y) := hy
        have HKL : Hid (k < l.length) := by show _ < _; have := HN.out; omega
        have HYO : Hid (Num.PcOk y) := HOK.out y (List.mem_of_getElem? hy)
        obtain ⟨x0, x1, x2, x3, x4, x5, x6, x7, x8, x9⟩ := hXr.all10
        have HSM : Hid (Num.sameL y X ↔ (y.bn = bn ∧ y.bd = bd ∧ y.sn = sn ∧ y.sd = sd)) := by rw [HXE.out]; exact Iff.rfl
        obtain ⟨⟨yo, yn, yd⟩, ⟨zo, zn, zd⟩, qn, qd, rn, rd⟩ := y
        obtain ⟨y0, y1, y2, y3, y4, y5, y6, y7, y8, y9⟩ := HH1.out.ten hy
        have hF1 := frac_eq 9998 qn qd bn bd
        have hF2 := frac_eq 9998 rn rd sn sd
        clear hy
        by_cases hs : Num.sameL ⟨⟨yo, yn, yd⟩, ⟨zo, zn, zd⟩, qn, qd, rn, rd⟩ X
        · obtain ⟨rfl, rfl, rfl, rfl⟩ := HSM.out.1 hs
          simp only [beq_self_eq_true, Bool.and_self] at hF1 hF2
          go_wp2_with fail
          go_region
          generalize hV : wr.drew = V
          have HHV : Hid (HoldsPc V g1 l) := by rw [← hV]; exact HH1.out
          have hJV : JB w [.bool fo, .int .i64 fn, .int .i64 fd, .bool tt, .int .i64 tn, .int .i64 td, .int .i64 qn, .int .i64 qd, .int .i64 rn, .int .i64 rd] V := by rw [← hV]; exact ⟨hXr.step ((Below.refl _ _).drew), HBr.out.drew⟩
          have hgV : g1 < V.heap.size := by rw [← hV]; exact hglr
          have hgne : ¬ w.heap.size = g1 := by omega
          clear hV y0 y1 y2 y3 y4 y5 y6 y7 y8 y9 x0 x1 x2 x3 x4 x5 x6 x7 x8 x9 hXr HH1 hglr hbl HBL
          obtain ⟨xf1, xf2, xt1, xt2, _⟩ := HXO.out
          rw [HXE.out] at xf1 xf2 xt1 xt2
          obtain ⟨yf1, yf2, yt1, yt2, _⟩ := HYO.out
          simp only at xf1 xf2 xt1 xt2 yf1 yf2 yt1 yt2
          have KLO : Hid (∀ w', Calls Try.prog 79 #[.agg #[.bool yo, .int .i64 yn, .int .i64 yd], .agg #[.bool fo, .int .i64 fn, .int .i64 fd]] w' fun e w'' => e = .returned (enV (Num.lowerN ⟨yo, yn, yd⟩ ⟨fo, fn, fd⟩)) ∧ Below w'.heap.size w' w'') := fun w' => rlower_any ⟨yo, yn, yd⟩ ⟨fo, fn, fd⟩ w' yf1 yf2 xf1 xf2
          have KHI : Hid (∀ w', Calls Try.prog 80 #[.agg #[.bool zo, .int .i64 zn, .int .i64 zd], .agg #[.bool tt, .int .i64 tn, .int .i64 td]] w' fun e w'' => e = .returned (enV (Num.higherN ⟨zo, zn, zd⟩ ⟨tt, tn, td⟩)) ∧ Below w'.heap.size w' w'') := fun w' => rhigher_any ⟨zo, zn, zd⟩ ⟨tt, tn, td⟩ w' yt1 yt2 xt1 xt2
          have HJ : Hid (Num.joinedN l X = l.set k ⟨Num.lowerN ⟨yo, yn, yd⟩ ⟨fo, fn, fd⟩, Num.higherN ⟨zo, zn, zd⟩ ⟨tt, tn, td⟩, qn, qd, rn, rd⟩) := by
            show _ = _
            rw [Num.join_at X _ l k HNO.out HYE.out hs, HXE.out]
            rfl
          clear xf1 xf2 xt1 xt2 yf1 yf2 yt1 yt2 hs HSM
          generalize Num.lowerN ⟨yo, yn, yd⟩ ⟨fo, fn, fd⟩ = LO at *
          generalize Num.higherN ⟨zo, zn, zd⟩ ⟨tt, tn, td⟩ = HI at *
          obtain ⟨lo, ln, ld⟩ := LO
          obtain ⟨ho, hn, hd⟩ := HI
          have p0 : ∀ w', JB w [.bool fo, .int .i64 fn, .int .i64 fd, .bool tt, .int .i64 tn, .int .i64 td, .int .i64 qn, .int .i64 qd, .int .i64 rn, .int .i64 rd] w' → w'.cell? ⟨w.heap.size, 0, none⟩ = some (.bool fo) := fun w' h => h.x.c 0 _ rfl
          have p1 : ∀ w', JB w [.bool fo, .int .i64 fn, .int .i64 fd, .bool tt, .int .i64 tn, .int .i64 td, .int .i64 qn, .int .i64 qd, .int .i64 rn, .int .i64 rd] w' → w'.cell? ⟨w.heap.size, 1, none⟩ = some (.int .i64 fn) := fun w' h => h.x.c 1 _ rfl
          have p2 : ∀ w', JB w [.bool fo, .int .i64 fn, .int .i64 fd, .bool tt, .int .i64 tn, .int .i64 td, .int .i64 qn, .int .i64 qd, .int .i64 rn, .int .i64 rd] w' → w'.cell? ⟨w.heap.size, 2, none⟩ = some (.int .i64 fd) := fun w' h => h.x.c 2 _ rfl
          have p3 : ∀ w', JB w [.bool fo, .int .i64 fn, .int .i64 fd, .bool tt, .int .i64 tn, .int .i64 td, .int .i64 qn, .int .i64 qd, .int .i64 rn, .int .i64 rd] w' → w'.cell? ⟨w.heap.size, 3, none⟩ = some (.bool tt) := fun w' h => h.x.c 3 _ rfl
          have p4 : ∀ w', JB w [.bool fo, .int .i64 fn, .int .i64 fd, .bool tt, .int .i64 tn, .int .i64 td, .int .i64 qn, .int .i64 qd, .int .i64 rn, .int .i64 rd] w' → w'.cell? ⟨w.heap.size, 4, none⟩ = some (.int .i64 tn) := fun w' h => h.x.c 4 _ rfl
          have p5 : ∀ w', JB w [.bool fo, .int .i64 fn, .int .i64 fd, .bool tt, .int .i64 tn, .int .i64 td, .int .i64 qn, .int .i64 qd, .int .i64 rn, .int .i64 rd] w' → w'.cell? ⟨w.heap.size, 5, none⟩ = some (.int .i64 td) := fun w' h => h.x.c 5 _ rfl
          unfold enV at KLO KHI
          simp only at KLO KHI
          obtain ⟨y0, y1, y2, -⟩ := HHV.out.ten HYE.out
          have HHD : Hid (HoldsPc V.drew g1 l) := HHV.out
          have hgD : g1 < V.drew.heap.size := hgV
          have hJD := hJV.step ((Below.refl _ _).drew)
          go_wp2_with fail
          refine wp_region_held_drew (S := fun w' => JB w [.bool fo, .int .i64 fn, .int .i64 fd, .bool tt, .int .i64 tn, .int .i64 td, .int .i64 qn, .int .i64 qd, .int .i64 rn, .int .i64 rd] w') (by kernel_rfl) hJD (fun hHeld => ?_)
          refine takeR (i := 0) (v := ?_) rfl (by kernel_rfl) (by kernel_rfl) (by kernel_rfl) (fun _ _ _ h => h) (Or.inl ⟨by rfl, ?_⟩) (by assumption) ?_
          rotate_left
          · (intro w' hSw; go_simp; (try with_reducible rfl))
          simp only [Act.put, List.setIfInBounds_toArray, List.set_cons_zero, List.set_cons_succ]
          refine takeR (i := 1) (v := ?_) rfl (by kernel_rfl) (by kernel_rfl) (by kernel_rfl) (fun _ _ _ h => h) (Or.inl ⟨by rfl, ?_⟩) (by assumption) ?_
          rotate_left
          · (intro w' hSw; go_simp; (try with_reducible rfl))
          simp only [Act.put, List.setIfInBounds_toArray, List.set_cons_zero, List.set_cons_succ]
          refine takeR (i := 2) (v := ?_) rfl (by kernel_rfl) (by kernel_rfl) (by kernel_rfl) (fun _ _ _ h => h) (Or.inl ⟨by rfl, ?_⟩) (by assumption) ?_
          rotate_left
          · (intro w' hSw; go_simp; (try with_reducible rfl))
          simp only [Act.put, List.setIfInBounds_toArray, List.set_cons_zero, List.set_cons_succ]
          refine takeR (i := 3) (v := ?_) rfl (by kernel_rfl) (by kernel_rfl) (by kernel_rfl) (fun _ _ _ h => h) (Or.inl ⟨by rfl, ?_⟩) (by assumption) ?_
          rotate_left
          · (intro w' hSw; go_simp; (try with_reducible rfl))
          simp only [Act.put, List.setIfInBounds_toArray, List.set_cons_zero, List.set_cons_succ]
          refine takeR (i := 4) (v := ?_) rfl (by kernel_rfl) (by kernel_rfl) (by kernel_rfl) (fun _ _ _ h => h) (Or.inl ⟨by rfl, ?_⟩) (by assumption) ?_
          rotate_left
          · (intro w' hSw; go_simp; (try with_reducible rfl))
          simp only [Act.put, List.setIfInBounds_toArray, List.set_cons_zero, List.set_cons_succ]
          refine takeR (i := 5) (v := ?_) rfl (by kernel_rfl) (by kernel_rfl) (by kernel_rfl) (fun _ _ _ h => h) (Or.inl ⟨by rfl, ?_⟩) (by assumption) ?_
          rotate_left
          · (intro w' hSw; go_simp; (try with_reducible rfl))
          simp only [Act.put, List.setIfInBounds_toArray, List.set_cons_zero, List.set_cons_succ]
          refine takeR (i := 7) (v := ?_) rfl (by kernel_rfl) (by kernel_rfl) (by kernel_rfl) (fun _ _ _ h => h) (Or.inl ⟨by rfl, ?_⟩) (by assumption) ?_
          rotate_left
          · (intro w' hSw; go_simp; (try with_reducible rfl))
          simp only [Act.put, List.setIfInBounds_toArray, List.set_cons_zero, List.set_cons_succ]
          refine takeR (i := 8) (v := ?_) rfl (by kernel_rfl) (by kernel_rfl) (by kernel_rfl) (fun _ _ _ h => h) (Or.inl ⟨by rfl, ?_⟩) (by assumption) ?_
          rotate_left
          · (intro w' hSw; go_simp; (try with_reducible rfl))
          simp only [Act.put, List.setIfInBounds_toArray, List.set_cons_zero, List.set_cons_succ]
          refine wpAnyH_ready (rs := [6]) (by kernel_rfl) (by simp) ?_
          refine readyR rfl (fun K hK => ?_)
          go_simp
          refine hK.out _ _ ?_ (fun hHeld => ?_)
          · assumption
          clear hK K
          refine wpAnyH_ready (rs := [9]) (by kernel_rfl) (by simp) ?_
          refine readyR rfl (fun K hK => ?_)
          go_simp
          refine (KLO.out _).mono ?_
          rintro e v1 ⟨rfl, hbv1⟩
          have hJv1 := JB.step hJD hbv1
          have hHv1 := HoldsPc.below HHD.out hbv1 hgD
          have hgv1 : g1 < v1.heap.size := Nat.lt_of_lt_of_le hgD hbv1.size
          refine hK.out _ _ hJv1 (fun hHeld => ?_)
          clear hK K
          refine takeR (i := 10) (v := ?_) rfl (by kernel_rfl) (by kernel_rfl) (by kernel_rfl) (fun _ _ _ h => h) (Or.inl ⟨by rfl, ?_⟩) (by assumption) ?_
          rotate_left
          · (intro w' hSw; go_simp; (try with_reducible rfl))
          simp only [Act.put, List.setIfInBounds_toArray, List.set_cons_zero, List.set_cons_succ]
          refine takeR (i := 11) (v := ?_) rfl (by kernel_rfl) (by kernel_rfl) (by kernel_rfl) (fun _ _ _ h => h) (Or.inl ⟨by rfl, ?_⟩) (by assumption) ?_
          rotate_left
          · (intro w' hSw; go_simp; (try with_reducible rfl))
          simp only [Act.put, List.setIfInBounds_toArray, List.set_cons_zero, List.set_cons_succ]
          obtain ⟨z0, z1, z2, -⟩ := hHv1.ten HYE.out
          have fz0 : v1.frozen? ⟨g1, k * 10, none⟩ = false := (hHv1 k _ HYE.out 0 _ rfl).2
          have fz1 := (hHv1 k _ HYE.out 1 _ rfl).2
          have fz2 := (hHv1 k _ HYE.out 2 _ rfl).2
          have hH2 := ((hHv1.set k 0 _ ⟨⟨lo, yn, yd⟩, ⟨zo, zn, zd⟩, qn, qd, rn, rd⟩ (.bool lo) HYE.out rfl (by omega)).set k 1 _ ⟨⟨lo, ln, yd⟩, ⟨zo, zn, zd⟩, qn, qd, rn, rd⟩ (.int .i64 ln) (List.getElem?_set_self HKL.out) rfl (by omega)).set k 2 _ ⟨⟨lo, ln, ld⟩, ⟨zo, zn, zd⟩, qn, qd, rn, rd⟩ (.int .i64 ld) (List.getElem?_set_self (by simpa using HKL.out)) rfl (by omega)
          have hJ2 := ((hJv1.set g1 (k * 10) (.bool lo) hgne).set g1 (k * 10 + 1) (.int .i64 ln) hgne).set g1 (k * 10 + 2) (.int .i64 ld) hgne
          refine wpAnyH_ready (rs := [12]) (by kernel_rfl) (by simp) ?_
          refine readyR rfl (fun K hK => ?_)
          go_simp
          refine hK.out _ _ hJ2 (fun hHeld => ?_)
          clear hK K
          refine wpAnyH_done (by kernel_rfl) ?_ _
          have HL2 : Hid ((l.set k ⟨⟨lo, ln, ld⟩, ⟨zo, zn, zd⟩, qn, qd, rn, rd⟩)[k]? = some ⟨⟨lo, ln, ld⟩, ⟨zo, zn, zd⟩, qn, qd, rn, rd⟩) := List.getElem?_set_self HKL.out
          have hH3 : HoldsPc (((v1.setCell ⟨g1, k * 10, none⟩ (.bool lo)).setCell ⟨g1, k * 10 + 1, none⟩ (.int .i64 ln)).setCell ⟨g1, k * 10 + 2, none⟩ (.int .i64 ld)) g1 (l.set k ⟨⟨lo, ln, ld⟩, ⟨zo, zn, zd⟩, qn, qd, rn, rd⟩) := by
            rw [List.set_set, List.set_set] at hH2
            exact hH2
          have hg3 : g1 < (((v1.setCell ⟨g1, k * 10, none⟩ (.bool lo)).setCell ⟨g1, k * 10 + 1, none⟩ (.int .i64 ln)).setCell ⟨g1, k * 10 + 2, none⟩ (.int .i64 ld)).heap.size := by simpa using hgv1
          clear hH2 z0 z1 z2 fz0 fz1 fz2 hHv1 hJv1 hHeld hbv1 hgv1 y0 y1 y2 hJD hgD HHD hJV hgV HHV KLO
          generalize ((v1.setCell ⟨g1, k * 10, none⟩ (.bool lo)).setCell ⟨g1, k * 10 + 1, none⟩ (.int .i64 ln)).setCell ⟨g1, k * 10 + 2, none⟩ (.int .i64 ld) = U at *
          obtain ⟨-, -, -, y3, y4, y5, -⟩ := hH3.ten HL2.out
          have HHU : Hid (HoldsPc U.drew g1 (l.set k ⟨⟨lo, ln, ld⟩, ⟨zo, zn, zd⟩, qn, qd, rn, rd⟩)) := hH3
          have hgU : g1 < U.drew.heap.size := hg3
          have hJU := hJ2.step ((Below.refl _ _).drew)
          clear hH3 hg3 hJ2
          go_wp2_with fail
          refine wp_region_held_drew (S := fun w' => JB w [.bool fo, .int .i64 fn, .int .i64 fd, .bool tt, .int .i64 tn, .int .i64 td, .int .i64 qn, .int .i64 qd, .int .i64 rn, .int .i64 rd] w') (by kernel_rfl) hJU (fun hHeld => ?_)
          refine takeR (i := 0) (v := ?_) rfl (by kernel_rfl) (by kernel_rfl) (by kernel_rfl) (fun _ _ _ h => h) (Or.inl ⟨by rfl, ?_⟩) (by assumption) ?_
          rotate_left
          · (intro w' hSw; go_simp; (try with_reducible rfl))
          simp only [Act.put, List.setIfInBounds_toArray, List.set_cons_zero, List.set_cons_succ]
          refine takeR (i := 1) (v := ?_) rfl (by kernel_rfl) (by kernel_rfl) (by kernel_rfl) (fun _ _ _ h => h) (Or.inl ⟨by rfl, ?_⟩) (by assumption) ?_
          rotate_left
          · (intro w' hSw; go_simp; (try with_reducible rfl))
          simp only [Act.put, List.setIfInBounds_toArray, List.set_cons_zero, List.set_cons_succ]
          refine takeR (i := 2) (v := ?_) rfl (by kernel_rfl) (by kernel_rfl) (by kernel_rfl) (fun _ _ _ h => h) (Or.inl ⟨by rfl, ?_⟩) (by assumption) ?_
          rotate_left
          · (intro w' hSw; go_simp; (try with_reducible rfl))
          simp only [Act.put, List.setIfInBounds_toArray, List.set_cons_zero, List.set_cons_succ]
          refine takeR (i := 3) (v := ?_) rfl (by kernel_rfl) (by kernel_rfl) (by kernel_rfl) (fun _ _ _ h => h) (Or.inl ⟨by rfl, ?_⟩) (by assumption) ?_
          rotate_left
          · (intro w' hSw; go_simp; (try with_reducible rfl))
          simp only [Act.put, List.setIfInBounds_toArray, List.set_cons_zero, List.set_cons_succ]
          refine takeR (i := 4) (v := ?_) rfl (by kernel_rfl) (by kernel_rfl) (by kernel_rfl) (fun _ _ _ h => h) (Or.inl ⟨by rfl, ?_⟩) (by assumption) ?_
          rotate_left
          · (intro w' hSw; go_simp; (try with_reducible rfl))
          simp only [Act.put, List.setIfInBounds_toArray, List.set_cons_zero, List.set_cons_succ]
          refine takeR (i := 5) (v := ?_) rfl (by kernel_rfl) (by kernel_rfl) (by kernel_rfl) (fun _ _ _ h => h) (Or.inl ⟨by rfl, ?_⟩) (by assumption) ?_
          rotate_left
          · (intro w' hSw; go_simp; (try with_reducible rfl))
          simp only [Act.put, List.setIfInBounds_toArray, List.set_cons_zero, List.set_cons_succ]
          refine takeR (i := 7) (v := ?_) rfl (by kernel_rfl) (by kernel_rfl) (by kernel_rfl) (fun _ _ _ h => h) (Or.inl ⟨by rfl, ?_⟩) (by assumption) ?_
          rotate_left
          · (intro w' hSw; go_simp; (try with_reducible rfl))
          simp only [Act.put, List.setIfInBounds_toArray, List.set_cons_zero, List.set_cons_succ]
          refine takeR (i := 8) (v := ?_) rfl (by kernel_rfl) (by kernel_rfl) (by kernel_rfl) (fun _ _ _ h => h) (Or.inl ⟨by rfl, ?_⟩) (by assumption) ?_
          rotate_left
          · (intro w' hSw; go_simp; (try with_reducible rfl))
          simp only [Act.put, List.setIfInBounds_toArray, List.set_cons_zero, List.set_cons_succ]
          refine wpAnyH_ready (rs := [6]) (by kernel_rfl) (by simp) ?_
          refine readyR rfl (fun K hK => ?_)
          go_simp
          refine hK.out _ _ ?_ (fun hHeld => ?_)
          · assumption
          clear hK K
          refine wpAnyH_ready (rs := [9]) (by kernel_rfl) (by simp) ?_
          refine readyR rfl (fun K hK => ?_)
          go_simp
          refine (KHI.out _).mono ?_
          rintro e v2 ⟨rfl, hbv2⟩
          have hJv2 := JB.step hJU hbv2
          have hHv2 := HoldsPc.below HHU.out hbv2 hgU
          have hgv2 : g1 < v2.heap.size := Nat.lt_of_lt_of_le hgU hbv2.size
          refine hK.out _ _ hJv2 (fun hHeld => ?_)
          clear hK K
          refine takeR (i := 10) (v := ?_) rfl (by kernel_rfl) (by kernel_rfl) (by kernel_rfl) (fun _ _ _ h => h) (Or.inl ⟨by rfl, ?_⟩) (by assumption) ?_
          rotate_left
          · (intro w' hSw; go_simp; (try with_reducible rfl))
          simp only [Act.put, List.setIfInBounds_toArray, List.set_cons_zero, List.set_cons_succ]
          refine takeR (i := 11) (v := ?_) rfl (by kernel_rfl) (by kernel_rfl) (by kernel_rfl) (fun _ _ _ h => h) (Or.inl ⟨by rfl, ?_⟩) (by assumption) ?_
          rotate_left
          · (intro w' hSw; go_simp; (try with_reducible rfl))
          simp only [Act.put, List.setIfInBounds_toArray, List.set_cons_zero, List.set_cons_succ]
          obtain ⟨-, -, -, z3, z4, z5, -⟩ := hHv2.ten HL2.out
          have fz3 := (hHv2 k _ HL2.out 3 _ rfl).2
          have fz4 := (hHv2 k _ HL2.out 4 _ rfl).2
          have fz5 := (hHv2 k _ HL2.out 5 _ rfl).2
          have hH4 := ((hHv2.set k 3 _ ⟨⟨lo, ln, ld⟩, ⟨ho, zn, zd⟩, qn, qd, rn, rd⟩ (.bool ho) HL2.out rfl (by omega)).set k 4 _ ⟨⟨lo, ln, ld⟩, ⟨ho, hn, zd⟩, qn, qd, rn, rd⟩ (.int .i64 hn) (List.getElem?_set_self (by simpa using HKL.out)) rfl (by omega)).set k 5 _ ⟨⟨lo, ln, ld⟩, ⟨ho, hn, hd⟩, qn, qd, rn, rd⟩ (.int .i64 hd) (List.getElem?_set_self (by simpa using HKL.out)) rfl (by omega)
          rw [List.set_set, List.set_set, List.set_set] at hH4
          have hJ4 := ((hJv2.set g1 (k * 10 + 3) (.bool ho) hgne).set g1 (k * 10 + 4) (.int .i64 hn) hgne).set g1 (k * 10 + 5) (.int .i64 hd) hgne
          have hg4 : g1 < (((v2.setCell ⟨g1, k * 10 + 3, none⟩ (.bool ho)).setCell ⟨g1, k * 10 + 4, none⟩ (.int .i64 hn)).setCell ⟨g1, k * 10 + 5, none⟩ (.int .i64 hd)).heap.size := by simpa using hgv2
          refine wpAnyH_ready (rs := [12]) (by kernel_rfl) (by simp) ?_
          refine readyR rfl (fun K hK => ?_)
          go_simp
          refine hK.out _ _ hJ4 (fun hHeld => ?_)
          clear hK K
          refine wpAnyH_done (by kernel_rfl) ?_ _
          have HH4 : Hid (HoldsPc (((v2.setCell ⟨g1, k * 10 + 3, none⟩ (.bool ho)).setCell ⟨g1, k * 10 + 4, none⟩ (.int .i64 hn)).setCell ⟨g1, k * 10 + 5, none⟩ (.int .i64 hd)) g1 (Num.joinedN l X)) := by
            show HoldsPc _ _ _
            rw [HJ.out]
            exact hH4
          have HJ4 : Hid (Below w.heap.size w (((v2.setCell ⟨g1, k * 10 + 3, none⟩ (.bool ho)).setCell ⟨g1, k * 10 + 4, none⟩ (.int .i64 hn)).setCell ⟨g1, k * 10 + 5, none⟩ (.int .i64 hd))) := hJ4.bel
          have HG4 : Hid _ := hg4
          have HC1 : Hid (n ≤ c1) := by
            rcases HO1.out.2 with ⟨h, _⟩ | ⟨_, cap, _, h, _, _, hc, _⟩
            · cases h
            · simp only [Value.slice.injEq] at h
              rw [h.2.2]; exact hc
          have HLJ : Hid ((Num.joinedN l X).length = n) := by show _ = _; rw [HJ.out, List.length_set]; exact HN.out
          clear z3 z4 z5 fz3 fz4 fz5 hHv2 hJv2 hHeld hbv2 hgv2 hH4 hJ4 hg4 y3 y4 y5 hJU hgU HHU KHI p0 p1 p2 p3 p4 p5
          go_wp2_with fail
          go_ret
          refine ⟨g1, c1, ?_, HH4.out, HG4.out, ?_, HJ4.out⟩
          · rw [HLJ.out]; rfl
          · rw [HLJ.out]; exact HC1.out
        · have hq : ((qn == bn) && (qd == bd)) = false ∨ (((qn == bn) && (qd == bd)) = true ∧ ((rn == sn) && (rd == sd)) = false) := by
            by_cases e1 : qn = bn <;> by_cases e2 : qd = bd <;> by_cases e3 : rn = sn <;> by_cases e4 : rd = sd <;> simp [e1, e2, e3, e4]
            exact hs (HSM.out.2 ⟨e1, e2, e3, e4⟩)
          have HREL : Hid (∀ j z, j < k + 1 → l[j]? = some z → ¬ Num.sameL z X) := by
            intro j z hj hz
            by_cases e : j = k
            · subst e; rw [HYE.out] at hz; cases hz; exact hs
            · exact HNO.out j z (by omega) hz
          rcases hq with hq | ⟨hq, hq2⟩
          · rw [hq] at hF1
            go_wp2_with fail
            go_region
            all_goals
              go_wp2
              go_roundw
              case rel => exact ⟨k + 1, hlt, by go_num, HREL.out, HBL.out.drew⟩
              case measure => simp [intOf]; omega
          · rw [hq] at hF1
            rw [hq2] at hF2
            go_wp2_with fail
            go_region
            all_goals
              go_wp2
              go_roundw
              case rel => exact ⟨k + 1, hlt, by go_num, HREL.out, HBL.out.drew⟩
              case measure => simp [intOf]; omega
      · have hkn : k = n := by omega
        have hjn : Num.joinedN l X = l ++ [X] := Num.join_none X l (fun z hz => by
          obtain ⟨j, hj⟩ := List.getElem?_of_mem hz
          have := (List.getElem?_eq_some_iff.1 hj).1
          exact HNO.out j z (by have := HN.out; omega) hj)
        have HJN : Hid (Num.joinedN l X = l ++ [X]) := hjn
        obtain ⟨x0, x1, x2, x3, x4, x5, x6, x7, x8, x9⟩ := hXr.all10
        have hgw : w1.grownBy wr none := ⟨hbl.os, hbl.tape, hbl.output, hbl.size, fun q hq _ => hbl.block q hq⟩
        have HOX : Hid (World.ownsRow (wr.alloc (.cells #[.bool fo, .int .i64 fn, .int .i64 fd, .bool tt, .int .i64 tn, .int .i64 td, .int .i64 bn, .int .i64 bd, .int .i64 sn, .int .i64 sd] 58)) (w.heap.size + 1) 58 10 (.slice (some ⟨g1, 0, none⟩) n c1) n (l.flatMap pcL)) := World.ownsRow.kept HO1.out (hgw.trans (World.grownBy_alloc wr _ none)) (by simp [Value.ownBlock])
        have HBX : Hid (Below w.heap.size w (wr.alloc (.cells #[.bool fo, .int .i64 fn, .int .i64 fd, .bool tt, .int .i64 tn, .int .i64 td, .int .i64 bn, .int .i64 bd, .int .i64 sn, .int .i64 sd] 58))) := bstep HBr.out (balloc _ _)
        have hszr : w.heap.size + 1 ≤ wr.heap.size := by omega
        clear hjn hgw hkn
        go_wp2_with (at_builtin; refine wpList_append_own _ rfl (.tmp 59) (.tmp 61) 61 rfl (w.heap.size + 1) 58 i0 (.agg #[.bool false, .int .i64 0, .int .i64 0, .bool false, .int .i64 0, .int .i64 0, .int .i64 0, .int .i64 0, .int .i64 0, .int .i64 0]) 10 80 Try.underlying61 hif hz0 hz1 hz2 rfl (by decide) _ n _ rfl HOX.out ⟨wr.heap.size, 0, none⟩ 1 1 [.bool fo, .int .i64 fn, .int .i64 fd, .bool tt, .int .i64 tn, .int .i64 td, .int .i64 bn, .int .i64 bd, .int .i64 sn, .int .i64 sd] rfl rfl ?o3 ?o4 (by unfold maxLen; omega) (by omega) (by simp; omega) ?_)
        case o3 => exact news_ten
        case o4 => exact ten_one
        intro v4 w4 hown4 hgrow4 _
        have HB4 : Hid (Below w.heap.size w w4) := HBX.out.grown hgrow4 HBX.out.size (fun q hq => by have := own_base HOX.out hq; omega)
        have HO4 : Hid (w4.ownsRow (w.heap.size + 1) 58 10 v4 (Num.joinedN l X).length ((Num.joinedN l X).flatMap pcL)) := by
          show w4.ownsRow _ _ _ _ _ _
          rw [HJN.out, List.length_append, List.flatMap_append, HN.out]
          have e : [X].flatMap pcL = [.bool fo, .int .i64 fn, .int .i64 fd, .bool tt, .int .i64 tn, .int .i64 td, .int .i64 bn, .int .i64 bd, .int .i64 sn, .int .i64 sd] := by rw [HXE.out]; rfl
          rw [e]
          exact hown4
        clear hown4 hgrow4
        go_wp2_with fail
        go_ret
        exact joined_end HO4.out (by rw [HJN.out]; simp) HB4.out

end Go.Proofs.Ytipcbhodlgoflab
