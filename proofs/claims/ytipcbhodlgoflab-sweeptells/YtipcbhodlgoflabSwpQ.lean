/- What the document's Sweep does. -/
import Derived.Test.YtipcbhodlgoflabSwpJ
import Derived.Test.YtipcbhodlgoflabSwpBX
import Derived.Test.YtipcbhodlgoflabKnd3
import Derived.Test.YtipcbhodlgoflabSpnWB
import Derived.Test.YtipcbhodlgoflabSpnWC
import Derived.Test.YtipcbhodlgoflabRef2A
namespace Go.Proofs.Ytipcbhodlgoflab
open Go.RowKit

theorem Num.look_err0 (p : Num.Lp) (a : List Int) (m n : Nat) (h : p.may = true) (hm : m = p.rows.length) (hn : n = p.costs.length) (hr : Num.rightB a m (n + m) = true) (hd : Num.denL p a m ≠ 0) : (Num.look p a).err = 0 := (Num.look_parts p a m n h hm hn hr hd).1

theorem zeroS7 {w w' : World} (hb : Below (w.alloc (.cells #[.bool false, .int .i64 0, .int .i64 0, .bool false, .int .i64 0, .int .i64 0, .bool false] 44)).heap.size (w.alloc (.cells #[.bool false, .int .i64 0, .int .i64 0, .bool false, .int .i64 0, .int .i64 0, .bool false] 44)) w') : (w'.cell? ⟨w.heap.size, 0, none⟩ = some (.bool false) ∧ w'.cell? ⟨w.heap.size, 1, none⟩ = some (.int .i64 0) ∧ w'.cell? ⟨w.heap.size, 2, none⟩ = some (.int .i64 0) ∧ w'.cell? ⟨w.heap.size, 3, none⟩ = some (.bool false) ∧ w'.cell? ⟨w.heap.size, 4, none⟩ = some (.int .i64 0) ∧ w'.cell? ⟨w.heap.size, 5, none⟩ = some (.int .i64 0) ∧ w'.cell? ⟨w.heap.size, 6, none⟩ = some (.bool false)) ∧ (w'.frozen? ⟨w.heap.size, 0, none⟩ = false ∧ w'.frozen? ⟨w.heap.size, 1, none⟩ = false ∧ w'.frozen? ⟨w.heap.size, 2, none⟩ = false ∧ w'.frozen? ⟨w.heap.size, 3, none⟩ = false ∧ w'.frozen? ⟨w.heap.size, 4, none⟩ = false ∧ w'.frozen? ⟨w.heap.size, 5, none⟩ = false ∧ w'.frozen? ⟨w.heap.size, 6, none⟩ = false) ∧ Bx w.heap.size [.bool false, .int .i64 0, .int .i64 0, .bool false, .int .i64 0, .int .i64 0, .bool false] w' := by
  have h : Bx w.heap.size [.bool false, .int .i64 0, .int .i64 0, .bool false, .int .i64 0, .int .i64 0, .bool false] w' := (Bx.new rfl _ _).step hb
  obtain ⟨h1, h2⟩ := h.all7
  exact ⟨h1, h2, h⟩
theorem zeroS7d {w w' : World} (hb : Below (w.alloc (.cells #[.bool false, .int .i64 0, .int .i64 0, .bool false, .int .i64 0, .int .i64 0, .bool false] 44)).drew.heap.size (w.alloc (.cells #[.bool false, .int .i64 0, .int .i64 0, .bool false, .int .i64 0, .int .i64 0, .bool false] 44)).drew w') : (w'.cell? ⟨w.heap.size, 0, none⟩ = some (.bool false) ∧ w'.cell? ⟨w.heap.size, 1, none⟩ = some (.int .i64 0) ∧ w'.cell? ⟨w.heap.size, 2, none⟩ = some (.int .i64 0) ∧ w'.cell? ⟨w.heap.size, 3, none⟩ = some (.bool false) ∧ w'.cell? ⟨w.heap.size, 4, none⟩ = some (.int .i64 0) ∧ w'.cell? ⟨w.heap.size, 5, none⟩ = some (.int .i64 0) ∧ w'.cell? ⟨w.heap.size, 6, none⟩ = some (.bool false)) ∧ (w'.frozen? ⟨w.heap.size, 0, none⟩ = false ∧ w'.frozen? ⟨w.heap.size, 1, none⟩ = false ∧ w'.frozen? ⟨w.heap.size, 2, none⟩ = false ∧ w'.frozen? ⟨w.heap.size, 3, none⟩ = false ∧ w'.frozen? ⟨w.heap.size, 4, none⟩ = false ∧ w'.frozen? ⟨w.heap.size, 5, none⟩ = false ∧ w'.frozen? ⟨w.heap.size, 6, none⟩ = false) ∧ Bx w.heap.size [.bool false, .int .i64 0, .int .i64 0, .bool false, .int .i64 0, .int .i64 0, .bool false] w' := zeroS7 (((Below.refl _ _).drew).trans hb)

theorem Num.ins_at (x : Num.Pc) : ∀ (l : List Num.Pc) (j : Nat), j ≤ l.length → (∀ t z, t < j → l[t]? = some z → Num.beforeB z x = true) → (∀ z, l[j]? = some z → Num.beforeB z x = false) → Num.insN x l = l.take j ++ x :: l.drop j := by
  intro l
  induction l with
  | nil => intro j hj _ _; simp at hj; subst hj; rfl
  | cons y l ih =>
    intro j hj h1 h2
    cases j with
    | zero =>
      unfold Num.insN
      rw [if_neg (by rw [h2 y rfl]; simp)]
      rfl
    | succ j =>
      unfold Num.insN
      rw [if_pos (h1 0 y (by omega) rfl), ih j (by simpa using hj) (fun t z ht hz => h1 (t + 1) z (by omega) (by simpa using hz)) (fun z hz => h2 z (by simpa using hz))]
      rfl

theorem Num.out_snoc (l : List Num.Pc) (k : Nat) (y : Num.Pc) (h : l[k]? = some y) : Num.outP (l.take (k + 1)) = if Num.spotB y = true then Num.outP (l.take k) else Num.insN y (Num.outP (l.take k)) := by
  unfold Num.outP
  rw [List.take_add_one, h, List.foldl_append]
  rfl

theorem Num.ins_len (x : Num.Pc) : ∀ l : List Num.Pc, (Num.insN x l).length = l.length + 1 := by
  intro l
  induction l with
  | nil => rfl
  | cons y l ih =>
    unfold Num.insN
    split
    · rw [List.length_cons, ih]; rfl
    · rfl

theorem Num.out_len (l : List Num.Pc) : ∀ k, (Num.outP (l.take k)).length ≤ k := by
  intro k
  induction k with
  | zero => simp [Num.outP]
  | succ k ih =>
    cases h : l[k]? with
    | none =>
      have : l.take (k + 1) = l.take k := by rw [List.take_add_one, h]; simp
      rw [this]; omega
    | some y =>
      rw [Num.out_snoc l k y h]
      split
      · omega
      · rw [Num.ins_len]; omega

theorem flat_drop (l : List Num.Pc) (j : Nat) : (l.drop j).flatMap pcL = (l.flatMap pcL).drop (j * 10) := by
  induction l generalizing j with
  | nil => simp
  | cons y l ih =>
    cases j with
    | zero => simp
    | succ j =>
      have h1 : List.drop ((pcL y).length + j * 10) (pcL y) = [] := List.drop_eq_nil_of_le (by omega)
      rw [List.drop_succ_cons, ih, List.flatMap_cons, show (j + 1) * 10 = (pcL y).length + j * 10 by show _ = 10 + j * 10; omega, List.drop_append, h1, Nat.add_sub_cancel_left, List.nil_append]

theorem HoldsPc.flatDrop {w : World} {g : Nat} {l : List Num.Pc} (h : HoldsPc w g l) (j t : Nat) (u : Value) (hu : ((l.drop j).flatMap pcL)[t]? = some u) : w.cell? (Addr.add ⟨g, j * 10, none⟩ t) = some u := by
  rw [flat_drop, List.getElem?_drop] at hu
  have := h.flat (j * 10 + t) u hu
  rw [Addr.add_lit, Nat.zero_add] at this
  rw [Addr.add_lit]
  exact this

theorem wp_append_noneO {P : Program} {w : World} {o : Oper} {a : Act} {K : Act → World → Prop} {Q : Exit → Act → World → Prop} (s x : Operand) (t : TypeId)
    (ho : o.op = .call { callee := .builtin .append, args := #[s, x], argTypes := #[t, t] })
    (base : Nat) (e : TypeId) (i : TypeInfo) (size : Nat) (ht : P.underlying t = some (.slice e)) (hi : P.info? e = some i)
    (v : Value) (n : Nat) (xs : List Value) (hs : a.eval s = v) (hown : w.ownsRow base e size v n xs) (hx : a.eval x = .slice none 0 0)
    (h : K (a.put o.dst v) w) : o.wp P a w K Q := by
  have hrun := run_append_owned_none (P := P) (w := w) base t o.type e i size ht hi v n xs hown
  unfold Oper.wp
  simp [execOp, ho, resolve, invoke, builtin, hs, hx, hrun, Result.andThen]
  exact h

theorem own_made1 (w : World) (cur : Array Value) (hs : cur.size = 10) (base : Nat) (e : TypeId) (hb : base ≤ w.heap.size) : (w.alloc (.cells cur e)).ownsRow base e 10 (.slice (some ⟨w.heap.size, 0, none⟩) 1 1) 1 cur.toList :=
  ⟨by simp [hs], Or.inr ⟨w.heap.size, 1, cur, rfl, hb, heap_alloc_new w _, Nat.le_refl _, by unfold maxLen; omega, by omega, List.take_of_length_le (by simp [hs])⟩⟩

theorem Bx.set10 {b : Nat} {a0 a1 a2 a3 a4 a5 a6 a7 a8 a9 : Value} {w : World} (h : Bx b [a0, a1, a2, a3, a4, a5, a6, a7, a8, a9] w) (u0 u1 u2 u3 u4 u5 u6 u7 u8 u9 : Value) : Bx b [u0, u1, u2, u3, u4, u5, u6, u7, u8, u9] ((((((((((w.setCell ⟨b, 0, none⟩ u0).setCell ⟨b, 1, none⟩ u1).setCell ⟨b, 2, none⟩ u2).setCell ⟨b, 3, none⟩ u3).setCell ⟨b, 4, none⟩ u4).setCell ⟨b, 5, none⟩ u5).setCell ⟨b, 6, none⟩ u6).setCell ⟨b, 7, none⟩ u7).setCell ⟨b, 8, none⟩ u8).setCell ⟨b, 9, none⟩ u9) :=
  (((((((((h.set 0 u0).set 1 u1).set 2 u2).set 3 u3).set 4 u4).set 5 u5).set 6 u6).set 7 u7).set 8 u8).set 9 u9

theorem bset10 {B b : Nat} {w0 w : World} (h : Below B w0 w) (hb : B ≤ b) (u0 u1 u2 u3 u4 u5 u6 u7 u8 u9 : Value) : Below B w0 ((((((((((w.setCell ⟨b, 0, none⟩ u0).setCell ⟨b, 1, none⟩ u1).setCell ⟨b, 2, none⟩ u2).setCell ⟨b, 3, none⟩ u3).setCell ⟨b, 4, none⟩ u4).setCell ⟨b, 5, none⟩ u5).setCell ⟨b, 6, none⟩ u6).setCell ⟨b, 7, none⟩ u7).setCell ⟨b, 8, none⟩ u8).setCell ⟨b, 9, none⟩ u9) :=
  bset (bset (bset (bset (bset (bset (bset (bset (bset (bset h hb u0) hb u1) hb u2) hb u3) hb u4) hb u5) hb u6) hb u7) hb u8) hb u9

theorem Num.least_snoc (l : List Num.Pc) (k : Nat) (y x : Num.Pc) (h : l[k]? = some y) : Num.leastP (l.take (k + 1)) x = if y.sn * (Num.leastP (l.take k) x).sd < (Num.leastP (l.take k) x).sn * y.sd then y else Num.leastP (l.take k) x := by
  unfold Num.leastP
  rw [List.take_add_one, h, List.foldl_append]
  rfl

theorem Num.joined_ne (l : List Num.Pc) (x : Num.Pc) : Num.joinedN l x ≠ [] := by
  cases l with
  | nil => unfold Num.joinedN; simp
  | cons y l =>
    unfold Num.joinedN
    split <;> simp

theorem Ints.takeS {w : World} {a : Option Addr} {n : Nat} {l : List Int} (h : Ints w a n l) (k : Nat) (hk : k ≤ n) : Ints w a k (l.take k) := by
  obtain ⟨h1, h2⟩ := h
  refine ⟨by rw [List.length_take]; omega, ?_⟩
  rcases h2 with h2 | ⟨b, off, ha, hs, hc⟩
  · exact Or.inl (by omega)
  · exact Or.inr ⟨b, off, ha, hs, fun j hj => by rw [hc j (by omega), List.getElem?_take_of_lt hj]⟩

theorem Num.dotN_takeS (c l : List Int) (k : Nat) : Num.dotN c (l.take k) k = Num.dotN c l k := by
  rw [Num.dotN_sum, Num.dotN_sum]
  exact Num.sumN_congr _ _ _ fun i hi => by rw [List.getElem?_take_of_lt hi]

theorem pieces_are (y : Num.Pc) : ∃ fo fn fd tt tn td bn bd sn sd, y = ⟨⟨fo, fn, fd⟩, ⟨tt, tn, td⟩, bn, bd, sn, sd⟩ := by
  obtain ⟨⟨fo, fn, fd⟩, ⟨tt, tn, td⟩, bn, bd, sn, sd⟩ := y
  exact ⟨fo, fn, fd, tt, tn, td, bn, bd, sn, sd, rfl⟩

set_option maxRecDepth 4000 in
set_option maxHeartbeats 6400000 in
theorem rsweep_any (ca : Option Addr) (cl cc : Nat) (ra : Option Addr) (rl rc : Nat) (p : Num.Lp) (w : World) (hc : Ints w ca cl p.costs) (hr : RowsAt w ra rl p.rows) (ba : Option Addr) (bl bc : Nat) (b : List Int) (hb : Ints w ba bl b) (cx : Num.Ctx p b rl cl) :
    Calls Try.prog 23 #[.agg #[.slice ca cl cc, .slice ra rl rc], .slice ba bl bc] w fun e w' => ∃ v, e = .returned v ∧ PcsV w' v (Num.sweepN (Num.linesN p b rl cl (Num.allC rl (cl + rl)))) ∧ Below w.heap.size w w' := by
  have HC : Hid (Ints w ca cl p.costs) := hc
  have HR : Hid (RowsAt w ra rl p.rows) := hr
  have HBB : Hid (Ints w ba bl b) := hb
  have CX : Hid (Num.Ctx p b rl cl) := cx
  have HCL : Hid (cl = p.costs.length) := hc.1
  have HRL : Hid (rl = p.rows.length) := hr.1
  have HBL : Hid (bl = cl) := hb.1.trans cx.hb
  have hc4 : cl ≤ 4 ∧ 1 ≤ cl := ⟨cx.n4, cx.n1⟩
  have hr4 : rl ≤ 4 ∧ 1 ≤ rl := ⟨cx.h4, cx.h1⟩
  obtain ⟨hA70, hAr⟩ := Num.all_len rl cl hr4.2 hr4.1 hc4.2 hc4.1
  have HRT : Hid (∀ q, q < (Num.allC rl (cl + rl)).length → Num.rightB ((Num.allC rl (cl + rl))[q]?.getD []) rl (cl + rl) = true) := fun q hq => by
    rw [List.getElem?_eq_getElem hq]
    exact hAr _ (List.getElem_mem _)
  have HA70 : Hid ((Num.allC rl (cl + rl)).length ≤ 70) := hA70
  clear hc hr hb cx hAr hA70
  have KA := all3_any ca cl cc ra rl rc (w.alloc (.cells #[.slice ca cl cc, .slice ra rl rc] 25)) hc4 hr4
  generalize Num.allC rl (cl + rl) = A at *
  have HBV : Hid (∀ w', Below (w.alloc (.cells #[.slice ca cl cc, .slice ra rl rc] 25)).heap.size (w.alloc (.cells #[.slice ca cl cc, .slice ra rl rc] 25)) w' → (w'.cell? ⟨w.heap.size, 0, none⟩ = some (.slice ca cl cc) ∧ w'.cell? ⟨w.heap.size, 1, none⟩ = some (.slice ra rl rc)) ∧ Below w.heap.size w w' ∧ w.heap.size < w'.heap.size) := fun w' h => ⟨(kept2 h).1, binto h, by have := h.size; simp at this; omega⟩
  have HKA : Hid _ := KA
  clear KA
  go_enter Try.func23, Try.ntmps23
  go_wp2_with fail
  refine Calls.mono HKA.out ?_
  rintro e w1 ⟨la, ll, lc, rfl, hli, hll, hb1⟩
  have HLI : Hid (LinesN w1 la ll A) := hli
  have hlA : ll = A.length := hli.1
  obtain ⟨⟨a0, a1⟩, _, _⟩ := HBV.out w1 hb1
  clear hli HKA
  generalize hV : w.alloc (.cells #[.slice ca cl cc, .slice ra rl rc] 25) = V at *
  clear hV
  go_wp2_with fail
  go_loopw [5, 8] (fun v i wr => ∃ q : Nat, q ≤ ll ∧ i = .int .i64 q ∧ PcsV wr v (Num.linesN p b rl cl (A.take q)) ∧ Below w1.heap.size w1 wr) (fun _ i _ => ll - (intOf i).toNat)
  case atStart => exact ⟨0, Nat.zero_le _, rfl, Or.inl ⟨rfl, rfl⟩, Below.refl _ _⟩
  case round =>
    obtain ⟨q, hq, rfl, hpv, hbl⟩ := hrel
    have HPV : Hid (PcsV wr u5 (Num.linesN p b rl cl (A.take q))) := hpv
    have hblV := bstep hb1 hbl
    obtain ⟨⟨b0, b1⟩, hB, hz⟩ := HBV.out wr hblV
    clear hpv
    by_cases hlt : q < ll
    · rcases (LinesN.below HLI.out hbl).2 with h | ⟨lb, lo, hle, hlb, hlc⟩
      · omega
      obtain ⟨ta, tl, tc, ct, hit⟩ := hlc q hlt
      have hrt := HRT.out q (by omega)
      have hTK : A.take (q + 1) = A.take q ++ [A[q]?.getD []] := by rw [List.take_add_one, List.getElem?_eq_getElem (by omega)]; rfl
      have HTK : Hid _ := hTK
      clear hlc hTK
      generalize A[q]?.getD [] = t at *
      have htl : tl = rl := by have := hit.1; have := (Num.right_all t rl _ hrt).1; omega
      subst htl
      have HIT : Hid (Ints wr ta tl t) := hit
      have HRTT : Hid (Num.rightB t tl (cl + tl) = true) := hrt
      have HLS : Hid (Num.linesN p b tl cl (A.take (q + 1)) = if Num.usedB p b tl cl t = true then Num.joinedN (Num.linesN p b tl cl (A.take q)) (Num.pieceN p b tl cl t) else Num.linesN p b tl cl (A.take q)) := by show _ = _; rw [HTK.out]; exact Num.lines_snoc p b tl cl _ t
      clear hit hrt
      subst hle
      have HCT : Hid (wr.cell? ⟨lb, lo + q, none⟩ = some (.slice ta tl tc)) := ct
      have hqI : (q : Int) < (ll : Int) := by omega
      have q0 : ∀ w', Below wr.heap.size wr w' → w'.cell? ⟨w.heap.size, 0, none⟩ = some (.slice ca cl cc) := fun w' h => carry h b0
      have q1 : ∀ w', Below wr.heap.size wr w' → w'.cell? ⟨w.heap.size, 1, none⟩ = some (.slice ra tl rc) := fun w' h => carry h b1
      have q2 : ∀ w', Below wr.heap.size wr w' → w'.cell? ⟨lb, lo + q, none⟩ = some (.slice ta tl tc) := fun w' h => carry h ct
      have HRIP : Hid (Num.rightB t p.rows.length (p.costs.length + p.rows.length) = true) := by show _ = _; rw [← HRL.out, ← HCL.out]; exact HRTT.out
      by_cases hd : Num.denL p t tl = 0
      · have HNU : Hid (Num.usedB p b tl cl t = false) := by
          show _ = _
          cases hu : Num.usedB p b tl cl t with
          | false => rfl
          | true => exact absurd hd ((CX.out.used t).1 hu).1.den
        have KL : Hid (∀ w', Below wr.heap.size wr w' → Calls Try.prog 10 #[.agg #[.slice ca cl cc, .slice ra tl rc], .slice ta tl tc] w' fun e w'' => e = .returned (.tuple #[.agg #[.slice none 0 0, .int .i64 0, .slice none 0 0, .int .i64 0, .slice none 0 0, .int .i64 0], .bool false]) ∧ Below wr.heap.size wr w'' ∧ Below w'.heap.size w' w'') := by
          intro w' h
          exact (rlook_no ca cl cc ra tl rc p w' (Ints.below HC.out (bstep hB h) (Nat.le_refl _)) (RowsAt.below HR.out (bstep hB h) (Nat.le_refl _)) ta tl tc t (Ints.below HIT.out h (Nat.le_refl _)) CX.out.may HRIP.out (by rw [← HRL.out]; exact hd)).mono fun _ _ k => ⟨k.1, bstep h k.2, k.2⟩
        have HD : Hid (Num.denL p t tl = 0) := hd
        clear hd b0 b1 ct
        go_upto_region 7 with fail
        go_cut [9, 10] from 25 to 92 (fun s6 s7 wx => ∃ bb : Nat, s6 = .pointer (some ⟨bb, 0, none⟩) ∧ s7 = .bool false ∧ Below wr.heap.size wr wx)
        case first =>
          go_region_held3 (fun w' => Below wr.heap.size wr w') (first | (with_reducible assumption) | (with_reducible exact (Below.refl _ _).drew) | (with_reducible exact ((Below.refl _ _).alloc (Nat.le_refl _) _).drew) | (with_reducible refine Below.alloc ?_ ?_ _ <;> first | (with_reducible assumption) | (apply Below.size; with_reducible assumption)) | (with_reducible refine set6 ?_ ?_ _ _ _ _ _ _ <;> first | (with_reducible assumption) | (with_reducible exact Nat.le_refl _) | (apply Below.size; with_reducible assumption)))
            (first | (go_at_call 10; refine Calls.mono (KL.out _ ?_) ?_; (with_reducible assumption); rintro e v3 ⟨rfl, hb3, hk3⟩; (first | (with_reducible have hz9 := zeroC hk3) | (with_reducible have hz9 := zeroCd hk3) | skip)))
          all_goals (rename_i hfin; clear q0 q1 q2 KL)
          · have HFIN : Hid (Below wr.heap.size wr _) := hfin
            clear hfin
            go_wp2_with fail
            go_meet
            exact ⟨_, rfl, rfl, HFIN.out⟩
          · have HFIN : Hid (Below wr.heap.size wr _) := hfin
            clear hfin
            go_wp2_with fail
            go_meet
            exact ⟨_, rfl, rfl, HFIN.out⟩
        case rest =>
          obtain ⟨bb, rfl, rfl, hbx⟩ := hcut
          have HP2 : Hid (PcsV wc u5 (Num.linesN p b tl cl (A.take (q + 1)))) := by
            show PcsV _ _ _
            rw [HLS.out, if_neg (by rw [HNU.out]; simp)]
            exact PcsV.below HPV.out hbx
          clear q0 q1 q2 KL
          go_wp2_with fail
          go_roundw
          case rel => first | exact ⟨q + 1, hlt, by go_num, HP2.out, bstep hbl hbx⟩ | ((repeat apply Exists.intro); exact ⟨⟨q + 1, hlt, by go_num, HP2.out, bstep hbl hbx⟩, rfl⟩)
          case measure => simp [intOf]; omega
      · obtain ⟨_, lxl, _, hxd, hxb, _⟩ := Num.look_parts p t tl cl CX.out.may HRL.out HCL.out HRTT.out hd
        have HXL : Hid ((Num.look p t).x.length = cl + tl) := lxl
        have HXB : Hid (∀ j : Nat, -497664 ≤ (Num.look p t).x[j]?.getD 0 ∧ (Num.look p t).x[j]?.getD 0 ≤ 497664) := hxb
        have HLR : Hid (p.may = true ∧ Num.rightB t p.rows.length (p.costs.length + p.rows.length) = true ∧ Num.denL p t p.rows.length ≠ 0) := ⟨CX.out.may, HRIP.out, by rw [← HRL.out]; exact hd⟩
        have HGI : Hid (Num.anyNeg (Num.look p t).x = false ↔ Num.Good p t tl cl) := ⟨fun h => (Num.good_of p t tl cl CX.out.may HRL.out HCL.out).1 ⟨Num.look_err0 p t tl cl CX.out.may HRL.out HCL.out HRTT.out hd, h⟩, fun h => ((Num.good_of p t tl cl CX.out.may HRL.out HCL.out).2 h).2⟩
        have KL : Hid (∀ w', Below wr.heap.size wr w' → Calls Try.prog 10 #[.agg #[.slice ca cl cc, .slice ra tl rc], .slice ta tl tc] w' fun e w'' => ∃ xa xc ya yl yc ga gl gc, e = .returned (.tuple #[.agg #[.slice xa (cl + tl) xc, .int .i64 (Num.look p t).xd, .slice ya yl yc, .int .i64 (Num.look p t).yd, .slice ga gl gc, .int .i64 (Num.look p t).gd], .bool true]) ∧ Below wr.heap.size wr w'' ∧ Ints w'' xa (cl + tl) (Num.look p t).x ∧ Below w'.heap.size w' w'' ∧ Hid (cl + tl ≤ xc)) := by
          intro w' h
          refine (rlook_cap ca cl cc ra tl rc p w' (Ints.below HC.out (bstep hB h) (Nat.le_refl _)) (RowsAt.below HR.out (bstep hB h) (Nat.le_refl _)) ta tl tc t (Ints.below HIT.out h (Nat.le_refl _)) HLR.out).mono ?_
          rintro e w'' ⟨xa, xl, xc, ya, yl, yc, ga, gl, gc, rfl, hx, hg, hb, hxc⟩
          have h1 : xl = cl + tl := by have := hx.1; have := HXL.out; omega
          subst h1
          exact ⟨xa, xc, ya, yl, yc, ga, gl, gc, rfl, bstep h hb, hx, hb, hxc⟩
        have HD : Hid (Num.denL p t tl ≠ 0) := hd
        clear hd b0 b1 ct lxl hxb hxd
        go_upto_region 7 with fail
        go_cut [9, 10] from 25 to 92 (fun s6 s7 wx => ∃ bb : Nat, s6 = .pointer (some ⟨bb, 0, none⟩) ∧ s7 = .bool true ∧ (∃ xa xc, Hid (cl + tl ≤ xc) ∧ Hid ((wx.cell? ⟨bb, 0, none⟩ = some (.slice xa (cl + tl) xc) ∧ wx.cell? ⟨bb, 1, none⟩ = some (.int .i64 (Num.look p t).xd)) ∧ Ints wx xa (cl + tl) (Num.look p t).x)) ∧ Below wr.heap.size wr wx)
        case first =>
          go_region_held3 (fun w' => Below wr.heap.size wr w') (first | (with_reducible assumption) | (with_reducible exact (Below.refl _ _).drew) | (with_reducible exact ((Below.refl _ _).alloc (Nat.le_refl _) _).drew) | (with_reducible refine Below.alloc ?_ ?_ _ <;> first | (with_reducible assumption) | (apply Below.size; with_reducible assumption)) | (with_reducible refine set6 ?_ ?_ _ _ _ _ _ _ <;> first | (with_reducible assumption) | (with_reducible exact Nat.le_refl _) | (apply Below.size; with_reducible assumption)))
            (first | (go_at_call 10; refine Calls.mono (KL.out _ ?_) ?_; (with_reducible assumption); rintro e v3 ⟨xa, xc, ya, yl, yc, ga, gl, gc, rfl, hb3, hI3, hk3, HXC⟩; (first | (with_reducible have hz9 := zeroC hk3) | (with_reducible have hz9 := zeroCd hk3) | skip)))
          · rename_i hfin
            clear q0 q1 q2 KL
            have HIW : Hid (((v3.alloc (.cells #[.slice xa (cl + tl) xc, .int .i64 (Num.look p t).xd, .slice ya yl yc, .int .i64 (Num.look p t).yd, .slice ga gl gc, .int .i64 (Num.look p t).gd] 39)).cell? ⟨v3.heap.size, 0, none⟩ = some (.slice xa (cl + tl) xc) ∧ (v3.alloc (.cells #[.slice xa (cl + tl) xc, .int .i64 (Num.look p t).xd, .slice ya yl yc, .int .i64 (Num.look p t).yd, .slice ga gl gc, .int .i64 (Num.look p t).gd] 39)).cell? ⟨v3.heap.size, 1, none⟩ = some (.int .i64 (Num.look p t).xd)) ∧ Ints (v3.alloc (.cells #[.slice xa (cl + tl) xc, .int .i64 (Num.look p t).xd, .slice ya yl yc, .int .i64 (Num.look p t).yd, .slice ga gl gc, .int .i64 (Num.look p t).gd] 39)) xa (cl + tl) (Num.look p t).x) := by
              have hs := Six.new v3 (.slice xa (cl + tl) xc) (.int .i64 (Num.look p t).xd) (.slice ya yl yc) (.int .i64 (Num.look p t).yd) (.slice ga gl gc) (.int .i64 (Num.look p t).gd) 39
              exact ⟨⟨hs.c0, hs.c1⟩, Ints.below hI3 (balloc _ _) (Nat.le_refl _)⟩
            have HFIN : Hid (Below wr.heap.size wr _) := hfin
            clear hI3 hfin
            go_wp2_with fail
            go_meet
            exact ⟨_, rfl, rfl, ⟨xa, xc, HXC, HIW⟩, HFIN.out⟩
          · rename_i hfin
            clear q0 q1 q2 KL
            have HFIN : Hid (Below wr.heap.size wr _) := hfin
            generalize hX : (((((v3.setCell ⟨wr.heap.size, 0, none⟩ (.slice xa (cl + tl) xc)).setCell ⟨wr.heap.size, 1, none⟩ (.int .i64 (Num.look p t).xd)).setCell ⟨wr.heap.size, 2, none⟩ (.slice ya yl yc)).setCell ⟨wr.heap.size, 3, none⟩ (.int .i64 (Num.look p t).yd)).setCell ⟨wr.heap.size, 4, none⟩ (.slice ga gl gc)).setCell ⟨wr.heap.size, 5, none⟩ (.int .i64 (Num.look p t).gd) = X at *
            have HIW : Hid ((X.cell? ⟨wr.heap.size, 0, none⟩ = some (.slice xa (cl + tl) xc) ∧ X.cell? ⟨wr.heap.size, 1, none⟩ = some (.int .i64 (Num.look p t).xd)) ∧ Ints X xa (cl + tl) (Num.look p t).x) := by
              obtain ⟨_, ⟨y0, y1, y2, y3, y4, y5⟩, _⟩ := id hz9
              have h6 := six_set' y0 y1 y2 y3 y4 y5 _ _ _ _ _ _ X hX.symm
              refine ⟨⟨h6.1, h6.2.1⟩, ?_⟩
              rw [← hX]; exact ZC.kept hz9 hI3 (by omega) _ _ _ _ _ _
            clear hI3 hfin hX hz9
            go_wp2_with fail
            go_meet
            exact ⟨_, rfl, rfl, ⟨xa, xc, HXC, HIW⟩, HFIN.out⟩
        case rest =>
          obtain ⟨bb, rfl, rfl, ⟨xa, xc, HXC, hcr⟩, hbx⟩ := hcut
          obtain ⟨⟨y0, y1⟩, hix⟩ := hcr.out
          have HIX : Hid (Ints wc xa (cl + tl) (Num.look p t).x) := hix
          clear q0 q1 q2 KL hcr hix
          have hbc := bstep hbl hbx
          have HPC : Hid (PcsV wc u5 (Num.linesN p b tl cl (A.take q))) := PcsV.below HPV.out hbx
          go_wp2_with fail
          refine (above_any xa (cl + tl) xc (Num.look p t).x (Num.look p t).xd wc HIX.out (by omega)).mono ?_
          rintro e w4 ⟨rfl, hb4⟩
          have z0 := carry hb4 y0
          have z1 := carry hb4 y1
          have HIX4 : Hid (Ints w4 xa (cl + tl) (Num.look p t).x) := Ints.below HIX.out hb4 (Nat.le_refl _)
          have hbc4 := bstep hbc hb4
          have HPC4 : Hid (PcsV w4 u5 (Num.linesN p b tl cl (A.take q))) := PcsV.below HPC.out hb4
          have HIT4 : Hid (Ints w4 ta tl t) := Ints.below (Ints.below HIT.out hbx (Nat.le_refl _)) hb4 (Nat.le_refl _)
          have ct4 := (LinesN.below HLI.out hbc4)
          clear y0 y1 HIX HPC
          cases hneg : Num.anyNeg (Num.look p t).x with
          | true =>
            have HNU : Hid (Num.usedB p b tl cl t = false) := by
              show _ = _
              cases hu : Num.usedB p b tl cl t with
              | false => rfl
              | true => rw [HGI.out.2 ((CX.out.used t).1 hu).1] at hneg; cases hneg
            have HP2 : Hid (PcsV w4 u5 (Num.linesN p b tl cl (A.take (q + 1)))) := by
              show PcsV _ _ _
              rw [HLS.out, if_neg (by rw [HNU.out]; simp)]
              exact HPC4.out
            clear ct4
            go_wp2_with fail
            go_roundw
            case rel => first | exact ⟨q + 1, hlt, by go_num, HP2.out, hbc4⟩ | ((repeat apply Exists.intro); exact ⟨⟨q + 1, hlt, by go_num, HP2.out, hbc4⟩, rfl⟩)
            case measure => simp [intOf]; omega
          | false =>
            have hG : Num.Good p t tl cl := HGI.out.1 hneg
            have HG : Hid (Num.Good p t tl cl) := hG
            obtain ⟨⟨b0, b1⟩, hB4, _⟩ := HBV.out w4 (bstep hb1 hbc4)
            have ct' := carry hb4 (carry hbx HCT.out)
            have q0 : ∀ w', Below w4.heap.size w4 w' → w'.cell? ⟨w.heap.size, 0, none⟩ = some (.slice ca cl cc) := fun w' h => carry h b0
            have q1 : ∀ w', Below w4.heap.size w4 w' → w'.cell? ⟨w.heap.size, 1, none⟩ = some (.slice ra tl rc) := fun w' h => carry h b1
            have q2 : ∀ w', Below w4.heap.size w4 w' → w'.cell? ⟨lb, lo + q, none⟩ = some (.slice ta tl tc) := fun w' h => carry h ct'
            obtain ⟨T, hT⟩ : ∃ T : Num.Spn, T = if Num.emptyS (Num.costsS p b tl cl t) = true then Num.noSpn else Num.costsS p b tl cl t := ⟨_, rfl⟩
            obtain ⟨res, hres⟩ : ∃ r : Bool, r = !Num.emptyS (Num.costsS p b tl cl t) := ⟨_, rfl⟩
            have hev : endV (Num.costsN p t b) = .tuple #[spanV T, .bool res] := by
              have e : Num.costsN p t b = Num.costsS p b tl cl t := by unfold Num.costsN Num.costsS; rw [← HCL.out, ← HRL.out]
              rw [e, hT, hres]
              unfold endV
              cases Num.emptyS (Num.costsS p b tl cl t) <;> rfl
            have HT : Hid (T = if Num.emptyS (Num.costsS p b tl cl t) = true then Num.noSpn else Num.costsS p b tl cl t) := hT
            have HRES : Hid (res = !Num.emptyS (Num.costsS p b tl cl t)) := hres
            clear hT hres
            obtain ⟨so, sn, sd, so2, sn2, sd2, sno⟩ := T
            have KC : Hid (∀ w', Below w4.heap.size w4 w' → Calls Try.prog 12 #[.agg #[.slice ca cl cc, .slice ra tl rc], .slice ta tl tc, .slice ba bl bc] w' fun e w'' => e = .returned (.tuple #[.agg #[.bool so, .int .i64 sn, .int .i64 sd, .bool so2, .int .i64 sn2, .int .i64 sd2, .bool sno], .bool res]) ∧ Below w4.heap.size w4 w'' ∧ Below w'.heap.size w' w'') := by
              intro w' h
              refine (rcosts_any ca cl cc ra tl rc p w' (Ints.below HC.out (bstep hB4 h) (Nat.le_refl _)) (RowsAt.below HR.out (bstep hB4 h) (Nat.le_refl _)) ta tl tc t (Ints.below HIT4.out h (Nat.le_refl _)) ba bl bc b (Ints.below HBB.out (bstep hB4 h) (Nat.le_refl _)) HLR.out (CX.out.hb.trans HCL.out) ((Num.withC p b).may_of CX.out.bmay).2.1).mono ?_
              rintro e w'' ⟨rfl, hb⟩
              rw [hev]
              exact ⟨rfl, bstep h hb, hb⟩
            clear hev b0 b1 ct' ct4 hG
            go_upto_region 9 with fail
            go_cut [11, 12] from 25 to 92 (fun s6 s7 wx => ∃ bs : Nat, s6 = .pointer (some ⟨bs, 0, none⟩) ∧ s7 = .bool res ∧ Bx bs [.bool so, .int .i64 sn, .int .i64 sd, .bool so2, .int .i64 sn2, .int .i64 sd2, .bool sno] wx ∧ Below w4.heap.size w4 wx)
            case first =>
              go_region_held3 (fun w' => Below w4.heap.size w4 w') (first | (with_reducible assumption) | (with_reducible exact (Below.refl _ _).drew) | (with_reducible exact ((Below.refl _ _).alloc (Nat.le_refl _) _).drew) | (with_reducible refine Below.alloc ?_ ?_ _ <;> first | (with_reducible assumption) | (apply Below.size; with_reducible assumption)) | (with_reducible refine bset7 ?_ ?_ _ _ _ _ _ _ _ <;> first | (with_reducible assumption) | (with_reducible exact Nat.le_refl _) | (apply Below.size; with_reducible assumption)))
                (first | (go_at_call 12; refine Calls.mono (KC.out _ ?_) ?_; (with_reducible assumption); rintro e v3 ⟨rfl, hb3, hk3⟩; (first | (with_reducible have hz9 := zeroS7 hk3) | (with_reducible have hz9 := zeroS7d hk3) | skip)))
              · rename_i hfin
                clear q0 q1 q2 KC z0 z1
                have HFIN : Hid (Below w4.heap.size w4 _) := hfin
                have HBX : Hid (Bx v3.heap.size [.bool so, .int .i64 sn, .int .i64 sd, .bool so2, .int .i64 sn2, .int .i64 sd2, .bool sno] (v3.alloc (.cells #[.bool so, .int .i64 sn, .int .i64 sd, .bool so2, .int .i64 sn2, .int .i64 sd2, .bool sno] 44))) := Bx.new rfl _ _
                clear hfin
                go_wp2_with fail
                go_meet
                exact ⟨_, rfl, rfl, HBX.out, HFIN.out⟩
              · rename_i hfin
                clear q0 q1 q2 KC z0 z1
                have HFIN : Hid (Below w4.heap.size w4 _) := hfin
                have HBX : Hid (Bx w4.heap.size [.bool so, .int .i64 sn, .int .i64 sd, .bool so2, .int .i64 sn2, .int .i64 sd2, .bool sno] (((((((v3.setCell ⟨w4.heap.size, 0, none⟩ (.bool so)).setCell ⟨w4.heap.size, 1, none⟩ (.int .i64 sn)).setCell ⟨w4.heap.size, 2, none⟩ (.int .i64 sd)).setCell ⟨w4.heap.size, 3, none⟩ (.bool so2)).setCell ⟨w4.heap.size, 4, none⟩ (.int .i64 sn2)).setCell ⟨w4.heap.size, 5, none⟩ (.int .i64 sd2)).setCell ⟨w4.heap.size, 6, none⟩ (.bool sno))) := Bx.set7 hz9.2.2 _ _ _ _ _ _ _
                clear hfin hz9
                go_wp2_with fail
                go_meet
                exact ⟨_, rfl, rfl, HBX.out, HFIN.out⟩
            case rest =>
              obtain ⟨bs, rfl, rfl, hbs, hbx5⟩ := hcut
              obtain ⟨⟨s0, s1, s2, s3, s4, s5, s6⟩, -⟩ := hbs.all7
              clear q0 q1 q2 KC
              have hbc5 := bstep hbc4 hbx5
              have HPC5 : Hid (PcsV wc u5 (Num.linesN p b tl cl (A.take q))) := PcsV.below HPC4.out hbx5
              have t0 := carry hbx5 z0
              have t1 := carry hbx5 z1
              have HIX5 : Hid (Ints wc xa (cl + tl) (Num.look p t).x) := Ints.below HIX4.out hbx5 (Nat.le_refl _)
              clear z0 z1 hbs
              cases hrs : res with
              | false =>
                have HNU : Hid (Num.usedB p b tl cl t = false) := by
                  show _ = _
                  have := HRES.out
                  rw [hrs] at this
                  unfold Num.usedB
                  rw [← this, Bool.and_false]
                have HP2 : Hid (PcsV wc u5 (Num.linesN p b tl cl (A.take (q + 1)))) := by
                  show PcsV _ _ _
                  rw [HLS.out, if_neg (by rw [HNU.out]; simp)]
                  exact HPC5.out
                go_wp2_with fail
                go_roundw
                case rel => first | exact ⟨q + 1, hlt, by go_num, HP2.out, hbc5⟩ | ((repeat apply Exists.intro); exact ⟨⟨q + 1, hlt, by go_num, HP2.out, hbc5⟩, rfl⟩)
                case measure => simp [intOf]; omega
              | true =>
                have hem : Num.emptyS (Num.costsS p b tl cl t) = false := by
                  have := HRES.out
                  rw [hrs] at this
                  cases h : Num.emptyS (Num.costsS p b tl cl t) with
                  | false => rfl
                  | true => rw [h] at this; cases this
                have hSS : Num.costsS p b tl cl t = ⟨so, sn, sd, so2, sn2, sd2, sno⟩ := by
                  have := HT.out
                  rw [if_neg (by rw [hem]; simp)] at this
                  exact this.symm
                have hused : Num.usedB p b tl cl t = true := by
                  unfold Num.usedB
                  rw [hem, (Num.goodB_iff p t tl cl CX.out.may HRL.out HCL.out).2 HG.out]
                  rfl
                obtain ⟨u, v, eW1, mW1, _⟩ := Num.worth_is CX.out t HG.out p.costs CX.out.hn.symm (p.may_of CX.out.may).2.1
                obtain ⟨u2, v2, eW2, mW2, _⟩ := Num.worth_is CX.out t HG.out b CX.out.hb ((Num.withC p b).may_of CX.out.bmay).2.1
                have hFok := CX.out.fromOk t hused
                have hTok := CX.out.toOk t hused
                have hpc : Num.pieceN p b tl cl t = ⟨⟨so, sn, sd⟩, ⟨so2, sn2, sd2⟩, u, v, u2, v2⟩ := by
                  unfold Num.pieceN Num.baseF Num.slopeF
                  rw [eW1, eW2, hSS]
                  rfl
                rw [hSS] at hFok hTok
                have HPOK : Hid (Num.PcOk ⟨⟨so, sn, sd⟩, ⟨so2, sn2, sd2⟩, u, v, u2, v2⟩) := pc_ok _ hFok hTok mW1 mW2
                have HLS2 : Hid (Num.linesN p b tl cl (A.take (q + 1)) = Num.joinedN (Num.linesN p b tl cl (A.take q)) ⟨⟨so, sn, sd⟩, ⟨so2, sn2, sd2⟩, u, v, u2, v2⟩) := by
                  show _ = _
                  rw [HLS.out, if_pos hused, hpc]
                have HOKL : Hid (∀ y ∈ Num.linesN p b tl cl (A.take q), Num.PcOk y) := fun y hy => by
                  have hcan := Num.canon_lines CX.out (A.take q)
                  have hn := hcan.nums CX.out y hy
                  exact pc_ok y (hcan.okf CX.out y hy) (hcan.okt CX.out y hy) hn.1 hn.2.1
                have HLEN : Hid ((Num.linesN p b tl cl (A.take q)).length ≤ 1000) := by
                  show _ ≤ _
                  refine Nat.le_trans (Num.lines_len p b tl cl _) ?_
                  rw [List.length_take]
                  have := HA70.out
                  omega
                rcases HIX5.out.2 with h | ⟨xb, xo, hxa, -, -⟩
                · omega
                subst hxa
                have HCB : Hid (∀ j : Nat, -400 ≤ p.costs[j]?.getD 0 ∧ p.costs[j]?.getD 0 ≤ 400) := Num.withinB_iff _ _ (p.may_of CX.out.may).2.1 (by omega)
                have HBBd : Hid (∀ j : Nat, -400 ≤ b[j]?.getD 0 ∧ b[j]?.getD 0 ≤ 400) := Num.withinB_iff _ _ ((Num.withC p b).may_of CX.out.bmay).2.1 (by omega)
                have HXT : Hid (∀ j : Nat, -497664 ≤ ((Num.look p t).x.take cl)[j]?.getD 0 ∧ ((Num.look p t).x.take cl)[j]?.getD 0 ≤ 497664) := fun j => by
                  rw [List.getElem?_take]
                  split
                  · exact HXB.out j
                  · simp
                obtain ⟨⟨d0, d1⟩, hBc, _⟩ := HBV.out wc (bstep hb1 hbc5)
                have KD1 : Hid (∀ w', Below wc.heap.size wc w' → Calls Try.prog 55 #[.slice ca cl cc, .slice (some ⟨xb, xo, none⟩) cl xc] w' fun e w'' => e = .returned (.int .i64 (Num.dotN p.costs (Num.look p t).x cl)) ∧ Below wc.heap.size wc w'' ∧ Below w'.heap.size w' w'') := by
                  intro w' h
                  rw [← Num.dotN_takeS]
                  exact (below_of_drew (dot_any _ _ _ _ _ _ p.costs ((Num.look p t).x.take cl) w' 400 497664 (Ints.below HC.out (bstep hBc h) (Nat.le_refl _)) (Ints.takeS (Ints.below HIX5.out h (Nat.le_refl _)) cl (by omega)) (Nat.le_refl _) (by omega) HCB.out HXT.out (by omega))).mono fun _ _ k => ⟨k.1, bstep h k.2, k.2⟩
                have KD2 : Hid (∀ w', Below wc.heap.size wc w' → Calls Try.prog 55 #[.slice ba bl bc, .slice (some ⟨xb, xo, none⟩) cl xc] w' fun e w'' => e = .returned (.int .i64 (Num.dotN b (Num.look p t).x cl)) ∧ Below wc.heap.size wc w'' ∧ Below w'.heap.size w' w'') := by
                  intro w' h
                  rw [← Num.dotN_takeS]
                  have hI := Ints.below HBB.out (bstep hBc h) (Nat.le_refl _)
                  have hI2 : Ints w' ba cl b := by have e := HBL.out; rw [e] at hI; exact hI
                  rw [show (Value.slice ba bl bc) = .slice ba cl bc by rw [HBL.out]]
                  exact (below_of_drew (dot_any _ _ _ _ _ _ b ((Num.look p t).x.take cl) w' 400 497664 hI2 (Ints.takeS (Ints.below HIX5.out h (Nat.le_refl _)) cl (by omega)) (Nat.le_refl _) (by omega) HBBd.out HXT.out (by omega))).mono fun _ _ k => ⟨k.1, bstep h k.2, k.2⟩
                have KO1 : Hid (∀ w', Calls Try.prog 17 #[.int .i64 (Num.dotN p.costs (Num.look p t).x cl), .int .i64 (Num.look p t).xd] w' fun e w'' => e = .returned (.agg #[.int .i64 u, .int .i64 v]) ∧ Below w'.heap.size w' w'') := fun w' => of_any _ _ w' u v 0 eW1
                have KO2 : Hid (∀ w', Calls Try.prog 17 #[.int .i64 (Num.dotN b (Num.look p t).x cl), .int .i64 (Num.look p t).xd] w' fun e w'' => e = .returned (.agg #[.int .i64 u2, .int .i64 v2]) ∧ Below w'.heap.size w' w'') := fun w' => of_any _ _ w' u2 v2 0 eW2
                have k1' : (cl : Int) ≤ (xc : Int) := by have := HXC.out; omega
                have k2' : cl ≤ xc := by omega
                have q0 : ∀ w', Below wc.heap.size wc w' → w'.cell? ⟨w.heap.size, 0, none⟩ = some (.slice ca cl cc) := fun w' h => carry h d0
                have q3 : ∀ w', Below wc.heap.size wc w' → w'.cell? ⟨bb, 0, none⟩ = some (.slice (some ⟨xb, xo, none⟩) (cl + tl) xc) := fun w' h => carry h t0
                have q4 : ∀ w', Below wc.heap.size wc w' → w'.cell? ⟨bb, 1, none⟩ = some (.int .i64 (Num.look p t).xd) := fun w' h => carry h t1
                have HXN : Hid _ := HXL.out
                clear eW1 eW2 mW1 mW2 hFok hTok hpc hused hSS hem
                generalize Num.dotN p.costs (Num.look p t).x cl = D1 at *
                generalize Num.dotN b (Num.look p t).x cl = D2 at *
                have HBA : Hid (Bx wc.heap.size [.bool so, .int .i64 sn, .int .i64 sd, .bool so2, .int .i64 sn2, .int .i64 sd2, .int .i64 0, .int .i64 0, .int .i64 0, .int .i64 0] (wc.alloc (.cells #[.bool so, .int .i64 sn, .int .i64 sd, .bool so2, .int .i64 sn2, .int .i64 sd2, .int .i64 0, .int .i64 0, .int .i64 0, .int .i64 0] 58))) := Bx.new rfl _ _
                have HBW : Hid (Below wc.heap.size wc (wc.alloc (.cells #[.bool so, .int .i64 sn, .int .i64 sd, .bool so2, .int .i64 sn2, .int .i64 sd2, .int .i64 0, .int .i64 0, .int .i64 0, .int .i64 0] 58))) := balloc _ _
                go_wp2_with fail
                clear s0 s1 s2 s3 s4 s5 s6
                generalize wc.alloc (.cells #[.bool so, .int .i64 sn, .int .i64 sd, .bool so2, .int .i64 sn2, .int .i64 sd2, .int .i64 0, .int .i64 0, .int .i64 0, .int .i64 0] 58) = W0 at *
                have hSa : Below wc.heap.size wc W0.drew := HBW.out.drew
                have hbxa : Bx wc.heap.size [.bool so, .int .i64 sn, .int .i64 sd, .bool so2, .int .i64 sn2, .int .i64 sd2, .int .i64 0, .int .i64 0, .int .i64 0, .int .i64 0] W0.drew := HBA.out.step (Below.refl _ _).drew
                refine wp_region_held_drew (S := fun v => Below wc.heap.size wc v) (by kernel_rfl) ?_ (fun hHeld => ?_)
                · assumption
                refine takeS (i := 0) (v := ?_) rfl (by kernel_rfl) (by kernel_rfl) (by kernel_rfl) (fun _ _ _ h => h) (Or.inl ⟨by rfl, ?_⟩) (by assumption) ?_
                rotate_left
                · (intro w' hSw; go_simp; (try with_reducible rfl))
                simp only [Act.put, List.setIfInBounds_toArray, List.set_cons_zero, List.set_cons_succ]
                refine takeS (i := 1) (v := ?_) rfl (by kernel_rfl) (by kernel_rfl) (by kernel_rfl) (fun _ _ _ h => h) (Or.inl ⟨by rfl, ?_⟩) (by assumption) ?_
                rotate_left
                · (intro w' hSw; go_simp; (try with_reducible rfl))
                simp only [Act.put, List.setIfInBounds_toArray, List.set_cons_zero, List.set_cons_succ]
                refine takeS (i := 2) (v := ?_) rfl (by kernel_rfl) (by kernel_rfl) (by kernel_rfl) (fun _ _ _ h => h) (Or.inl ⟨by rfl, ?_⟩) (by assumption) ?_
                rotate_left
                · (intro w' hSw; go_simp; (try with_reducible rfl))
                simp only [Act.put, List.setIfInBounds_toArray, List.set_cons_zero, List.set_cons_succ]
                refine takeS (i := 3) (v := ?_) rfl (by kernel_rfl) (by kernel_rfl) (by kernel_rfl) (fun _ _ _ h => h) (Or.inl ⟨by rfl, ?_⟩) (by assumption) ?_
                rotate_left
                · (intro w' hSw; go_simp; (try with_reducible rfl))
                simp only [Act.put, List.setIfInBounds_toArray, List.set_cons_zero, List.set_cons_succ]
                refine takeS (i := 4) (v := ?_) rfl (by kernel_rfl) (by kernel_rfl) (by kernel_rfl) (fun _ _ _ h => h) (Or.inl ⟨by rfl, ?_⟩) (by assumption) ?_
                rotate_left
                · (intro w' hSw; go_simp; (try with_reducible rfl))
                simp only [Act.put, List.setIfInBounds_toArray, List.set_cons_zero, List.set_cons_succ]
                refine takeS (i := 5) (v := ?_) rfl (by kernel_rfl) (by kernel_rfl) (by kernel_rfl) (fun _ _ _ h => h) (Or.inl ⟨by rfl, ?_⟩) (by assumption) ?_
                rotate_left
                · (intro w' hSw; go_simp; (try with_reducible rfl))
                simp only [Act.put, List.setIfInBounds_toArray, List.set_cons_zero, List.set_cons_succ]
                refine takeS (i := 6) (v := ?_) rfl (by kernel_rfl) (by kernel_rfl) (by kernel_rfl) (fun _ _ _ h => h) (Or.inl ⟨by rfl, ?_⟩) (by assumption) ?_
                rotate_left
                · (intro w' hSw; go_simp; (try with_reducible rfl))
                simp only [Act.put, List.setIfInBounds_toArray, List.set_cons_zero, List.set_cons_succ]
                refine takeS (i := 8) (v := ?_) rfl (by kernel_rfl) (by kernel_rfl) (by kernel_rfl) (fun _ _ _ h => h) (Or.inl ⟨by rfl, ?_⟩) (by assumption) ?_
                rotate_left
                · (intro w' hSw; go_simp; (try with_reducible rfl))
                simp only [Act.put, List.setIfInBounds_toArray, List.set_cons_zero, List.set_cons_succ]
                refine takeS (i := 9) (v := ?_) rfl (by kernel_rfl) (by kernel_rfl) (by kernel_rfl) (fun _ _ _ h => h) (Or.inl ⟨by rfl, ?_⟩) (by assumption) ?_
                rotate_left
                · (intro w' hSw; go_simp; (try with_reducible rfl))
                simp only [Act.put, List.setIfInBounds_toArray, List.set_cons_zero, List.set_cons_succ]
                refine takeS (i := 10) (v := ?_) rfl (by kernel_rfl) (by kernel_rfl) (by kernel_rfl) (fun _ _ _ h => h) (Or.inl ⟨by rfl, ?_⟩) (by assumption) ?_
                rotate_left
                · (intro w' hSw; go_simp; (try with_reducible rfl))
                simp only [Act.put, List.setIfInBounds_toArray, List.set_cons_zero, List.set_cons_succ]
                refine wpAnyH_ready (rs := [7]) (by kernel_rfl) (by simp) ?_
                refine readyS rfl (fun K hK => ?_)
                go_simp
                refine Calls.mono (KD1.out _ hSa) ?_
                rintro e x1 ⟨rfl, hx1, hk1⟩
                have hbxa := hbxa.step hk1
                refine hK.out _ _ hx1 (fun hHeld => ?_)
                clear hK K
                refine wpAnyH_ready (rs := [11]) (by kernel_rfl) (by simp) ?_
                refine readyS rfl (fun K hK => ?_)
                go_simp
                refine Calls.mono (KO1.out _) ?_
                rintro e x2 ⟨rfl, hk2⟩
                have hbxb := hbxa.step hk2
                have hx2 := bstep hx1 hk2
                refine hK.out _ _ hx2 (fun hHeld => ?_)
                clear hK K
                refine takeS (i := 12) (v := ?_) rfl (by kernel_rfl) (by kernel_rfl) (by kernel_rfl) (fun _ _ _ h => h) (Or.inl ⟨by rfl, ?_⟩) (by assumption) ?_
                rotate_left
                · (intro w' hSw; go_simp; (try with_reducible rfl))
                simp only [Act.put, List.setIfInBounds_toArray, List.set_cons_zero, List.set_cons_succ]
                have m0 : x2.cell? ⟨wc.heap.size, 6, none⟩ = some (.int .i64 0) := hbxb.c 6 _ rfl
                have m1 : x2.cell? ⟨wc.heap.size, 7, none⟩ = some (.int .i64 0) := hbxb.c 7 _ rfl
                have n0 := hbxb.f 6
                have n1 := hbxb.f 7
                have hltb := hbxb.lt
                refine wpAnyH_ready (rs := [13]) (by kernel_rfl) (by simp) ?_
                refine readyS rfl (fun K hK => ?_)
                go_simp
                refine hK.out _ _ ?_ (fun hHeld => ?_)
                · exact bset (bset hx2 (Nat.le_refl _) _) (Nat.le_refl _) _
                clear hK K
                refine wpAnyH_done (by kernel_rfl) ?_ _
                have HBNa : Hid (Bx wc.heap.size [.bool so, .int .i64 sn, .int .i64 sd, .bool so2, .int .i64 sn2, .int .i64 sd2, .int .i64 u, .int .i64 v, .int .i64 0, .int .i64 0] ((x2.setCell ⟨wc.heap.size, 6, none⟩ (.int .i64 u)).setCell ⟨wc.heap.size, 7, none⟩ (.int .i64 v))) := (hbxb.set 6 (.int .i64 u)).set 7 (.int .i64 v)
                have HBEa : Hid (Below wc.heap.size wc ((x2.setCell ⟨wc.heap.size, 6, none⟩ (.int .i64 u)).setCell ⟨wc.heap.size, 7, none⟩ (.int .i64 v))) := bset (bset hx2 (Nat.le_refl _) _) (Nat.le_refl _) _
                try clear hHeld
                clear m0
                clear m1
                clear n0
                clear n1
                clear hltb
                clear hbxb
                clear hbxa
                clear hx2
                clear hk2
                clear hx1
                clear hk1
                clear hbxa
                clear hSa
                generalize (x2.setCell ⟨wc.heap.size, 6, none⟩ (.int .i64 u)).setCell ⟨wc.heap.size, 7, none⟩ (.int .i64 v) = Xa at *
                go_wp2_with fail
                have hSb : Below wc.heap.size wc Xa.drew := HBEa.out.drew
                have hbxb : Bx wc.heap.size [.bool so, .int .i64 sn, .int .i64 sd, .bool so2, .int .i64 sn2, .int .i64 sd2, .int .i64 u, .int .i64 v, .int .i64 0, .int .i64 0] Xa.drew := HBNa.out.step (Below.refl _ _).drew
                refine wp_region_held_drew (S := fun v => Below wc.heap.size wc v) (by kernel_rfl) ?_ (fun hHeld => ?_)
                · assumption
                refine takeS (i := 0) (v := ?_) rfl (by kernel_rfl) (by kernel_rfl) (by kernel_rfl) (fun _ _ _ h => h) (Or.inl ⟨by rfl, ?_⟩) (by assumption) ?_
                rotate_left
                · (intro w' hSw; go_simp; (try with_reducible rfl))
                simp only [Act.put, List.setIfInBounds_toArray, List.set_cons_zero, List.set_cons_succ]
                refine takeS (i := 1) (v := ?_) rfl (by kernel_rfl) (by kernel_rfl) (by kernel_rfl) (fun _ _ _ h => h) (Or.inl ⟨by rfl, ?_⟩) (by assumption) ?_
                rotate_left
                · (intro w' hSw; go_simp; (try with_reducible rfl))
                simp only [Act.put, List.setIfInBounds_toArray, List.set_cons_zero, List.set_cons_succ]
                refine takeS (i := 2) (v := ?_) rfl (by kernel_rfl) (by kernel_rfl) (by kernel_rfl) (fun _ _ _ h => h) (Or.inl ⟨by rfl, ?_⟩) (by assumption) ?_
                rotate_left
                · (intro w' hSw; go_simp; (try with_reducible rfl))
                simp only [Act.put, List.setIfInBounds_toArray, List.set_cons_zero, List.set_cons_succ]
                refine takeS (i := 3) (v := ?_) rfl (by kernel_rfl) (by kernel_rfl) (by kernel_rfl) (fun _ _ _ h => h) (Or.inl ⟨by rfl, ?_⟩) (by assumption) ?_
                rotate_left
                · (intro w' hSw; go_simp; (try with_reducible rfl))
                simp only [Act.put, List.setIfInBounds_toArray, List.set_cons_zero, List.set_cons_succ]
                refine takeS (i := 4) (v := ?_) rfl (by kernel_rfl) (by kernel_rfl) (by kernel_rfl) (fun _ _ _ h => h) (Or.inl ⟨by rfl, ?_⟩) (by assumption) ?_
                rotate_left
                · (intro w' hSw; go_simp; (try with_reducible rfl))
                simp only [Act.put, List.setIfInBounds_toArray, List.set_cons_zero, List.set_cons_succ]
                refine takeS (i := 5) (v := ?_) rfl (by kernel_rfl) (by kernel_rfl) (by kernel_rfl) (fun _ _ _ h => h) (Or.inl ⟨by rfl, ?_⟩) (by assumption) ?_
                rotate_left
                · (intro w' hSw; go_simp; (try with_reducible rfl))
                simp only [Act.put, List.setIfInBounds_toArray, List.set_cons_zero, List.set_cons_succ]
                refine takeS (i := 7) (v := ?_) rfl (by kernel_rfl) (by kernel_rfl) (by kernel_rfl) (fun _ _ _ h => h) (Or.inl ⟨by rfl, ?_⟩) (by assumption) ?_
                rotate_left
                · (intro w' hSw; go_simp; (try with_reducible rfl))
                simp only [Act.put, List.setIfInBounds_toArray, List.set_cons_zero, List.set_cons_succ]
                refine takeS (i := 8) (v := ?_) rfl (by kernel_rfl) (by kernel_rfl) (by kernel_rfl) (fun _ _ _ h => h) (Or.inl ⟨by rfl, ?_⟩) (by assumption) ?_
                rotate_left
                · (intro w' hSw; go_simp; (try with_reducible rfl))
                simp only [Act.put, List.setIfInBounds_toArray, List.set_cons_zero, List.set_cons_succ]
                refine takeS (i := 9) (v := ?_) rfl (by kernel_rfl) (by kernel_rfl) (by kernel_rfl) (fun _ _ _ h => h) (Or.inl ⟨by rfl, ?_⟩) (by assumption) ?_
                rotate_left
                · (intro w' hSw; go_simp; (try with_reducible rfl))
                simp only [Act.put, List.setIfInBounds_toArray, List.set_cons_zero, List.set_cons_succ]
                refine wpAnyH_ready (rs := [6]) (by kernel_rfl) (by simp) ?_
                refine readyS rfl (fun K hK => ?_)
                go_simp
                refine Calls.mono (KD2.out _ hSb) ?_
                rintro e x1 ⟨rfl, hx1, hk1⟩
                have hbxa := hbxb.step hk1
                refine hK.out _ _ hx1 (fun hHeld => ?_)
                clear hK K
                refine wpAnyH_ready (rs := [10]) (by kernel_rfl) (by simp) ?_
                refine readyS rfl (fun K hK => ?_)
                go_simp
                refine Calls.mono (KO2.out _) ?_
                rintro e x2 ⟨rfl, hk2⟩
                have hbxb := hbxa.step hk2
                have hx2 := bstep hx1 hk2
                refine hK.out _ _ hx2 (fun hHeld => ?_)
                clear hK K
                refine takeS (i := 11) (v := ?_) rfl (by kernel_rfl) (by kernel_rfl) (by kernel_rfl) (fun _ _ _ h => h) (Or.inl ⟨by rfl, ?_⟩) (by assumption) ?_
                rotate_left
                · (intro w' hSw; go_simp; (try with_reducible rfl))
                simp only [Act.put, List.setIfInBounds_toArray, List.set_cons_zero, List.set_cons_succ]
                have m0 : x2.cell? ⟨wc.heap.size, 8, none⟩ = some (.int .i64 0) := hbxb.c 8 _ rfl
                have m1 : x2.cell? ⟨wc.heap.size, 9, none⟩ = some (.int .i64 0) := hbxb.c 9 _ rfl
                have n0 := hbxb.f 8
                have n1 := hbxb.f 9
                have hltb := hbxb.lt
                refine wpAnyH_ready (rs := [12]) (by kernel_rfl) (by simp) ?_
                refine readyS rfl (fun K hK => ?_)
                go_simp
                refine hK.out _ _ ?_ (fun hHeld => ?_)
                · exact bset (bset hx2 (Nat.le_refl _) _) (Nat.le_refl _) _
                clear hK K
                refine wpAnyH_done (by kernel_rfl) ?_ _
                have HBNb : Hid (Bx wc.heap.size [.bool so, .int .i64 sn, .int .i64 sd, .bool so2, .int .i64 sn2, .int .i64 sd2, .int .i64 u, .int .i64 v, .int .i64 u2, .int .i64 v2] ((x2.setCell ⟨wc.heap.size, 8, none⟩ (.int .i64 u2)).setCell ⟨wc.heap.size, 9, none⟩ (.int .i64 v2))) := (hbxb.set 8 (.int .i64 u2)).set 9 (.int .i64 v2)
                have HBEb : Hid (Below wc.heap.size wc ((x2.setCell ⟨wc.heap.size, 8, none⟩ (.int .i64 u2)).setCell ⟨wc.heap.size, 9, none⟩ (.int .i64 v2))) := bset (bset hx2 (Nat.le_refl _) _) (Nat.le_refl _) _
                try clear hHeld
                clear m0
                clear m1
                clear n0
                clear n1
                clear hltb
                clear hbxb
                clear hbxa
                clear hx2
                clear hk2
                clear hx1
                clear hk1
                clear hbxb
                clear hSb
                generalize (x2.setCell ⟨wc.heap.size, 8, none⟩ (.int .i64 u2)).setCell ⟨wc.heap.size, 9, none⟩ (.int .i64 v2) = Xb at *
                clear q0 q3 q4 KD1 KD2 KO1 KO2 HBNa HBEa
                have hall := Bx.all10 HBNb.out
                obtain ⟨j0, j1, j2, j3, j4, j5, j6, j7, j8, j9⟩ := hall
                have hltc := HBNb.out.lt
                have HPX : Hid (PcsV Xb u5 (Num.linesN p b tl cl (A.take q))) := PcsV.below HPC5.out HBEb.out
                go_wp2_with fail
                refine Calls.mono (rjoined_any u5 (Num.linesN p b tl cl (A.take q)) ⟨⟨so, sn, sd⟩, ⟨so2, sn2, sd2⟩, u, v, u2, v2⟩ Xb HPX.out HLEN.out HPOK.out HOKL.out) ?_
                rintro e Xc ⟨g', c', rfl, hH', hg', hc', hb'⟩
                have HPN : Hid (PcsV Xc (.slice (some ⟨g', 0, none⟩) (Num.joinedN (Num.linesN p b tl cl (A.take q)) ⟨⟨so, sn, sd⟩, ⟨so2, sn2, sd2⟩, u, v, u2, v2⟩).length c') (Num.linesN p b tl cl (A.take (q + 1)))) := by
                  show PcsV _ _ _
                  rw [HLS2.out]
                  exact Or.inr ⟨g', c', rfl, hg', hH', Num.joined_ne _ _, hc'⟩
                have HBN : Hid (Below w1.heap.size w1 Xc) := bstep (bstep hbc5 HBEb.out) hb'
                clear j0 j1 j2 j3 j4 j5 j6 j7 j8 j9 hH' hc' hb' hg'
                generalize (Num.joinedN (Num.linesN p b tl cl (A.take q)) ⟨⟨so, sn, sd⟩, ⟨so2, sn2, sd2⟩, u, v, u2, v2⟩).length = jl at *
                go_wp2_with fail
                go_roundw
                case rel => first | exact ⟨q + 1, hlt, by go_num, HPN.out, HBN.out⟩ | ((repeat apply Exists.intro); refine ⟨?_, rfl⟩; exact ⟨q + 1, hlt, by go_num, HPN.out, HBN.out⟩)
                case measure => simp [intOf]; omega
    · have hqe : q = ll := by omega
      subst hqe
      have HPV2 : Hid (PcsV wr u5 (Num.linesN p b rl cl A)) := by
        have h := HPV.out
        rw [hlA, List.take_length] at h
        exact h
      have HOK : Hid (∀ y ∈ Num.linesN p b rl cl A, Num.PcOk y) := fun y hy => by
        have hcan := Num.canon_lines CX.out A
        have hn := hcan.nums CX.out y hy
        exact pc_ok y (hcan.okf CX.out y hy) (hcan.okt CX.out y hy) hn.1 hn.2.1
      have hLL : (Num.linesN p b rl cl A).length ≤ 70 := Nat.le_trans (Num.lines_len p b rl cl A) HA70.out
      have HB0 : Hid (Below w.heap.size w wr) := hB
      clear HPV HBV hB hblV hbl HLI HRT CX HC HR HBB b0 b1 hq hlt
      subst hlA
      generalize A.length = ll at *
      generalize hLe : Num.linesN p b rl cl A = L at *
      have HLE : Hid (Num.linesN p b rl cl A = L) := hLe
      clear hLe
      generalize wr = w2 at *
      obtain hpv := HPV2.out
      clear HPV2
      rcases hpv with ⟨rfl, rfl⟩ | ⟨g, c, rfl, hg, hh, hne, hcap⟩
      · go_wp2_with fail
        go_loopw [14, 15] (fun v i wr => v = .slice none 0 0 ∧ i = .int .i64 0 ∧ wr = w2) (fun _ _ _ => 0)
        case atStart => exact ⟨rfl, rfl, rfl⟩
        case round =>
          obtain ⟨rfl, rfl, rfl⟩ := hrel
          go_wp2_with fail
          go_ret
          exact ⟨_, rfl, Or.inl ⟨by rw [HLE.out]; rfl, rfl⟩, HB0.out⟩
      · have HH : Hid (HoldsPc w2 g L) := hh
        have HNE : Hid (L ≠ []) := hne
        generalize hn : L.length = n at *
        have HN : Hid (L.length = n) := hn
        have hn0 : 0 < n := by rw [← hn]; exact List.length_pos_iff.2 hne
        clear hn hh hne
        obtain ⟨i0, hif, hz0, hz1, hz2⟩ := info_parts Try.infoPiece
        go_wp2_with fail
        go_loopw [14, 15] (fun v i wr => ∃ k : Nat, k ≤ n ∧ i = .int .i64 k ∧ PcsV wr v (Num.outP (L.take k)) ∧ Below w2.heap.size w2 wr) (fun _ i _ => n - (intOf i).toNat)
        case atStart => exact ⟨0, Nat.zero_le _, rfl, Or.inl ⟨rfl, rfl⟩, Below.refl _ _⟩
        case round =>
          obtain ⟨k, hk, rfl, hpo, hbl2⟩ := hrel
          have HPO : Hid (PcsV wr u14 (Num.outP (L.take k))) := hpo
          clear hpo
          have HHr : Hid (HoldsPc wr g L) := HoldsPc.below HH.out hbl2 hg
          by_cases hlt : k < n
          · obtain ⟨y, hy⟩ : ∃ y, L[k]? = some y := ⟨_, List.getElem?_eq_getElem (by have := HN.out; omega)⟩
            have HYO : Hid (Num.PcOk y) := HOK.out y (List.mem_of_getElem? hy)
            have HSN : Hid (Num.outP (L.take (k + 1)) = if Num.spotB y = true then Num.outP (L.take k) else Num.insN y (Num.outP (L.take k))) := Num.out_snoc L k y hy
            have KS : Hid (∀ w', Calls Try.prog 57 #[.agg (pcL y).toArray] w' fun e w'' => e = .returned (.bool (Num.spotB y)) ∧ Below w'.heap.size w' w'') := fun w' => rspot_any y w'
            obtain ⟨fo, fn, fd, tt, tn, td, bn, bd, sn, sd, rfl⟩ := pieces_are y
            have hten := HHr.out.ten hy
            obtain ⟨c0, c1, c2, c3, c4, c5, c6, c7, c8, c9⟩ := hten
            have HYE : Hid (L[k]? = some ⟨⟨fo, fn, fd⟩, ⟨tt, tn, td⟩, bn, bd, sn, sd⟩) := hy
            clear hy
            generalize hsp : Num.spotB ⟨⟨fo, fn, fd⟩, ⟨tt, tn, td⟩, bn, bd, sn, sd⟩ = sp at *
            have HSP : Hid (Num.spotB ⟨⟨fo, fn, fd⟩, ⟨tt, tn, td⟩, bn, bd, sn, sd⟩ = sp) := hsp
            clear hsp
            unfold pcL at KS
            go_wp2_with fail
            refine (KS.out _).mono ?_
            rintro e w4 ⟨rfl, hb4⟩
            cases sp
            · have HIN : Hid (Num.outP (L.take (k + 1)) = Num.insN ⟨⟨fo, fn, fd⟩, ⟨tt, tn, td⟩, bn, bd, sn, sd⟩ (Num.outP (L.take k))) := by
                show _ = _
                rw [HSN.out]; rfl
              have HOL : Hid ((Num.outP (L.take k)).length ≤ k) := Num.out_len L k
              have HP4 : Hid (PcsV w4 u14 (Num.outP (L.take k))) := PcsV.below HPO.out hb4
              have HH4 : Hid (HoldsPc w4 g L) := HoldsPc.below HHr.out hb4 (Nat.lt_of_lt_of_le hg hbl2.size)
              have HOO : Hid (∀ y ∈ Num.outP (L.take k), Num.PcOk y) := fun y hy => HOK.out y (List.mem_of_mem_take ((Num.mem_outP y (L.take k)).1 hy).1)
              have hb4' := bstep hbl2 hb4
              have hg4 : g < w4.heap.size := Nat.lt_of_lt_of_le hg hb4'.size
              clear HPO HHr c0 c1 c2 c3 c4 c5 c6 c7 c8 c9 KS HSN HSP
              generalize Num.outP (L.take k) = O at *
              generalize w4 = w5 at *
              rcases HP4.out with ⟨hO, hu⟩ | ⟨gO, cO, hu, hgO, hhO, hOne, hOc⟩
              · subst hO
                subst hu
                go_wp2_with fail
                clear HP4 HOL HOO
                have HINS : Hid (Num.insN ⟨⟨fo, fn, fd⟩, ⟨tt, tn, td⟩, bn, bd, sn, sd⟩ [] = [⟨⟨fo, fn, fd⟩, ⟨tt, tn, td⟩, bn, bd, sn, sd⟩]) := rfl
                go_loopw [16] (fun i wr => i = .int .i64 0 ∧ Below w5.heap.size w5 wr) (fun _ _ => 0)
                case atStart => exact ⟨rfl, Below.refl _ _⟩
                case round =>
                  obtain ⟨rfl, hbl3⟩ := hrel
                  go_wp2_with fail
                  go_region
                  go_wp2_with fail
                  have HHW : Hid (HoldsPc wr.drew g L) := HoldsPc.below HH4.out hbl3.drew hg4
                  have hBW : Below w2.heap.size w2 wr.drew := bstep hb4' hbl3.drew
                  generalize wr.drew = W at *
                  have hten := HHW.out.ten HYE.out
                  obtain ⟨c0, c1, c2, c3, c4, c5, c6, c7, c8, c9⟩ := hten
                  have HM1 : Hid ((W.drew.alloc (.cells #[.bool fo, .int .i64 fn, .int .i64 fd, .bool tt, .int .i64 tn, .int .i64 td, .int .i64 bn, .int .i64 bd, .int .i64 sn, .int .i64 sd] 58)).ownsRow W.heap.size 58 10 (.slice (some ⟨W.heap.size, 0, none⟩) 1 1) 1 [.bool fo, .int .i64 fn, .int .i64 fd, .bool tt, .int .i64 tn, .int .i64 td, .int .i64 bn, .int .i64 bd, .int .i64 sn, .int .i64 sd]) := own_made1 W.drew #[.bool fo, .int .i64 fn, .int .i64 fd, .bool tt, .int .i64 tn, .int .i64 td, .int .i64 bn, .int .i64 bd, .int .i64 sn, .int .i64 sd] rfl W.heap.size 58 (Nat.le_refl _)
                  have hS0 : Below W.heap.size W W.drew := (Below.refl _ _).drew
                  have hSA : Below W.heap.size W (W.drew.alloc (.cells #[.bool fo, .int .i64 fn, .int .i64 fd, .bool tt, .int .i64 tn, .int .i64 td, .int .i64 bn, .int .i64 bd, .int .i64 sn, .int .i64 sd] 58)) := bstep hS0 (balloc _ _)
                  have i0' : (0 : Int) ≤ (k : Int) := by omega
                  have i1' : (k : Int) < (n : Int) := by omega
                  have p0 : ∀ w', Below W.heap.size W w' → w'.cell? ⟨g, k * 10, none⟩ = some (.bool fo) := fun w' h => carry h c0
                  have p1 : ∀ w', Below W.heap.size W w' → w'.cell? ⟨g, k * 10 + 1, none⟩ = some (.int .i64 fn) := fun w' h => carry h c1
                  have p2 : ∀ w', Below W.heap.size W w' → w'.cell? ⟨g, k * 10 + 2, none⟩ = some (.int .i64 fd) := fun w' h => carry h c2
                  have p3 : ∀ w', Below W.heap.size W w' → w'.cell? ⟨g, k * 10 + 3, none⟩ = some (.bool tt) := fun w' h => carry h c3
                  have p4 : ∀ w', Below W.heap.size W w' → w'.cell? ⟨g, k * 10 + 4, none⟩ = some (.int .i64 tn) := fun w' h => carry h c4
                  have p5 : ∀ w', Below W.heap.size W w' → w'.cell? ⟨g, k * 10 + 5, none⟩ = some (.int .i64 td) := fun w' h => carry h c5
                  have p6 : ∀ w', Below W.heap.size W w' → w'.cell? ⟨g, k * 10 + 6, none⟩ = some (.int .i64 bn) := fun w' h => carry h c6
                  have p7 : ∀ w', Below W.heap.size W w' → w'.cell? ⟨g, k * 10 + 7, none⟩ = some (.int .i64 bd) := fun w' h => carry h c7
                  have p8 : ∀ w', Below W.heap.size W w' → w'.cell? ⟨g, k * 10 + 8, none⟩ = some (.int .i64 sn) := fun w' h => carry h c8
                  have p9 : ∀ w', Below W.heap.size W w' → w'.cell? ⟨g, k * 10 + 9, none⟩ = some (.int .i64 sd) := fun w' h => carry h c9
                  clear c0 c1 c2 c3 c4 c5 c6 c7 c8 c9
                  refine wp_region_held_drew (S := fun v => Below W.heap.size W v) (by kernel_rfl) ?_ (fun hHeld => ?_)
                  · assumption
                  refine takeS (i := 0) (v := ?_) rfl (by kernel_rfl) (by kernel_rfl) (by kernel_rfl) (fun _ _ _ h => h) (Or.inl ⟨by rfl, ?_⟩) (by assumption) ?_
                  rotate_left
                  · (intro w' hSw; go_simp; (try with_reducible rfl))
                  simp only [Act.put, List.setIfInBounds_toArray, List.set_cons_zero, List.set_cons_succ]
                  refine takeS (i := 1) (v := ?_) rfl (by kernel_rfl) (by kernel_rfl) (by kernel_rfl) (fun _ _ _ h => h) (Or.inl ⟨by rfl, ?_⟩) (by assumption) ?_
                  rotate_left
                  · (intro w' hSw; go_simp; (try with_reducible rfl))
                  simp only [Act.put, List.setIfInBounds_toArray, List.set_cons_zero, List.set_cons_succ]
                  refine takeS (i := 2) (v := ?_) rfl (by kernel_rfl) (by kernel_rfl) (by kernel_rfl) (fun _ _ _ h => h) (Or.inl ⟨by rfl, ?_⟩) (by assumption) ?_
                  rotate_left
                  · (intro w' hSw; go_simp; (try with_reducible rfl))
                  simp only [Act.put, List.setIfInBounds_toArray, List.set_cons_zero, List.set_cons_succ]
                  refine takeS (i := 3) (v := ?_) rfl (by kernel_rfl) (by kernel_rfl) (by kernel_rfl) (fun _ _ _ h => h) (Or.inl ⟨by rfl, ?_⟩) (by assumption) ?_
                  rotate_left
                  · (intro w' hSw; go_simp; (try with_reducible rfl))
                  simp only [Act.put, List.setIfInBounds_toArray, List.set_cons_zero, List.set_cons_succ]
                  refine takeS (i := 5) (v := ?_) rfl (by kernel_rfl) (by kernel_rfl) (by kernel_rfl) (fun _ _ _ h => h) (Or.inl ⟨by rfl, ?_⟩) (by assumption) ?_
                  rotate_left
                  · (intro w' hSw; go_simp; (try with_reducible rfl))
                  simp only [Act.put, List.setIfInBounds_toArray, List.set_cons_zero, List.set_cons_succ]
                  refine takeS (i := 6) (v := ?_) rfl (by kernel_rfl) (by kernel_rfl) (by kernel_rfl) (fun _ _ _ h => h) (Or.inl ⟨by rfl, ?_⟩) (by assumption) ?_
                  rotate_left
                  · (intro w' hSw; go_simp; (try with_reducible rfl))
                  simp only [Act.put, List.setIfInBounds_toArray, List.set_cons_zero, List.set_cons_succ]
                  refine takeS (i := 7) (v := ?_) rfl (by kernel_rfl) (by kernel_rfl) (by kernel_rfl) (fun _ _ _ h => h) (Or.inl ⟨by rfl, ?_⟩) (by assumption) ?_
                  rotate_left
                  · (intro w' hSw; go_simp; (try with_reducible rfl))
                  simp only [Act.put, List.setIfInBounds_toArray, List.set_cons_zero, List.set_cons_succ]
                  refine wpAnyH_ready (rs := [4]) (by kernel_rfl) (by simp) ?_
                  refine readyS rfl (fun K hK => ?_)
                  go_simp
                  refine hK.out _ _ ?_ (fun hHeld => ?_)
                  · exact hSA
                  clear hK K
                  refine wpAnyH_ready (rs := [8]) (by kernel_rfl) (by simp) ?_
                  refine readyS rfl (fun K hK => ?_)
                  rw [if_pos (by rfl)]
                  refine wp_append_noneO (.tmp 125) (.tmp 128) 61 rfl W.heap.size 58 i0 10 Try.underlying61 hif _ 1 [.bool fo, .int .i64 fn, .int .i64 fd, .bool tt, .int .i64 tn, .int .i64 td, .int .i64 bn, .int .i64 bd, .int .i64 sn, .int .i64 sd] rfl HM1.out rfl ?_
                  refine hK.out _ _ hSA (fun hHeld => ?_)
                  clear hK K
                  simp only [Act.put, List.setIfInBounds_toArray, List.set_cons_zero, List.set_cons_succ]
                  refine takeS (i := 9) (v := ?_) rfl (by kernel_rfl) (by kernel_rfl) (by kernel_rfl) (fun _ _ _ h => h) (Or.inl ⟨by rfl, ?_⟩) (by assumption) ?_
                  rotate_left
                  · (intro w' hSw; go_simp; (try with_reducible rfl))
                  simp only [Act.put, List.setIfInBounds_toArray, List.set_cons_zero, List.set_cons_succ]
                  refine wpAnyH_done (by kernel_rfl) ?_ _
                  clear p0 p1 p2 p3 p4 p5 p6 p7 p8 p9 hHeld
                  have hR1 := holds_of_owns (l := [⟨⟨fo, fn, fd⟩, ⟨tt, tn, td⟩, bn, bd, sn, sd⟩]) (w := (W.drew.alloc (.cells #[.bool fo, .int .i64 fn, .int .i64 fd, .bool tt, .int .i64 tn, .int .i64 td, .int .i64 bn, .int .i64 bd, .int .i64 sn, .int .i64 sd] 58))) HM1.out
                  have hgl : W.heap.size < (W.drew.alloc (.cells #[.bool fo, .int .i64 fn, .int .i64 fd, .bool tt, .int .i64 tn, .int .i64 td, .int .i64 bn, .int .i64 bd, .int .i64 sn, .int .i64 sd] 58)).heap.size := by simp
                  have hb1' : Below W.heap.size W (W.drew.alloc (.cells #[.bool fo, .int .i64 fn, .int .i64 fd, .bool tt, .int .i64 tn, .int .i64 td, .int .i64 bn, .int .i64 bd, .int .i64 sn, .int .i64 sd] 58)) := hSA
                  change HoldsPc ((W.alloc (.cells #[.bool fo, .int .i64 fn, .int .i64 fd, .bool tt, .int .i64 tn, .int .i64 td, .int .i64 bn, .int .i64 bd, .int .i64 sn, .int .i64 sd] 58)).drew) _ _ at hR1
                  change W.heap.size < ((W.alloc (.cells #[.bool fo, .int .i64 fn, .int .i64 fd, .bool tt, .int .i64 tn, .int .i64 td, .int .i64 bn, .int .i64 bd, .int .i64 sn, .int .i64 sd] 58)).drew).heap.size at hgl
                  change Below W.heap.size W ((W.alloc (.cells #[.bool fo, .int .i64 fn, .int .i64 fd, .bool tt, .int .i64 tn, .int .i64 td, .int .i64 bn, .int .i64 bd, .int .i64 sn, .int .i64 sd] 58)).drew) at hb1'
                  have hBW1 := bstep hBW hb1'
                  clear HM1 hSA hS0
                  generalize (W.alloc (.cells #[.bool fo, .int .i64 fn, .int .i64 fd, .bool tt, .int .i64 tn, .int .i64 td, .int .i64 bn, .int .i64 bd, .int .i64 sn, .int .i64 sd] 58)).drew = W1 at *
                  generalize W.heap.size = g1 at *
                  have HR1 : Hid (HoldsPc W1 g1 [⟨⟨fo, fn, fd⟩, ⟨tt, tn, td⟩, bn, bd, sn, sd⟩]) := hR1
                  clear hR1
                  have hSB : Below W1.heap.size W1 (W1.alloc (.cells #[] 58)) := balloc _ _
                  have HM2 : Hid ((W1.alloc (.cells #[] 58)).ownsRow W1.heap.size 58 10 (.slice (some ⟨W1.heap.size, 0, none⟩) 0 0) 0 []) := World.ownsRow_made (size := 10) (base := W1.heap.size) (e := 58) W1 #[] 0 (Nat.le_refl _) (Nat.zero_le _) rfl
                  have HR2 : Hid (HoldsPc (W1.alloc (.cells #[] 58)) g1 [⟨⟨fo, fn, fd⟩, ⟨tt, tn, td⟩, bn, bd, sn, sd⟩]) := HoldsPc.below HR1.out hSB hgl
                  go_wp2_with (first | (at_builtin; refine wpList_append_own_none rfl (.tmp 130) (.tmp 133) 61 rfl W1.heap.size 58 i0 10 Try.underlying61 hif _ 0 [] rfl HM2.out rfl ?_) | (at_builtin; refine wpList_append_own _ rfl (.tmp 134) (.tmp 135) 61 rfl W1.heap.size 58 i0 (.agg #[.bool false, .int .i64 0, .int .i64 0, .bool false, .int .i64 0, .int .i64 0, .int .i64 0, .int .i64 0, .int .i64 0, .int .i64 0]) 10 80 Try.underlying61 hif hz0 hz1 hz2 rfl (by decide) _ 0 _ rfl HM2.out ⟨g1, 0, none⟩ (1) 1 ([⟨⟨fo, fn, fd⟩, ⟨tt, tn, td⟩, bn, bd, sn, sd⟩].flatMap pcL) rfl rfl (fun t u h => HoldsPc.flat HR2.out t u h) (flat_one _) (by unfold maxLen; omega) (by omega) hSB.size ?_))
                  intro v3 W3 ho3 hg3 _
                  have hb3' : Below W1.heap.size W1 W3 := hSB.grown hg3 hSB.size (fun q hq => own_base HM2.out hq)
                  have HP3 : Hid (PcsV W3 v3 (Num.outP (L.take (k + 1)))) := by
                    show PcsV _ _ _
                    rw [HIN.out, HINS.out]
                    refine own_pcsV (base := W1.heap.size) ?_ (by simp)
                    skip
                    exact ho3
                  clear ho3 hg3
                  have HBE : Hid (Below w2.heap.size w2 W3) := bstep hBW1 hb3'
                  go_wp2_with fail
                  go_roundw
                  case rel => first | exact ⟨k + 1, hlt, by go_num, HP3.out, HBE.out⟩ | ((repeat apply Exists.intro); exact ⟨⟨k + 1, hlt, by go_num, HP3.out, HBE.out⟩, rfl⟩)
                  case measure => simp [intOf]; omega
              · subst hu
                have HHO : Hid (HoldsPc w5 gO O) := hhO
                have hol := HOL.out
                generalize hon : O.length = on at *
                have HON : Hid (O.length = on) := hon
                have hon0 : 0 < on := by rw [← hon]; exact List.length_pos_iff.2 hOne
                clear hon hOne hhO HP4
                go_wp2_with fail
                go_loopw [16] (fun i wr => ∃ j : Nat, j ≤ on ∧ i = .int .i64 j ∧ (∀ t z, t < j → O[t]? = some z → Num.beforeB z ⟨⟨fo, fn, fd⟩, ⟨tt, tn, td⟩, bn, bd, sn, sd⟩ = true) ∧ Below w5.heap.size w5 wr) (fun i _ => on - (intOf i).toNat)
                case atStart => exact ⟨0, Nat.zero_le _, rfl, fun t z h => by omega, Below.refl _ _⟩
                case round =>
                  obtain ⟨j, hj, rfl, hbf, hbl3⟩ := hrel
                  have HBF : Hid (∀ t z, t < j → O[t]? = some z → Num.beforeB z ⟨⟨fo, fn, fd⟩, ⟨tt, tn, td⟩, bn, bd, sn, sd⟩ = true) := hbf
                  clear hbf
                  by_cases hjl : j < on
                  · obtain ⟨x, hx⟩ : ∃ x, O[j]? = some x := ⟨_, List.getElem?_eq_getElem (by have := HON.out; omega)⟩
                    have HXO : Hid (Num.PcOk x) := HOO.out x (List.mem_of_getElem? hx)
                    have KB : Hid (∀ w', Below wr.heap.size wr w' → Calls Try.prog 58 #[.agg (pcL x).toArray, .agg (pcL ⟨⟨fo, fn, fd⟩, ⟨tt, tn, td⟩, bn, bd, sn, sd⟩).toArray] w' fun e w'' => e = .returned (.bool (Num.beforeB x ⟨⟨fo, fn, fd⟩, ⟨tt, tn, td⟩, bn, bd, sn, sd⟩)) ∧ Below wr.heap.size wr w'' ∧ Below w'.heap.size w' w'') := fun w' h => (rbefore_any x ⟨⟨fo, fn, fd⟩, ⟨tt, tn, td⟩, bn, bd, sn, sd⟩ w' HXO.out.1 HXO.out.2.1 HYO.out.1 HYO.out.2.1).mono fun _ _ k => ⟨k.1, bstep h k.2, k.2⟩
                    obtain ⟨xo, xn, xd, zo, zn, zd, qn, qd, rn, rd, rfl⟩ := pieces_are x
                    have hten := (HoldsPc.below HH4.out hbl3 hg4).ten HYE.out
                    obtain ⟨c0, c1, c2, c3, c4, c5, c6, c7, c8, c9⟩ := hten
                    have hten2 := (HoldsPc.below HHO.out hbl3 hgO).ten hx
                    obtain ⟨e0, e1, e2, e3, e4, e5, e6, e7, e8, e9⟩ := hten2
                    have HXE : Hid (O[j]? = some ⟨⟨xo, xn, xd⟩, ⟨zo, zn, zd⟩, qn, qd, rn, rd⟩) := hx
                    clear hx
                    generalize hbv : Num.beforeB ⟨⟨xo, xn, xd⟩, ⟨zo, zn, zd⟩, qn, qd, rn, rd⟩ ⟨⟨fo, fn, fd⟩, ⟨tt, tn, td⟩, bn, bd, sn, sd⟩ = bv at *
                    have HBV2 : Hid (Num.beforeB ⟨⟨xo, xn, xd⟩, ⟨zo, zn, zd⟩, qn, qd, rn, rd⟩ ⟨⟨fo, fn, fd⟩, ⟨tt, tn, td⟩, bn, bd, sn, sd⟩ = bv) := hbv
                    clear hbv
                    unfold pcL at KB
                    simp only at KB
                    have hdec : decide ((j : Int) < (on : Int)) = true := by simp; omega
                    have p0 : ∀ w', Below wr.heap.size wr w' → w'.cell? ⟨g, k * 10, none⟩ = some (.bool fo) := fun w' h => carry h c0
                    have p1 : ∀ w', Below wr.heap.size wr w' → w'.cell? ⟨g, k * 10 + 1, none⟩ = some (.int .i64 fn) := fun w' h => carry h c1
                    have p2 : ∀ w', Below wr.heap.size wr w' → w'.cell? ⟨g, k * 10 + 2, none⟩ = some (.int .i64 fd) := fun w' h => carry h c2
                    have p3 : ∀ w', Below wr.heap.size wr w' → w'.cell? ⟨g, k * 10 + 3, none⟩ = some (.bool tt) := fun w' h => carry h c3
                    have p4 : ∀ w', Below wr.heap.size wr w' → w'.cell? ⟨g, k * 10 + 4, none⟩ = some (.int .i64 tn) := fun w' h => carry h c4
                    have p5 : ∀ w', Below wr.heap.size wr w' → w'.cell? ⟨g, k * 10 + 5, none⟩ = some (.int .i64 td) := fun w' h => carry h c5
                    have p6 : ∀ w', Below wr.heap.size wr w' → w'.cell? ⟨g, k * 10 + 6, none⟩ = some (.int .i64 bn) := fun w' h => carry h c6
                    have p7 : ∀ w', Below wr.heap.size wr w' → w'.cell? ⟨g, k * 10 + 7, none⟩ = some (.int .i64 bd) := fun w' h => carry h c7
                    have p8 : ∀ w', Below wr.heap.size wr w' → w'.cell? ⟨g, k * 10 + 8, none⟩ = some (.int .i64 sn) := fun w' h => carry h c8
                    have p9 : ∀ w', Below wr.heap.size wr w' → w'.cell? ⟨g, k * 10 + 9, none⟩ = some (.int .i64 sd) := fun w' h => carry h c9
                    have r0 : ∀ w', Below wr.heap.size wr w' → w'.cell? ⟨gO, j * 10, none⟩ = some (.bool xo) := fun w' h => carry h e0
                    have r1 : ∀ w', Below wr.heap.size wr w' → w'.cell? ⟨gO, j * 10 + 1, none⟩ = some (.int .i64 xn) := fun w' h => carry h e1
                    have r2 : ∀ w', Below wr.heap.size wr w' → w'.cell? ⟨gO, j * 10 + 2, none⟩ = some (.int .i64 xd) := fun w' h => carry h e2
                    have r3 : ∀ w', Below wr.heap.size wr w' → w'.cell? ⟨gO, j * 10 + 3, none⟩ = some (.bool zo) := fun w' h => carry h e3
                    have r4 : ∀ w', Below wr.heap.size wr w' → w'.cell? ⟨gO, j * 10 + 4, none⟩ = some (.int .i64 zn) := fun w' h => carry h e4
                    have r5 : ∀ w', Below wr.heap.size wr w' → w'.cell? ⟨gO, j * 10 + 5, none⟩ = some (.int .i64 zd) := fun w' h => carry h e5
                    have r6 : ∀ w', Below wr.heap.size wr w' → w'.cell? ⟨gO, j * 10 + 6, none⟩ = some (.int .i64 qn) := fun w' h => carry h e6
                    have r7 : ∀ w', Below wr.heap.size wr w' → w'.cell? ⟨gO, j * 10 + 7, none⟩ = some (.int .i64 qd) := fun w' h => carry h e7
                    have r8 : ∀ w', Below wr.heap.size wr w' → w'.cell? ⟨gO, j * 10 + 8, none⟩ = some (.int .i64 rn) := fun w' h => carry h e8
                    have r9 : ∀ w', Below wr.heap.size wr w' → w'.cell? ⟨gO, j * 10 + 9, none⟩ = some (.int .i64 rd) := fun w' h => carry h e9

                    clear c0 c1 c2 c3 c4 c5 c6 c7 c8 c9 e0 e1 e2 e3 e4 e5 e6 e7 e8 e9
                    go_wp2_with fail
                    go_region_held3 (fun w' => Below wr.heap.size wr w') (first | (with_reducible assumption) | (with_reducible exact (Below.refl _ _).drew))
                      (first | (go_at_call 58; refine Calls.mono (KB.out _ ?_) ?_; (with_reducible assumption); rintro e v3 ⟨rfl, hb3, hk3⟩))
                    rename_i hfin
                    clear p0 p1 p2 p3 p4 p5 p6 p7 p8 p9 r0 r1 r2 r3 r4 r5 r6 r7 r8 r9 KB
                    have HFIN : Hid (Below wr.heap.size wr v3) := hb3
                    have HBF3 : Hid (Below w5.heap.size w5 v3) := bstep hbl3 hb3
                    clear hb3 hk3 hfin
                    cases bv
                    · have HINS : Hid (Num.insN ⟨⟨fo, fn, fd⟩, ⟨tt, tn, td⟩, bn, bd, sn, sd⟩ O = O.take j ++ ⟨⟨fo, fn, fd⟩, ⟨tt, tn, td⟩, bn, bd, sn, sd⟩ :: O.drop j) := Num.ins_at _ O j (by have := HON.out; omega) HBF.out (fun z hz => by rw [HXE.out] at hz; cases hz; exact HBV2.out)
                      go_wp2_with fail
                      have HHW : Hid (HoldsPc v3 g L) := HoldsPc.below HH4.out HBF3.out hg4
                      have HOW : Hid (HoldsPc v3 gO O) := HoldsPc.below HHO.out HBF3.out hgO
                      have hgOW : gO < v3.heap.size := Nat.lt_of_lt_of_le hgO HBF3.out.size
                      have hBW : Below w2.heap.size w2 v3 := bstep hb4' HBF3.out
                      clear HFIN HBF3
                      generalize v3 = W at *
                      have hne9 : ¬ cO = j := by omega
                      have hten := HHW.out.ten HYE.out
                      obtain ⟨c0, c1, c2, c3, c4, c5, c6, c7, c8, c9⟩ := hten
                      have HM1 : Hid ((W.drew.alloc (.cells #[.bool fo, .int .i64 fn, .int .i64 fd, .bool tt, .int .i64 tn, .int .i64 td, .int .i64 bn, .int .i64 bd, .int .i64 sn, .int .i64 sd] 58)).ownsRow W.heap.size 58 10 (.slice (some ⟨W.heap.size, 0, none⟩) 1 1) 1 [.bool fo, .int .i64 fn, .int .i64 fd, .bool tt, .int .i64 tn, .int .i64 td, .int .i64 bn, .int .i64 bd, .int .i64 sn, .int .i64 sd]) := own_made1 W.drew #[.bool fo, .int .i64 fn, .int .i64 fd, .bool tt, .int .i64 tn, .int .i64 td, .int .i64 bn, .int .i64 bd, .int .i64 sn, .int .i64 sd] rfl W.heap.size 58 (Nat.le_refl _)
                      have hS0 : Below W.heap.size W W.drew := (Below.refl _ _).drew
                      have hSA : Below W.heap.size W (W.drew.alloc (.cells #[.bool fo, .int .i64 fn, .int .i64 fd, .bool tt, .int .i64 tn, .int .i64 td, .int .i64 bn, .int .i64 bd, .int .i64 sn, .int .i64 sd] 58)) := bstep hS0 (balloc _ _)
                      have i0' : (0 : Int) ≤ (k : Int) := by omega
                      have i1' : (k : Int) < (n : Int) := by omega
                      have p0 : ∀ w', Below W.heap.size W w' → w'.cell? ⟨g, k * 10, none⟩ = some (.bool fo) := fun w' h => carry h c0
                      have p1 : ∀ w', Below W.heap.size W w' → w'.cell? ⟨g, k * 10 + 1, none⟩ = some (.int .i64 fn) := fun w' h => carry h c1
                      have p2 : ∀ w', Below W.heap.size W w' → w'.cell? ⟨g, k * 10 + 2, none⟩ = some (.int .i64 fd) := fun w' h => carry h c2
                      have p3 : ∀ w', Below W.heap.size W w' → w'.cell? ⟨g, k * 10 + 3, none⟩ = some (.bool tt) := fun w' h => carry h c3
                      have p4 : ∀ w', Below W.heap.size W w' → w'.cell? ⟨g, k * 10 + 4, none⟩ = some (.int .i64 tn) := fun w' h => carry h c4
                      have p5 : ∀ w', Below W.heap.size W w' → w'.cell? ⟨g, k * 10 + 5, none⟩ = some (.int .i64 td) := fun w' h => carry h c5
                      have p6 : ∀ w', Below W.heap.size W w' → w'.cell? ⟨g, k * 10 + 6, none⟩ = some (.int .i64 bn) := fun w' h => carry h c6
                      have p7 : ∀ w', Below W.heap.size W w' → w'.cell? ⟨g, k * 10 + 7, none⟩ = some (.int .i64 bd) := fun w' h => carry h c7
                      have p8 : ∀ w', Below W.heap.size W w' → w'.cell? ⟨g, k * 10 + 8, none⟩ = some (.int .i64 sn) := fun w' h => carry h c8
                      have p9 : ∀ w', Below W.heap.size W w' → w'.cell? ⟨g, k * 10 + 9, none⟩ = some (.int .i64 sd) := fun w' h => carry h c9
                      clear c0 c1 c2 c3 c4 c5 c6 c7 c8 c9
                      have HOA : Hid (HoldsPc (W.drew.alloc (.cells #[.bool fo, .int .i64 fn, .int .i64 fd, .bool tt, .int .i64 tn, .int .i64 td, .int .i64 bn, .int .i64 bd, .int .i64 sn, .int .i64 sd] 58)) gO O) := HoldsPc.below HOW.out hSA hgOW
                      have j0' : (0 : Int) ≤ (j : Int) := by omega
                      have j1' : (j : Int) ≤ (on : Int) := by omega
                      have j2' : (on : Int) ≤ (cO : Int) := by omega
                      refine wp_region_held_drew (S := fun v => Below W.heap.size W v) (by kernel_rfl) ?_ (fun hHeld => ?_)
                      · assumption
                      refine takeS (i := 0) (v := ?_) rfl (by kernel_rfl) (by kernel_rfl) (by kernel_rfl) (fun _ _ _ h => h) (Or.inl ⟨by rfl, ?_⟩) (by assumption) ?_
                      rotate_left
                      · (intro w' hSw; go_simp; (try with_reducible rfl))
                      simp only [Act.put, List.setIfInBounds_toArray, List.set_cons_zero, List.set_cons_succ]
                      refine takeS (i := 1) (v := ?_) rfl (by kernel_rfl) (by kernel_rfl) (by kernel_rfl) (fun _ _ _ h => h) (Or.inl ⟨by rfl, ?_⟩) (by assumption) ?_
                      rotate_left
                      · (intro w' hSw; go_simp; (try with_reducible rfl))
                      simp only [Act.put, List.setIfInBounds_toArray, List.set_cons_zero, List.set_cons_succ]
                      refine takeS (i := 2) (v := ?_) rfl (by kernel_rfl) (by kernel_rfl) (by kernel_rfl) (fun _ _ _ h => h) (Or.inl ⟨by rfl, ?_⟩) (by assumption) ?_
                      rotate_left
                      · (intro w' hSw; go_simp; (try with_reducible rfl))
                      simp only [Act.put, List.setIfInBounds_toArray, List.set_cons_zero, List.set_cons_succ]
                      refine takeS (i := 3) (v := ?_) rfl (by kernel_rfl) (by kernel_rfl) (by kernel_rfl) (fun _ _ _ h => h) (Or.inl ⟨by rfl, ?_⟩) (by assumption) ?_
                      rotate_left
                      · (intro w' hSw; go_simp; (try with_reducible rfl))
                      simp only [Act.put, List.setIfInBounds_toArray, List.set_cons_zero, List.set_cons_succ]
                      refine takeS (i := 5) (v := ?_) rfl (by kernel_rfl) (by kernel_rfl) (by kernel_rfl) (fun _ _ _ h => h) (Or.inl ⟨by rfl, ?_⟩) (by assumption) ?_
                      rotate_left
                      · (intro w' hSw; go_simp; (try with_reducible rfl))
                      simp only [Act.put, List.setIfInBounds_toArray, List.set_cons_zero, List.set_cons_succ]
                      refine takeS (i := 6) (v := ?_) rfl (by kernel_rfl) (by kernel_rfl) (by kernel_rfl) (fun _ _ _ h => h) (Or.inl ⟨by rfl, ?_⟩) (by assumption) ?_
                      rotate_left
                      · (intro w' hSw; go_simp; (try with_reducible rfl))
                      simp only [Act.put, List.setIfInBounds_toArray, List.set_cons_zero, List.set_cons_succ]
                      refine takeS (i := 7) (v := ?_) rfl (by kernel_rfl) (by kernel_rfl) (by kernel_rfl) (fun _ _ _ h => h) (Or.inl ⟨by rfl, ?_⟩) (by assumption) ?_
                      rotate_left
                      · (intro w' hSw; go_simp; (try with_reducible rfl))
                      simp only [Act.put, List.setIfInBounds_toArray, List.set_cons_zero, List.set_cons_succ]
                      refine wpAnyH_ready (rs := [4]) (by kernel_rfl) (by simp) ?_
                      refine readyS rfl (fun K hK => ?_)
                      go_simp
                      refine hK.out _ _ ?_ (fun hHeld => ?_)
                      · exact hSA
                      clear hK K
                      refine wpAnyH_ready (rs := [8]) (by kernel_rfl) (by simp) ?_
                      refine readyS rfl (fun K hK => ?_)
                      rw [if_pos (by rfl)]
                      refine wp_append_own _ (.tmp 125) (.tmp 128) 61 rfl W.heap.size 58 i0 (.agg #[.bool false, .int .i64 0, .int .i64 0, .bool false, .int .i64 0, .int .i64 0, .int .i64 0, .int .i64 0, .int .i64 0, .int .i64 0]) 10 80 Try.underlying61 hif hz0 hz1 hz2 rfl (by decide) _ 1 [.bool fo, .int .i64 fn, .int .i64 fd, .bool tt, .int .i64 tn, .int .i64 td, .int .i64 bn, .int .i64 bd, .int .i64 sn, .int .i64 sd] rfl HM1.out ⟨gO, j * 10, none⟩ (on - j) (cO - j) ((O.drop j).flatMap pcL) ?a1z (by rw [flat_len, List.length_drop, HON.out]) (fun t u h => HoldsPc.flatDrop HOA.out j t u h) (flat_one _) (by unfold maxLen; omega) (by omega) (by simp) ?_
                      case a1z => first | rfl | (go_simp; done) | (go_simp; intro h9; omega) | (go_simp; split <;> rfl) | (go_simp; trace_state; sorry)
                      intro v1 W1 ho1 hg1 _
                      skip
                      have hb1' : Below W.heap.size W W1 := hSA.grown hg1 hSA.size (fun q hq => own_base HM1.out hq)
                      obtain ⟨g1, c1, rfl, hgb, hgl⟩ := World.ownsRow.form ho1 (by omega)
                      have e9 : (⟨⟨fo, fn, fd⟩, ⟨tt, tn, td⟩, bn, bd, sn, sd⟩ :: O.drop j).length = 1 + (on - j) := by rw [List.length_cons, List.length_drop, HON.out]; omega
                      have HR1 : Hid (HoldsPc W1 g1 (⟨⟨fo, fn, fd⟩, ⟨tt, tn, td⟩, bn, bd, sn, sd⟩ :: O.drop j)) := holds_of_owns (by rw [e9]; exact ho1)
                      have HOW1 : Hid (HoldsPc W1 gO O) := HoldsPc.below HOW.out hb1' hgOW
                      have hgO1 : gO < W1.heap.size := Nat.lt_of_lt_of_le hgOW hb1'.size
                      clear ho1 hg1
                      have hBW1 : Below w2.heap.size w2 W1 := bstep hBW hb1'
                      refine hK.out _ _ hb1' (fun hHeld => ?_)
                      clear hK K
                      simp only [Act.put, List.setIfInBounds_toArray, List.set_cons_zero, List.set_cons_succ]
                      refine takeS (i := 9) (v := ?_) rfl (by kernel_rfl) (by kernel_rfl) (by kernel_rfl) (fun _ _ _ h => h) (Or.inl ⟨by rfl, ?_⟩) (by assumption) ?_
                      rotate_left
                      · (intro w' hSw; go_simp; (try with_reducible rfl))
                      simp only [Act.put, List.setIfInBounds_toArray, List.set_cons_zero, List.set_cons_succ]
                      refine wpAnyH_done (by kernel_rfl) ?_ _
                      clear p0 p1 p2 p3 p4 p5 p6 p7 p8 p9 hHeld
                      have hSB : Below W1.heap.size W1 (W1.alloc (.cells #[] 58)) := balloc _ _
                      have HM2 : Hid ((W1.alloc (.cells #[] 58)).ownsRow W1.heap.size 58 10 (.slice (some ⟨W1.heap.size, 0, none⟩) 0 0) 0 []) := World.ownsRow_made (size := 10) (base := W1.heap.size) (e := 58) W1 #[] 0 (Nat.le_refl _) (Nat.zero_le _) rfl
                      have HOB : Hid (HoldsPc (W1.alloc (.cells #[] 58)) gO (O.take j)) := (HoldsPc.below HOW1.out hSB hgO1).take j
                      go_wp2_with (at_builtin; refine wpList_append_own _ rfl (.tmp 130) (.tmp 133) 61 rfl W1.heap.size 58 i0 (.agg #[.bool false, .int .i64 0, .int .i64 0, .bool false, .int .i64 0, .int .i64 0, .int .i64 0, .int .i64 0, .int .i64 0, .int .i64 0]) 10 80 Try.underlying61 hif hz0 hz1 hz2 rfl (by decide) _ 0 [] rfl HM2.out ⟨gO, 0, none⟩ j cO ((O.take j).flatMap pcL) rfl (by rw [flat_len, List.length_take, HON.out, Nat.min_eq_left (by omega)]) (fun t u h => HoldsPc.flat HOB.out t u h) (flat_one _) (by unfold maxLen; omega) (by omega) (by simp) ?_)
                      intro v2 W2 ho2 hg2 _
                      have hb2' : Below W1.heap.size W1 W2 := hSB.grown hg2 hSB.size (fun q hq => own_base HM2.out hq)
                      have HO2 : Hid (W2.ownsRow W1.heap.size 58 10 v2 j ((O.take j).flatMap pcL)) := by first | exact ho2 | (show World.ownsRow _ _ _ _ _ _ _; rw [Nat.zero_add, List.nil_append] at ho2; exact ho2)
                      have HR2 : Hid (HoldsPc W2 g1 (⟨⟨fo, fn, fd⟩, ⟨tt, tn, td⟩, bn, bd, sn, sd⟩ :: O.drop j)) := HoldsPc.below HR1.out hb2' hgl
                      clear ho2 hg2
                      go_wp2_with (at_builtin; refine wpList_append_own _ rfl (.tmp 134) (.tmp 135) 61 rfl W1.heap.size 58 i0 (.agg #[.bool false, .int .i64 0, .int .i64 0, .bool false, .int .i64 0, .int .i64 0, .int .i64 0, .int .i64 0, .int .i64 0, .int .i64 0]) 10 80 Try.underlying61 hif hz0 hz1 hz2 rfl (by decide) _ j _ rfl HO2.out ⟨g1, 0, none⟩ (1 + (on - j)) c1 ((⟨⟨fo, fn, fd⟩, ⟨tt, tn, td⟩, bn, bd, sn, sd⟩ :: O.drop j).flatMap pcL) rfl (by rw [flat_len, e9]) (fun t u h => HoldsPc.flat HR2.out t u h) (flat_one _) (by unfold maxLen; omega) (by omega) hb2'.size ?_)
                      intro v3 W3 ho3 hg3 _
                      have hb3' : Below W1.heap.size W1 W3 := hb2'.grown hg3 hb2'.size (fun q hq => own_base HO2.out hq)
                      have HP3 : Hid (PcsV W3 v3 (Num.outP (L.take (k + 1)))) := by
                        show PcsV _ _ _
                        rw [HIN.out, HINS.out]
                        refine own_pcsV (base := W1.heap.size) ?_ (by simp)
                        rw [List.length_append, e9, List.length_take, HON.out, Nat.min_eq_left (by omega : j ≤ on), List.flatMap_append]
                        exact ho3
                      clear ho3 hg3
                      have HBE : Hid (Below w2.heap.size w2 W3) := bstep hBW1 hb3'
                      go_wp2_with fail
                      go_roundw
                      case rel => first | exact ⟨k + 1, hlt, by go_num, HP3.out, HBE.out⟩ | ((repeat apply Exists.intro); exact ⟨⟨k + 1, hlt, by go_num, HP3.out, HBE.out⟩, rfl⟩)
                      case measure => simp [intOf]; omega
                    · have HBF4 : Hid (∀ t z, t < j + 1 → O[t]? = some z → Num.beforeB z ⟨⟨fo, fn, fd⟩, ⟨tt, tn, td⟩, bn, bd, sn, sd⟩ = true) := fun t z ht hz => by
                        by_cases h : t < j
                        · exact HBF.out t z h hz
                        · have : t = j := by omega
                          subst this
                          rw [HXE.out] at hz; cases hz; exact HBV2.out
                      go_wp2_with fail
                      go_roundw
                      case rel => first | exact ⟨j + 1, hjl, by go_num, HBF4.out, HBF3.out⟩ | ((repeat apply Exists.intro); exact ⟨⟨j + 1, hjl, by go_num, HBF4.out, HBF3.out⟩, rfl⟩)
                      case measure => simp [intOf]; omega
                  · have hje : j = on := by omega
                    subst hje
                    have hdec : decide ((j : Int) < (j : Int)) = false := by simp
                    have HINS : Hid (Num.insN ⟨⟨fo, fn, fd⟩, ⟨tt, tn, td⟩, bn, bd, sn, sd⟩ O = O.take j ++ ⟨⟨fo, fn, fd⟩, ⟨tt, tn, td⟩, bn, bd, sn, sd⟩ :: O.drop j) := Num.ins_at _ O j (by have := HON.out; omega) HBF.out (fun z hz => by rw [List.getElem?_eq_none (by have := HON.out; omega)] at hz; cases hz)
                    go_wp2_with fail
                    go_region
                    go_wp2_with fail
                    have HHW : Hid (HoldsPc wr.drew g L) := HoldsPc.below HH4.out hbl3.drew hg4
                    have HOW : Hid (HoldsPc wr.drew gO O) := HoldsPc.below HHO.out hbl3.drew hgO
                    have hgOW : gO < wr.drew.heap.size := Nat.lt_of_lt_of_le hgO hbl3.drew.size
                    have hBW : Below w2.heap.size w2 wr.drew := bstep hb4' hbl3.drew
                    generalize wr.drew = W at *
                    rcases Nat.lt_or_ge j cO with hcj | hcj
                    · have hne9 : ¬ cO = j := by omega
                      have hten := HHW.out.ten HYE.out
                      obtain ⟨c0, c1, c2, c3, c4, c5, c6, c7, c8, c9⟩ := hten
                      have HM1 : Hid ((W.drew.alloc (.cells #[.bool fo, .int .i64 fn, .int .i64 fd, .bool tt, .int .i64 tn, .int .i64 td, .int .i64 bn, .int .i64 bd, .int .i64 sn, .int .i64 sd] 58)).ownsRow W.heap.size 58 10 (.slice (some ⟨W.heap.size, 0, none⟩) 1 1) 1 [.bool fo, .int .i64 fn, .int .i64 fd, .bool tt, .int .i64 tn, .int .i64 td, .int .i64 bn, .int .i64 bd, .int .i64 sn, .int .i64 sd]) := own_made1 W.drew #[.bool fo, .int .i64 fn, .int .i64 fd, .bool tt, .int .i64 tn, .int .i64 td, .int .i64 bn, .int .i64 bd, .int .i64 sn, .int .i64 sd] rfl W.heap.size 58 (Nat.le_refl _)
                      have hS0 : Below W.heap.size W W.drew := (Below.refl _ _).drew
                      have hSA : Below W.heap.size W (W.drew.alloc (.cells #[.bool fo, .int .i64 fn, .int .i64 fd, .bool tt, .int .i64 tn, .int .i64 td, .int .i64 bn, .int .i64 bd, .int .i64 sn, .int .i64 sd] 58)) := bstep hS0 (balloc _ _)
                      have i0' : (0 : Int) ≤ (k : Int) := by omega
                      have i1' : (k : Int) < (n : Int) := by omega
                      have p0 : ∀ w', Below W.heap.size W w' → w'.cell? ⟨g, k * 10, none⟩ = some (.bool fo) := fun w' h => carry h c0
                      have p1 : ∀ w', Below W.heap.size W w' → w'.cell? ⟨g, k * 10 + 1, none⟩ = some (.int .i64 fn) := fun w' h => carry h c1
                      have p2 : ∀ w', Below W.heap.size W w' → w'.cell? ⟨g, k * 10 + 2, none⟩ = some (.int .i64 fd) := fun w' h => carry h c2
                      have p3 : ∀ w', Below W.heap.size W w' → w'.cell? ⟨g, k * 10 + 3, none⟩ = some (.bool tt) := fun w' h => carry h c3
                      have p4 : ∀ w', Below W.heap.size W w' → w'.cell? ⟨g, k * 10 + 4, none⟩ = some (.int .i64 tn) := fun w' h => carry h c4
                      have p5 : ∀ w', Below W.heap.size W w' → w'.cell? ⟨g, k * 10 + 5, none⟩ = some (.int .i64 td) := fun w' h => carry h c5
                      have p6 : ∀ w', Below W.heap.size W w' → w'.cell? ⟨g, k * 10 + 6, none⟩ = some (.int .i64 bn) := fun w' h => carry h c6
                      have p7 : ∀ w', Below W.heap.size W w' → w'.cell? ⟨g, k * 10 + 7, none⟩ = some (.int .i64 bd) := fun w' h => carry h c7
                      have p8 : ∀ w', Below W.heap.size W w' → w'.cell? ⟨g, k * 10 + 8, none⟩ = some (.int .i64 sn) := fun w' h => carry h c8
                      have p9 : ∀ w', Below W.heap.size W w' → w'.cell? ⟨g, k * 10 + 9, none⟩ = some (.int .i64 sd) := fun w' h => carry h c9
                      clear c0 c1 c2 c3 c4 c5 c6 c7 c8 c9
                      have HOA : Hid (HoldsPc (W.drew.alloc (.cells #[.bool fo, .int .i64 fn, .int .i64 fd, .bool tt, .int .i64 tn, .int .i64 td, .int .i64 bn, .int .i64 bd, .int .i64 sn, .int .i64 sd] 58)) gO O) := HoldsPc.below HOW.out hSA hgOW
                      have j0' : (0 : Int) ≤ (j : Int) := by omega
                      have j1' : (j : Int) ≤ (j : Int) := by omega
                      have j2' : (j : Int) ≤ (cO : Int) := by omega
                      refine wp_region_held_drew (S := fun v => Below W.heap.size W v) (by kernel_rfl) ?_ (fun hHeld => ?_)
                      · assumption
                      refine takeS (i := 0) (v := ?_) rfl (by kernel_rfl) (by kernel_rfl) (by kernel_rfl) (fun _ _ _ h => h) (Or.inl ⟨by rfl, ?_⟩) (by assumption) ?_
                      rotate_left
                      · (intro w' hSw; go_simp; (try with_reducible rfl))
                      simp only [Act.put, List.setIfInBounds_toArray, List.set_cons_zero, List.set_cons_succ]
                      refine takeS (i := 1) (v := ?_) rfl (by kernel_rfl) (by kernel_rfl) (by kernel_rfl) (fun _ _ _ h => h) (Or.inl ⟨by rfl, ?_⟩) (by assumption) ?_
                      rotate_left
                      · (intro w' hSw; go_simp; (try with_reducible rfl))
                      simp only [Act.put, List.setIfInBounds_toArray, List.set_cons_zero, List.set_cons_succ]
                      refine takeS (i := 2) (v := ?_) rfl (by kernel_rfl) (by kernel_rfl) (by kernel_rfl) (fun _ _ _ h => h) (Or.inl ⟨by rfl, ?_⟩) (by assumption) ?_
                      rotate_left
                      · (intro w' hSw; go_simp; (try with_reducible rfl))
                      simp only [Act.put, List.setIfInBounds_toArray, List.set_cons_zero, List.set_cons_succ]
                      refine takeS (i := 3) (v := ?_) rfl (by kernel_rfl) (by kernel_rfl) (by kernel_rfl) (fun _ _ _ h => h) (Or.inl ⟨by rfl, ?_⟩) (by assumption) ?_
                      rotate_left
                      · (intro w' hSw; go_simp; (try with_reducible rfl))
                      simp only [Act.put, List.setIfInBounds_toArray, List.set_cons_zero, List.set_cons_succ]
                      refine takeS (i := 5) (v := ?_) rfl (by kernel_rfl) (by kernel_rfl) (by kernel_rfl) (fun _ _ _ h => h) (Or.inl ⟨by rfl, ?_⟩) (by assumption) ?_
                      rotate_left
                      · (intro w' hSw; go_simp; (try with_reducible rfl))
                      simp only [Act.put, List.setIfInBounds_toArray, List.set_cons_zero, List.set_cons_succ]
                      refine takeS (i := 6) (v := ?_) rfl (by kernel_rfl) (by kernel_rfl) (by kernel_rfl) (fun _ _ _ h => h) (Or.inl ⟨by rfl, ?_⟩) (by assumption) ?_
                      rotate_left
                      · (intro w' hSw; go_simp; (try with_reducible rfl))
                      simp only [Act.put, List.setIfInBounds_toArray, List.set_cons_zero, List.set_cons_succ]
                      refine takeS (i := 7) (v := ?_) rfl (by kernel_rfl) (by kernel_rfl) (by kernel_rfl) (fun _ _ _ h => h) (Or.inl ⟨by rfl, ?_⟩) (by assumption) ?_
                      rotate_left
                      · (intro w' hSw; go_simp; (try with_reducible rfl))
                      simp only [Act.put, List.setIfInBounds_toArray, List.set_cons_zero, List.set_cons_succ]
                      refine wpAnyH_ready (rs := [4]) (by kernel_rfl) (by simp) ?_
                      refine readyS rfl (fun K hK => ?_)
                      go_simp
                      refine hK.out _ _ ?_ (fun hHeld => ?_)
                      · exact hSA
                      clear hK K
                      refine wpAnyH_ready (rs := [8]) (by kernel_rfl) (by simp) ?_
                      refine readyS rfl (fun K hK => ?_)
                      rw [if_pos (by rfl)]
                      refine wp_append_own _ (.tmp 125) (.tmp 128) 61 rfl W.heap.size 58 i0 (.agg #[.bool false, .int .i64 0, .int .i64 0, .bool false, .int .i64 0, .int .i64 0, .int .i64 0, .int .i64 0, .int .i64 0, .int .i64 0]) 10 80 Try.underlying61 hif hz0 hz1 hz2 rfl (by decide) _ 1 [.bool fo, .int .i64 fn, .int .i64 fd, .bool tt, .int .i64 tn, .int .i64 td, .int .i64 bn, .int .i64 bd, .int .i64 sn, .int .i64 sd] rfl HM1.out ⟨gO, j * 10, none⟩ (j - j) (cO - j) ((O.drop j).flatMap pcL) ?a1yb (by rw [flat_len, List.length_drop, HON.out]) (fun t u h => by rw [List.drop_eq_nil_of_le (by have := HON.out; omega)] at h; simp at h) (flat_one _) (by unfold maxLen; omega) (by omega) (by simp) ?_
                      case a1yb => first | rfl | (go_simp; done) | (go_simp; intro h9; omega) | (go_simp; split <;> rfl) | (go_simp; trace_state; sorry)
                      intro v1 W1 ho1 hg1 _
                      rw [show 1 + (j - j) = 1 by omega] at ho1
                      have hb1' : Below W.heap.size W W1 := hSA.grown hg1 hSA.size (fun q hq => own_base HM1.out hq)
                      obtain ⟨g1, c1, rfl, hgb, hgl⟩ := World.ownsRow.form ho1 (by omega)
                      have e9 : (⟨⟨fo, fn, fd⟩, ⟨tt, tn, td⟩, bn, bd, sn, sd⟩ :: O.drop j).length = 1 := by rw [List.length_cons, List.length_drop, HON.out]; omega
                      have HR1 : Hid (HoldsPc W1 g1 (⟨⟨fo, fn, fd⟩, ⟨tt, tn, td⟩, bn, bd, sn, sd⟩ :: O.drop j)) := holds_of_owns (by rw [e9]; exact ho1)
                      have HOW1 : Hid (HoldsPc W1 gO O) := HoldsPc.below HOW.out hb1' hgOW
                      have hgO1 : gO < W1.heap.size := Nat.lt_of_lt_of_le hgOW hb1'.size
                      clear ho1 hg1
                      have hBW1 : Below w2.heap.size w2 W1 := bstep hBW hb1'
                      refine hK.out _ _ hb1' (fun hHeld => ?_)
                      clear hK K
                      simp only [Act.put, List.setIfInBounds_toArray, List.set_cons_zero, List.set_cons_succ]
                      refine takeS (i := 9) (v := ?_) rfl (by kernel_rfl) (by kernel_rfl) (by kernel_rfl) (fun _ _ _ h => h) (Or.inl ⟨by rfl, ?_⟩) (by assumption) ?_
                      rotate_left
                      · (intro w' hSw; go_simp; (try with_reducible rfl))
                      simp only [Act.put, List.setIfInBounds_toArray, List.set_cons_zero, List.set_cons_succ]
                      refine wpAnyH_done (by kernel_rfl) ?_ _
                      clear p0 p1 p2 p3 p4 p5 p6 p7 p8 p9 hHeld
                      have hSB : Below W1.heap.size W1 (W1.alloc (.cells #[] 58)) := balloc _ _
                      have HM2 : Hid ((W1.alloc (.cells #[] 58)).ownsRow W1.heap.size 58 10 (.slice (some ⟨W1.heap.size, 0, none⟩) 0 0) 0 []) := World.ownsRow_made (size := 10) (base := W1.heap.size) (e := 58) W1 #[] 0 (Nat.le_refl _) (Nat.zero_le _) rfl
                      have HOB : Hid (HoldsPc (W1.alloc (.cells #[] 58)) gO (O.take j)) := (HoldsPc.below HOW1.out hSB hgO1).take j
                      go_wp2_with (at_builtin; refine wpList_append_own _ rfl (.tmp 130) (.tmp 133) 61 rfl W1.heap.size 58 i0 (.agg #[.bool false, .int .i64 0, .int .i64 0, .bool false, .int .i64 0, .int .i64 0, .int .i64 0, .int .i64 0, .int .i64 0, .int .i64 0]) 10 80 Try.underlying61 hif hz0 hz1 hz2 rfl (by decide) _ 0 [] rfl HM2.out ⟨gO, 0, none⟩ j cO ((O.take j).flatMap pcL) rfl (by rw [flat_len, List.length_take, HON.out, Nat.min_eq_left (by omega)]) (fun t u h => HoldsPc.flat HOB.out t u h) (flat_one _) (by unfold maxLen; omega) (by omega) (by simp) ?_)
                      intro v2 W2 ho2 hg2 _
                      have hb2' : Below W1.heap.size W1 W2 := hSB.grown hg2 hSB.size (fun q hq => own_base HM2.out hq)
                      have HO2 : Hid (W2.ownsRow W1.heap.size 58 10 v2 j ((O.take j).flatMap pcL)) := by first | exact ho2 | (show World.ownsRow _ _ _ _ _ _ _; rw [Nat.zero_add, List.nil_append] at ho2; exact ho2)
                      have HR2 : Hid (HoldsPc W2 g1 (⟨⟨fo, fn, fd⟩, ⟨tt, tn, td⟩, bn, bd, sn, sd⟩ :: O.drop j)) := HoldsPc.below HR1.out hb2' hgl
                      clear ho2 hg2
                      go_wp2_with (at_builtin; refine wpList_append_own _ rfl (.tmp 134) (.tmp 135) 61 rfl W1.heap.size 58 i0 (.agg #[.bool false, .int .i64 0, .int .i64 0, .bool false, .int .i64 0, .int .i64 0, .int .i64 0, .int .i64 0, .int .i64 0, .int .i64 0]) 10 80 Try.underlying61 hif hz0 hz1 hz2 rfl (by decide) _ j _ rfl HO2.out ⟨g1, 0, none⟩ (1) c1 ((⟨⟨fo, fn, fd⟩, ⟨tt, tn, td⟩, bn, bd, sn, sd⟩ :: O.drop j).flatMap pcL) rfl (by rw [flat_len, e9]) (fun t u h => HoldsPc.flat HR2.out t u h) (flat_one _) (by unfold maxLen; omega) (by omega) hb2'.size ?_)
                      intro v3 W3 ho3 hg3 _
                      have hb3' : Below W1.heap.size W1 W3 := hb2'.grown hg3 hb2'.size (fun q hq => own_base HO2.out hq)
                      have HP3 : Hid (PcsV W3 v3 (Num.outP (L.take (k + 1)))) := by
                        show PcsV _ _ _
                        rw [HIN.out, HINS.out]
                        refine own_pcsV (base := W1.heap.size) ?_ (by simp)
                        rw [List.length_append, e9, List.length_take, HON.out, Nat.min_eq_left (by omega : j ≤ j), List.flatMap_append]
                        exact ho3
                      clear ho3 hg3
                      have HBE : Hid (Below w2.heap.size w2 W3) := bstep hBW1 hb3'
                      go_wp2_with fail
                      go_roundw
                      case rel => first | exact ⟨k + 1, hlt, by go_num, HP3.out, HBE.out⟩ | ((repeat apply Exists.intro); exact ⟨⟨k + 1, hlt, by go_num, HP3.out, HBE.out⟩, rfl⟩)
                      case measure => simp [intOf]; omega
                    · have hcj2 : j = cO := by omega
                      subst hcj2
                      have hten := HHW.out.ten HYE.out
                      obtain ⟨c0, c1, c2, c3, c4, c5, c6, c7, c8, c9⟩ := hten
                      have HM1 : Hid ((W.drew.alloc (.cells #[.bool fo, .int .i64 fn, .int .i64 fd, .bool tt, .int .i64 tn, .int .i64 td, .int .i64 bn, .int .i64 bd, .int .i64 sn, .int .i64 sd] 58)).ownsRow W.heap.size 58 10 (.slice (some ⟨W.heap.size, 0, none⟩) 1 1) 1 [.bool fo, .int .i64 fn, .int .i64 fd, .bool tt, .int .i64 tn, .int .i64 td, .int .i64 bn, .int .i64 bd, .int .i64 sn, .int .i64 sd]) := own_made1 W.drew #[.bool fo, .int .i64 fn, .int .i64 fd, .bool tt, .int .i64 tn, .int .i64 td, .int .i64 bn, .int .i64 bd, .int .i64 sn, .int .i64 sd] rfl W.heap.size 58 (Nat.le_refl _)
                      have hS0 : Below W.heap.size W W.drew := (Below.refl _ _).drew
                      have hSA : Below W.heap.size W (W.drew.alloc (.cells #[.bool fo, .int .i64 fn, .int .i64 fd, .bool tt, .int .i64 tn, .int .i64 td, .int .i64 bn, .int .i64 bd, .int .i64 sn, .int .i64 sd] 58)) := bstep hS0 (balloc _ _)
                      have i0' : (0 : Int) ≤ (k : Int) := by omega
                      have i1' : (k : Int) < (n : Int) := by omega
                      have p0 : ∀ w', Below W.heap.size W w' → w'.cell? ⟨g, k * 10, none⟩ = some (.bool fo) := fun w' h => carry h c0
                      have p1 : ∀ w', Below W.heap.size W w' → w'.cell? ⟨g, k * 10 + 1, none⟩ = some (.int .i64 fn) := fun w' h => carry h c1
                      have p2 : ∀ w', Below W.heap.size W w' → w'.cell? ⟨g, k * 10 + 2, none⟩ = some (.int .i64 fd) := fun w' h => carry h c2
                      have p3 : ∀ w', Below W.heap.size W w' → w'.cell? ⟨g, k * 10 + 3, none⟩ = some (.bool tt) := fun w' h => carry h c3
                      have p4 : ∀ w', Below W.heap.size W w' → w'.cell? ⟨g, k * 10 + 4, none⟩ = some (.int .i64 tn) := fun w' h => carry h c4
                      have p5 : ∀ w', Below W.heap.size W w' → w'.cell? ⟨g, k * 10 + 5, none⟩ = some (.int .i64 td) := fun w' h => carry h c5
                      have p6 : ∀ w', Below W.heap.size W w' → w'.cell? ⟨g, k * 10 + 6, none⟩ = some (.int .i64 bn) := fun w' h => carry h c6
                      have p7 : ∀ w', Below W.heap.size W w' → w'.cell? ⟨g, k * 10 + 7, none⟩ = some (.int .i64 bd) := fun w' h => carry h c7
                      have p8 : ∀ w', Below W.heap.size W w' → w'.cell? ⟨g, k * 10 + 8, none⟩ = some (.int .i64 sn) := fun w' h => carry h c8
                      have p9 : ∀ w', Below W.heap.size W w' → w'.cell? ⟨g, k * 10 + 9, none⟩ = some (.int .i64 sd) := fun w' h => carry h c9
                      clear c0 c1 c2 c3 c4 c5 c6 c7 c8 c9
                      have HOA : Hid (HoldsPc (W.drew.alloc (.cells #[.bool fo, .int .i64 fn, .int .i64 fd, .bool tt, .int .i64 tn, .int .i64 td, .int .i64 bn, .int .i64 bd, .int .i64 sn, .int .i64 sd] 58)) gO O) := HoldsPc.below HOW.out hSA hgOW
                      have j0' : (0 : Int) ≤ (j : Int) := by omega
                      have j1' : (j : Int) ≤ (j : Int) := by omega
                      have j2' : (j : Int) ≤ (j : Int) := by omega
                      refine wp_region_held_drew (S := fun v => Below W.heap.size W v) (by kernel_rfl) ?_ (fun hHeld => ?_)
                      · assumption
                      refine takeS (i := 0) (v := ?_) rfl (by kernel_rfl) (by kernel_rfl) (by kernel_rfl) (fun _ _ _ h => h) (Or.inl ⟨by rfl, ?_⟩) (by assumption) ?_
                      rotate_left
                      · (intro w' hSw; go_simp; (try with_reducible rfl))
                      simp only [Act.put, List.setIfInBounds_toArray, List.set_cons_zero, List.set_cons_succ]
                      refine takeS (i := 1) (v := ?_) rfl (by kernel_rfl) (by kernel_rfl) (by kernel_rfl) (fun _ _ _ h => h) (Or.inl ⟨by rfl, ?_⟩) (by assumption) ?_
                      rotate_left
                      · (intro w' hSw; go_simp; (try with_reducible rfl))
                      simp only [Act.put, List.setIfInBounds_toArray, List.set_cons_zero, List.set_cons_succ]
                      refine takeS (i := 2) (v := ?_) rfl (by kernel_rfl) (by kernel_rfl) (by kernel_rfl) (fun _ _ _ h => h) (Or.inl ⟨by rfl, ?_⟩) (by assumption) ?_
                      rotate_left
                      · (intro w' hSw; go_simp; (try with_reducible rfl))
                      simp only [Act.put, List.setIfInBounds_toArray, List.set_cons_zero, List.set_cons_succ]
                      refine takeS (i := 3) (v := ?_) rfl (by kernel_rfl) (by kernel_rfl) (by kernel_rfl) (fun _ _ _ h => h) (Or.inl ⟨by rfl, ?_⟩) (by assumption) ?_
                      rotate_left
                      · (intro w' hSw; go_simp; (try with_reducible rfl))
                      simp only [Act.put, List.setIfInBounds_toArray, List.set_cons_zero, List.set_cons_succ]
                      refine takeS (i := 5) (v := ?_) rfl (by kernel_rfl) (by kernel_rfl) (by kernel_rfl) (fun _ _ _ h => h) (Or.inl ⟨by rfl, ?_⟩) (by assumption) ?_
                      rotate_left
                      · (intro w' hSw; go_simp; (try with_reducible rfl))
                      simp only [Act.put, List.setIfInBounds_toArray, List.set_cons_zero, List.set_cons_succ]
                      refine takeS (i := 6) (v := ?_) rfl (by kernel_rfl) (by kernel_rfl) (by kernel_rfl) (fun _ _ _ h => h) (Or.inl ⟨by rfl, ?_⟩) (by assumption) ?_
                      rotate_left
                      · (intro w' hSw; go_simp; (try with_reducible rfl))
                      simp only [Act.put, List.setIfInBounds_toArray, List.set_cons_zero, List.set_cons_succ]
                      refine takeS (i := 7) (v := ?_) rfl (by kernel_rfl) (by kernel_rfl) (by kernel_rfl) (fun _ _ _ h => h) (Or.inl ⟨by rfl, ?_⟩) (by assumption) ?_
                      rotate_left
                      · (intro w' hSw; go_simp; (try with_reducible rfl))
                      simp only [Act.put, List.setIfInBounds_toArray, List.set_cons_zero, List.set_cons_succ]
                      refine wpAnyH_ready (rs := [4]) (by kernel_rfl) (by simp) ?_
                      refine readyS rfl (fun K hK => ?_)
                      go_simp
                      refine hK.out _ _ ?_ (fun hHeld => ?_)
                      · exact hSA
                      clear hK K
                      refine wpAnyH_ready (rs := [8]) (by kernel_rfl) (by simp) ?_
                      refine readyS rfl (fun K hK => ?_)
                      rw [if_pos (by rfl)]
                      refine wp_append_own _ (.tmp 125) (.tmp 128) 61 rfl W.heap.size 58 i0 (.agg #[.bool false, .int .i64 0, .int .i64 0, .bool false, .int .i64 0, .int .i64 0, .int .i64 0, .int .i64 0, .int .i64 0, .int .i64 0]) 10 80 Try.underlying61 hif hz0 hz1 hz2 rfl (by decide) _ 1 [.bool fo, .int .i64 fn, .int .i64 fd, .bool tt, .int .i64 tn, .int .i64 td, .int .i64 bn, .int .i64 bd, .int .i64 sn, .int .i64 sd] rfl HM1.out ⟨gO, 0, none⟩ (j - j) (j - j) ((O.drop j).flatMap pcL) ?a1ya (by rw [flat_len, List.length_drop, HON.out]) (fun t u h => by rw [List.drop_eq_nil_of_le (by have := HON.out; omega)] at h; simp at h) (flat_one _) (by unfold maxLen; omega) (by omega) (by simp) ?_
                      case a1ya => first | rfl | (go_simp; done) | (go_simp; intro h9; omega) | (go_simp; split <;> rfl) | (go_simp; trace_state; sorry)
                      intro v1 W1 ho1 hg1 _
                      rw [show 1 + (j - j) = 1 by omega] at ho1
                      have hb1' : Below W.heap.size W W1 := hSA.grown hg1 hSA.size (fun q hq => own_base HM1.out hq)
                      obtain ⟨g1, c1, rfl, hgb, hgl⟩ := World.ownsRow.form ho1 (by omega)
                      have e9 : (⟨⟨fo, fn, fd⟩, ⟨tt, tn, td⟩, bn, bd, sn, sd⟩ :: O.drop j).length = 1 := by rw [List.length_cons, List.length_drop, HON.out]; omega
                      have HR1 : Hid (HoldsPc W1 g1 (⟨⟨fo, fn, fd⟩, ⟨tt, tn, td⟩, bn, bd, sn, sd⟩ :: O.drop j)) := holds_of_owns (by rw [e9]; exact ho1)
                      have HOW1 : Hid (HoldsPc W1 gO O) := HoldsPc.below HOW.out hb1' hgOW
                      have hgO1 : gO < W1.heap.size := Nat.lt_of_lt_of_le hgOW hb1'.size
                      clear ho1 hg1
                      have hBW1 : Below w2.heap.size w2 W1 := bstep hBW hb1'
                      refine hK.out _ _ hb1' (fun hHeld => ?_)
                      clear hK K
                      simp only [Act.put, List.setIfInBounds_toArray, List.set_cons_zero, List.set_cons_succ]
                      refine takeS (i := 9) (v := ?_) rfl (by kernel_rfl) (by kernel_rfl) (by kernel_rfl) (fun _ _ _ h => h) (Or.inl ⟨by rfl, ?_⟩) (by assumption) ?_
                      rotate_left
                      · (intro w' hSw; go_simp; (try with_reducible rfl))
                      simp only [Act.put, List.setIfInBounds_toArray, List.set_cons_zero, List.set_cons_succ]
                      refine wpAnyH_done (by kernel_rfl) ?_ _
                      clear p0 p1 p2 p3 p4 p5 p6 p7 p8 p9 hHeld
                      have hSB : Below W1.heap.size W1 (W1.alloc (.cells #[] 58)) := balloc _ _
                      have HM2 : Hid ((W1.alloc (.cells #[] 58)).ownsRow W1.heap.size 58 10 (.slice (some ⟨W1.heap.size, 0, none⟩) 0 0) 0 []) := World.ownsRow_made (size := 10) (base := W1.heap.size) (e := 58) W1 #[] 0 (Nat.le_refl _) (Nat.zero_le _) rfl
                      have HOB : Hid (HoldsPc (W1.alloc (.cells #[] 58)) gO (O.take j)) := (HoldsPc.below HOW1.out hSB hgO1).take j
                      go_wp2_with (at_builtin; refine wpList_append_own _ rfl (.tmp 130) (.tmp 133) 61 rfl W1.heap.size 58 i0 (.agg #[.bool false, .int .i64 0, .int .i64 0, .bool false, .int .i64 0, .int .i64 0, .int .i64 0, .int .i64 0, .int .i64 0, .int .i64 0]) 10 80 Try.underlying61 hif hz0 hz1 hz2 rfl (by decide) _ 0 [] rfl HM2.out ⟨gO, 0, none⟩ j j ((O.take j).flatMap pcL) rfl (by rw [flat_len, List.length_take, HON.out, Nat.min_eq_left (by omega)]) (fun t u h => HoldsPc.flat HOB.out t u h) (flat_one _) (by unfold maxLen; omega) (by omega) (by simp) ?_)
                      intro v2 W2 ho2 hg2 _
                      have hb2' : Below W1.heap.size W1 W2 := hSB.grown hg2 hSB.size (fun q hq => own_base HM2.out hq)
                      have HO2 : Hid (W2.ownsRow W1.heap.size 58 10 v2 j ((O.take j).flatMap pcL)) := by first | exact ho2 | (show World.ownsRow _ _ _ _ _ _ _; rw [Nat.zero_add, List.nil_append] at ho2; exact ho2)
                      have HR2 : Hid (HoldsPc W2 g1 (⟨⟨fo, fn, fd⟩, ⟨tt, tn, td⟩, bn, bd, sn, sd⟩ :: O.drop j)) := HoldsPc.below HR1.out hb2' hgl
                      clear ho2 hg2
                      go_wp2_with (at_builtin; refine wpList_append_own _ rfl (.tmp 134) (.tmp 135) 61 rfl W1.heap.size 58 i0 (.agg #[.bool false, .int .i64 0, .int .i64 0, .bool false, .int .i64 0, .int .i64 0, .int .i64 0, .int .i64 0, .int .i64 0, .int .i64 0]) 10 80 Try.underlying61 hif hz0 hz1 hz2 rfl (by decide) _ j _ rfl HO2.out ⟨g1, 0, none⟩ (1) c1 ((⟨⟨fo, fn, fd⟩, ⟨tt, tn, td⟩, bn, bd, sn, sd⟩ :: O.drop j).flatMap pcL) rfl (by rw [flat_len, e9]) (fun t u h => HoldsPc.flat HR2.out t u h) (flat_one _) (by unfold maxLen; omega) (by omega) hb2'.size ?_)
                      intro v3 W3 ho3 hg3 _
                      have hb3' : Below W1.heap.size W1 W3 := hb2'.grown hg3 hb2'.size (fun q hq => own_base HO2.out hq)
                      have HP3 : Hid (PcsV W3 v3 (Num.outP (L.take (k + 1)))) := by
                        show PcsV _ _ _
                        rw [HIN.out, HINS.out]
                        refine own_pcsV (base := W1.heap.size) ?_ (by simp)
                        rw [List.length_append, e9, List.length_take, HON.out, Nat.min_eq_left (by omega : j ≤ j), List.flatMap_append]
                        exact ho3
                      clear ho3 hg3
                      have HBE : Hid (Below w2.heap.size w2 W3) := bstep hBW1 hb3'
                      go_wp2_with fail
                      go_roundw
                      case rel => first | exact ⟨k + 1, hlt, by go_num, HP3.out, HBE.out⟩ | ((repeat apply Exists.intro); exact ⟨⟨k + 1, hlt, by go_num, HP3.out, HBE.out⟩, rfl⟩)
                      case measure => simp [intOf]; omega
            · have HP4 : Hid (PcsV w4 u14 (Num.outP (L.take (k + 1)))) := by
                show PcsV _ _ _
                rw [HSN.out, if_pos rfl]
                exact PcsV.below HPO.out hb4
              clear c0 c1 c2 c3 c4 c5 c6 c7 c8 c9 KS
              go_wp2_with fail
              go_roundw
              case rel => first | exact ⟨k + 1, hlt, by go_num, HP4.out, bstep hbl2 hb4⟩ | ((repeat apply Exists.intro); exact ⟨⟨k + 1, hlt, by go_num, HP4.out, bstep hbl2 hb4⟩, rfl⟩)
              case measure => simp [intOf]; omega
          · have hke : k = n := by omega
            subst hke
            have htk : L.take k = L := List.take_of_length_le (by have := HN.out; omega)
            have HPO2 : Hid (PcsV wr u14 (Num.outP L)) := by
              have := HPO.out
              rw [htk] at this
              exact this
            clear htk HPO
            have HB2 : Hid (Below w.heap.size w wr) := bstep HB0.out hbl2
            rcases HPO2.out with ⟨hO, hu⟩ | ⟨gO, cO, hu, hgO, hhO, hOne, hOc⟩
            · subst hu
              have HOE : Hid (Num.outP L = []) := hO
              clear hO HPO2
              obtain ⟨y0, r, hL⟩ : ∃ y0 r, L = y0 :: r := by
                cases L with
                | nil => exact absurd rfl HNE.out
                | cons y0 r => exact ⟨y0, r, rfl⟩
              have HLC : Hid (L = y0 :: r) := hL
              clear hL
              obtain ⟨fo, fn, fd, tt, tn, td, bn, bd, sn, sd, rfl⟩ := pieces_are y0
              have hten := HHr.out.ten (k := 0) (by rw [HLC.out]; rfl)
              obtain ⟨c0, c1, c2, c3, c4, c5, c6, c7, c8, c9⟩ := hten
              have hk0 : ((k : Int) == 0) = false := by simp; omega
              have HBX0 : Hid (Bx wr.heap.size (pcL ⟨⟨fo, fn, fd⟩, ⟨tt, tn, td⟩, bn, bd, sn, sd⟩) (wr.alloc (.cells #[.bool fo, .int .i64 fn, .int .i64 fd, .bool tt, .int .i64 tn, .int .i64 td, .int .i64 bn, .int .i64 bd, .int .i64 sn, .int .i64 sd] 58))) := Bx.new rfl _ _
              have HBL0 : Hid (Below wr.heap.size wr (wr.alloc (.cells #[.bool fo, .int .i64 fn, .int .i64 fd, .bool tt, .int .i64 tn, .int .i64 td, .int .i64 bn, .int .i64 bd, .int .i64 sn, .int .i64 sd] 58))) := balloc _ _
              go_wp2_with fail
              try rw [hk0]
              clear c0 c1 c2 c3 c4 c5 c6 c7 c8 c9
              generalize wr.alloc (.cells #[.bool fo, .int .i64 fn, .int .i64 fd, .bool tt, .int .i64 tn, .int .i64 td, .int .i64 bn, .int .i64 bd, .int .i64 sn, .int .i64 sd] 58) = w7 at *
              have hg6 : g < wr.heap.size := Nat.lt_of_lt_of_le hg hbl2.size
              clear hbl2
              generalize wr = w6 at *
              have HRL2 : Hid (r.length + 1 = k) := by
                show _ = _
                rw [← HN.out, HLC.out]; rfl
              go_loopw [19] (fun i wr => ∃ q : Nat, 1 ≤ q ∧ q ≤ k ∧ i = .int .i64 q ∧ Bx w6.heap.size (pcL (Num.leastP (r.take (q - 1)) ⟨⟨fo, fn, fd⟩, ⟨tt, tn, td⟩, bn, bd, sn, sd⟩)) wr ∧ Below w6.heap.size w6 wr) (fun i _ => k - (intOf i).toNat)
              case atStart => exact ⟨1, Nat.le_refl _, hn0, rfl, HBX0.out, HBL0.out⟩
              case round =>
                obtain ⟨q, hq1, hq, rfl, hbx, hbl4⟩ := hrel
                have HHq : Hid (HoldsPc wr g L) := HoldsPc.below HHr.out hbl4 hg6
                by_cases hql : q < k
                · obtain ⟨x, hx⟩ : ∃ x, L[q]? = some x := ⟨_, List.getElem?_eq_getElem (by have := HN.out; omega)⟩
                  have hxr : r[q - 1]? = some x := by
                    have h := hx
                    rw [HLC.out, show q = (q - 1) + 1 by omega, List.getElem?_cons_succ] at h
                    exact h
                  have HST : Hid (Num.leastP (r.take (q + 1 - 1)) ⟨⟨fo, fn, fd⟩, ⟨tt, tn, td⟩, bn, bd, sn, sd⟩ = if x.sn * (Num.leastP (r.take (q - 1)) ⟨⟨fo, fn, fd⟩, ⟨tt, tn, td⟩, bn, bd, sn, sd⟩).sd < (Num.leastP (r.take (q - 1)) ⟨⟨fo, fn, fd⟩, ⟨tt, tn, td⟩, bn, bd, sn, sd⟩).sn * x.sd then x else Num.leastP (r.take (q - 1)) ⟨⟨fo, fn, fd⟩, ⟨tt, tn, td⟩, bn, bd, sn, sd⟩) := by
                    show _ = _
                    rw [show q + 1 - 1 = (q - 1) + 1 by omega, Num.least_snoc r (q - 1) x _ hxr]
                  have HXO : Hid (Num.PcOk x) := HOK.out x (List.mem_of_getElem? hx)
                  have HBO : Hid (Num.PcOk (Num.leastP (r.take (q - 1)) ⟨⟨fo, fn, fd⟩, ⟨tt, tn, td⟩, bn, bd, sn, sd⟩)) := by
                    refine HOK.out _ ?_
                    rw [HLC.out]
                    have := Num.least_mem (r.take (q - 1)) ⟨⟨fo, fn, fd⟩, ⟨tt, tn, td⟩, bn, bd, sn, sd⟩
                    rw [List.mem_cons] at this ⊢
                    rcases this with h | h
                    · exact Or.inl h
                    · exact Or.inr (List.mem_of_mem_take h)
                  clear hxr
                  generalize Num.leastP (r.take (q - 1)) ⟨⟨fo, fn, fd⟩, ⟨tt, tn, td⟩, bn, bd, sn, sd⟩ = best at *
                  obtain ⟨ao, an, ad, eo, en, ed, mn, md, hn, hd, rfl⟩ := pieces_are best
                  obtain ⟨xo, xn, xd, zo, zn, zd, qn, qd, rn, rd, rfl⟩ := pieces_are x
                  have HXE : Hid (L[q]? = some ⟨⟨xo, xn, xd⟩, ⟨zo, zn, zd⟩, qn, qd, rn, rd⟩) := hx
                  clear hx
                  have hbt := Bx.all10 (by unfold pcL at hbx; exact hbx)
                  obtain ⟨b0, b1, b2, b3, b4, b5, b6, b7, b8, b9⟩ := hbt
                  have hten := HHq.out.ten HXE.out
                  obtain ⟨-, -, -, -, -, -, -, -, c8, c9⟩ := hten
                  have p8 : ∀ w', Below wr.heap.size wr w' → w'.cell? ⟨g, q * 10 + 8, none⟩ = some (.int .i64 rn) := fun w' h => carry h c8
                  have p9 : ∀ w', Below wr.heap.size wr w' → w'.cell? ⟨g, q * 10 + 9, none⟩ = some (.int .i64 rd) := fun w' h => carry h c9
                  have r8 : ∀ w', Below wr.heap.size wr w' → w'.cell? ⟨w6.heap.size, 8, none⟩ = some (.int .i64 hn) := fun w' h => carry h b8
                  have r9 : ∀ w', Below wr.heap.size wr w' → w'.cell? ⟨w6.heap.size, 9, none⟩ = some (.int .i64 hd) := fun w' h => carry h b9
                  have KC : Hid (∀ w', Below wr.heap.size wr w' → Calls Try.prog 48 #[.agg #[.int .i64 rn, .int .i64 rd], .agg #[.int .i64 hn, .int .i64 hd]] w' fun e w'' => e = .returned (.int .i64 (rn * hd - hn * rd)) ∧ Below wr.heap.size wr w'' ∧ Below w'.heap.size w' w'') := fun w' h => (cmp_any rn rd hn hd w' HXO.out.2.2.2.2.2.2.1 HXO.out.2.2.2.2.2.2.2 HBO.out.2.2.2.2.2.2.1 HBO.out.2.2.2.2.2.2.2).mono fun _ _ k => ⟨k.1, bstep h k.2, k.2⟩
                  have HDV : Hid ((rn * hd < hn * rd) ↔ (rn * hd - hn * rd < 0)) := by
                    show _ ↔ _
                    omega
                  generalize rn * hd - hn * rd = dv at *
                  have HBX : Hid (Bx w6.heap.size (pcL ⟨⟨ao, an, ad⟩, ⟨eo, en, ed⟩, mn, md, hn, hd⟩) wr) := hbx
                  have HB4 : Hid (Below w6.heap.size w6 wr) := hbl4
                  have hlt6 : w6.heap.size < wr.heap.size := hbx.lt
                  have q0' : (0 : Int) ≤ (q : Int) := by omega
                  have q1' : (q : Int) < (k : Int) := by omega
                  clear hbx b0 b1 b2 b3 b4 b5 b6 b7 b8 b9 c8 c9
                  by_cases hdv : dv < 0
                  · have hdec : decide (dv < 0) = true := by simpa using hdv
                    have HST2 : Hid (Num.leastP (r.take (q + 1 - 1)) ⟨⟨fo, fn, fd⟩, ⟨tt, tn, td⟩, bn, bd, sn, sd⟩ = ⟨⟨xo, xn, xd⟩, ⟨zo, zn, zd⟩, qn, qd, rn, rd⟩) := by
                      show _ = _
                      rw [HST.out, if_pos (HDV.out.2 hdv)]
                    clear HST
                    go_wp2_with fail
                    go_region_held3 (fun w' => Below wr.heap.size wr w') (first | (with_reducible assumption) | (with_reducible exact (Below.refl _ _).drew))
                      (first | (go_at_call 48; refine Calls.mono (KC.out _ ?_) ?_; (with_reducible assumption); rintro e v3 ⟨rfl, hb3, hk3⟩))
                    rename_i hfin
                    have hb3' : Below wr.heap.size wr v3 := hb3
                    clear p8 p9 r8 r9 KC hfin hb3 hk3
                    have hbx3 := HBX.out.step hb3'
                    have HBX3 : Hid (Bx w6.heap.size (pcL ⟨⟨ao, an, ad⟩, ⟨eo, en, ed⟩, mn, md, hn, hd⟩) v3) := hbx3
                    have hten := (HoldsPc.below HHq.out hb3' (Nat.lt_of_lt_of_le hg6 hbl4.size)).ten HXE.out
                    obtain ⟨c0, c1, c2, c3, c4, c5, c6, c7, c8, c9⟩ := hten
                    have hbt := hbx3.all10
                    obtain ⟨b0, b1, b2, b3, b4, b5, b6, b7, b8, b9⟩ := hbt
                    have f0 := hbx3.f 0
                    have f1 := hbx3.f 1
                    have f2 := hbx3.f 2
                    have f3 := hbx3.f 3
                    have f4 := hbx3.f 4
                    have f5 := hbx3.f 5
                    have f6 := hbx3.f 6
                    have f7 := hbx3.f 7
                    have f8 := hbx3.f 8
                    have f9 := hbx3.f 9
                    have hlt7 := hbx3.lt
                    have HB5 : Hid (Below w6.heap.size w6 v3) := bstep hbl4 hb3'
                    have HBXn : Hid (Bx w6.heap.size (pcL ⟨⟨xo, xn, xd⟩, ⟨zo, zn, zd⟩, qn, qd, rn, rd⟩) ((((((((((v3.setCell ⟨w6.heap.size, 0, none⟩ (.bool xo)).setCell ⟨w6.heap.size, 1, none⟩ (.int .i64 xn)).setCell ⟨w6.heap.size, 2, none⟩ (.int .i64 xd)).setCell ⟨w6.heap.size, 3, none⟩ (.bool zo)).setCell ⟨w6.heap.size, 4, none⟩ (.int .i64 zn)).setCell ⟨w6.heap.size, 5, none⟩ (.int .i64 zd)).setCell ⟨w6.heap.size, 6, none⟩ (.int .i64 qn)).setCell ⟨w6.heap.size, 7, none⟩ (.int .i64 qd)).setCell ⟨w6.heap.size, 8, none⟩ (.int .i64 rn)).setCell ⟨w6.heap.size, 9, none⟩ (.int .i64 rd))) := Bx.set10 (by have := HBX3.out; unfold pcL at this; exact this) _ _ _ _ _ _ _ _ _ _
                    have HB6 : Hid (Below w6.heap.size w6 ((((((((((v3.setCell ⟨w6.heap.size, 0, none⟩ (.bool xo)).setCell ⟨w6.heap.size, 1, none⟩ (.int .i64 xn)).setCell ⟨w6.heap.size, 2, none⟩ (.int .i64 xd)).setCell ⟨w6.heap.size, 3, none⟩ (.bool zo)).setCell ⟨w6.heap.size, 4, none⟩ (.int .i64 zn)).setCell ⟨w6.heap.size, 5, none⟩ (.int .i64 zd)).setCell ⟨w6.heap.size, 6, none⟩ (.int .i64 qn)).setCell ⟨w6.heap.size, 7, none⟩ (.int .i64 qd)).setCell ⟨w6.heap.size, 8, none⟩ (.int .i64 rn)).setCell ⟨w6.heap.size, 9, none⟩ (.int .i64 rd))) := bset10 HB5.out (Nat.le_refl _) _ _ _ _ _ _ _ _ _ _
                    clear hbx3 hb3' hbl4
                    go_wp2_with fail
                    go_roundw
                    case rel => first | exact ⟨q + 1, by omega, hql, by go_num, by rw [HST2.out]; exact HBXn.out, HB6.out⟩ | ((repeat apply Exists.intro); exact ⟨⟨q + 1, by omega, hql, by go_num, by rw [HST2.out]; exact HBXn.out, HB6.out⟩, rfl⟩)
                    case measure => simp [intOf]; omega
                  · have hdec : decide (dv < 0) = false := by simpa using hdv
                    have HST2 : Hid (Num.leastP (r.take (q + 1 - 1)) ⟨⟨fo, fn, fd⟩, ⟨tt, tn, td⟩, bn, bd, sn, sd⟩ = ⟨⟨ao, an, ad⟩, ⟨eo, en, ed⟩, mn, md, hn, hd⟩) := by
                      show _ = _
                      rw [HST.out, if_neg (fun h => hdv (HDV.out.1 h))]
                    clear HST
                    go_wp2_with fail
                    go_region_held3 (fun w' => Below wr.heap.size wr w') (first | (with_reducible assumption) | (with_reducible exact (Below.refl _ _).drew))
                      (first | (go_at_call 48; refine Calls.mono (KC.out _ ?_) ?_; (with_reducible assumption); rintro e v3 ⟨rfl, hb3, hk3⟩))
                    rename_i hfin
                    have hb3' : Below wr.heap.size wr v3 := hb3
                    clear p8 p9 r8 r9 KC hfin hb3 hk3
                    have HBX3 : Hid (Bx w6.heap.size (pcL ⟨⟨ao, an, ad⟩, ⟨eo, en, ed⟩, mn, md, hn, hd⟩) v3) := HBX.out.step hb3'
                    have HB5 : Hid (Below w6.heap.size w6 v3) := bstep hbl4 hb3'
                    go_wp2_with fail
                    go_roundw
                    case rel => first | exact ⟨q + 1, by omega, hql, by go_num, by rw [HST2.out]; exact HBX3.out, HB5.out⟩ | ((repeat apply Exists.intro); refine ⟨?_, rfl⟩; exact ⟨q + 1, by omega, hql, by go_num, by rw [HST2.out]; exact HBX3.out, HB5.out⟩)
                    case measure => simp [intOf]; omega
                · have hqe : q = k := by omega
                  subst hqe
                  have htk : r.take (q - 1) = r := List.take_of_length_le (by have := HRL2.out; omega)
                  rw [htk] at hbx
                  have HSW : Hid (Num.sweepN L = [Num.leastP r ⟨⟨fo, fn, fd⟩, ⟨tt, tn, td⟩, bn, bd, sn, sd⟩]) := by
                    show _ = _
                    rw [HLC.out]
                    unfold Num.sweepN
                    rw [← HLC.out, HOE.out, HLC.out]
                  generalize Num.leastP r ⟨⟨fo, fn, fd⟩, ⟨tt, tn, td⟩, bn, bd, sn, sd⟩ = best at *
                  obtain ⟨ao, an, ad, eo, en, ed, mn, md, hn, hd, rfl⟩ := pieces_are best
                  have hbt := Bx.all10 (by unfold pcL at hbx; exact hbx)
                  obtain ⟨b0, b1, b2, b3, b4, b5, b6, b7, b8, b9⟩ := hbt
                  have hlt6 : w6.heap.size < wr.heap.size := hbx.lt
                  have HFIN : Hid (PcsV (wr.alloc (.cells #[.bool ao, .int .i64 an, .int .i64 ad, .bool eo, .int .i64 en, .int .i64 ed, .int .i64 mn, .int .i64 md, .int .i64 hn, .int .i64 hd] 58)) (.slice (some ⟨wr.heap.size, 0, none⟩) 1 1) [⟨⟨ao, an, ad⟩, ⟨eo, en, ed⟩, mn, md, hn, hd⟩]) := Or.inr ⟨wr.heap.size, 1, rfl, by simp, holds_of_owns (l := [⟨⟨ao, an, ad⟩, ⟨eo, en, ed⟩, mn, md, hn, hd⟩]) (own_made1 wr #[.bool ao, .int .i64 an, .int .i64 ad, .bool eo, .int .i64 en, .int .i64 ed, .int .i64 mn, .int .i64 md, .int .i64 hn, .int .i64 hd] rfl wr.heap.size 58 (Nat.le_refl _)), by simp, Nat.le_refl _⟩
                  have HBE : Hid (Below w.heap.size w (wr.alloc (.cells #[.bool ao, .int .i64 an, .int .i64 ad, .bool eo, .int .i64 en, .int .i64 ed, .int .i64 mn, .int .i64 md, .int .i64 hn, .int .i64 hd] 58))) := bstep (HB2.out.trans (hbl4.mono HB2.out.size)) (balloc _ _)
                  clear hbx htk
                  go_wp2_with fail
                  go_ret
                  exact ⟨_, rfl, by rw [HLE.out, HSW.out]; exact HFIN.out, HBE.out⟩
            · subst hu
              have HSW : Hid (Num.sweepN L = Num.outP L) := by
                show _ = _
                unfold Num.sweepN
                split
                · exact absurd (by assumption) hOne
                · rfl
              have HFIN : Hid (PcsV wr (.slice (some ⟨gO, 0, none⟩) (Num.outP L).length cO) (Num.outP L)) := HPO2.out
              have hon0 : 0 < (Num.outP L).length := List.length_pos_iff.2 hOne
              generalize hon : (Num.outP L).length = on at *
              clear hhO hOne HPO2
              go_wp2_with fail
              go_ret
              exact ⟨_, rfl, by rw [HLE.out, HSW.out]; exact HFIN.out, HB2.out⟩

end Go.Proofs.Ytipcbhodlgoflab
