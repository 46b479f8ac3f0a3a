/- The document's Parse (chapter 9). -/
import Derived.Test.YtipcbhodlgoflabDoorTxM
import Derived.Test.YtipcbhodlgoflabDoorTxD
namespace Go.Proofs.YtipcbhodlgoflabDoor
open Go.RowKit

theorem split_len (c : UInt8) : ∀ (s x : List UInt8), x ∈ Num.splitW c s → x.length ≤ s.length := by
  intro s
  induction s with
  | nil =>
    intro x hx
    rw [show Num.splitW c [] = [[]] from rfl, List.mem_singleton] at hx
    rw [hx]; exact Nat.le_refl _
  | cons y s ih =>
    intro x hx
    unfold Num.splitW at hx
    split at hx
    · rcases List.mem_cons.1 hx with hx | hx
      · rw [hx]; simp
      · have := ih x hx; rw [List.length_cons]; omega
    · split at hx
      · rw [List.mem_singleton.1 hx]; simp
      · rename_i w r e
        rcases List.mem_cons.1 hx with hx | hx
        · have := ih w (by rw [e]; simp)
          rw [hx, List.length_cons, List.length_cons]; omega
        · have := ih x (by rw [e]; simp [hx])
          rw [List.length_cons]; omega

/-- How far the lines are read. -/
def ReadsL (l : List UInt8) (ls : List (List UInt8)) (k : Nat) (p : Num.Lp) : Prop := Num.readW l = Num.readGo k p (ls.drop k)

theorem goL_more (ls : List (List UInt8)) (k : Nat) (p : Num.Lp) (h : k + 1 < ls.length) : Num.readGo k p (ls.drop k) =
    if k = 0 then match Num.headP (ls[k]?.getD []) with
      | none => .error k
      | some c => Num.readGo (k + 1) ⟨c, p.rows⟩ (ls.drop (k + 1))
    else match Num.rowP (ls[k]?.getD []) with
      | none => .error k
      | some q => Num.readGo (k + 1) ⟨p.costs, p.rows ++ [q]⟩ (ls.drop (k + 1)) := by
  rw [List.drop_eq_getElem_cons (by omega : k < ls.length), List.drop_eq_getElem_cons h, List.getElem?_eq_getElem (by omega : k < ls.length)]
  rfl

theorem goL_end (ls : List (List UInt8)) (k : Nat) (p : Num.Lp) (h : k + 1 = ls.length) : Num.readGo k p (ls.drop k) = if ls[k]?.getD [] = [] ∧ p.may = true then .ok p else .error k := by
  rw [List.drop_eq_getElem_cons (by omega : k < ls.length), List.drop_of_length_le (by omega : ls.length ≤ k + 1), List.getElem?_eq_getElem (by omega : k < ls.length)]
  rfl

theorem ReadsL.ends {l : List UInt8} {ls : List (List UInt8)} {k : Nat} {p : Num.Lp} (h : ReadsL l ls k p) (hr : Num.readGo k p (ls.drop k) = .error k) : codeR l = 2 ∧ atR l = k ∧ progR l = ⟨[], []⟩ := by
  have e : Num.readW l = .error k := Eq.trans h hr
  unfold codeR atR progR
  rw [e]
  exact ⟨rfl, rfl, rfl⟩

theorem ReadsL.fine {l : List UInt8} {ls : List (List UInt8)} {k : Nat} {p : Num.Lp} (h : ReadsL l ls k p) (hr : Num.readGo k p (ls.drop k) = .ok p) : codeR l = 0 ∧ atR l = 0 ∧ progR l = p := by
  have e : Num.readW l = .ok p := Eq.trans h hr
  unfold codeR atR progR
  rw [e]
  exact ⟨rfl, rfl, rfl⟩

/-- A first line by its words. -/
theorem headP_words (x : List UInt8) (ws : List (List UInt8)) (h : Num.splitW 32 x = ws) : Num.headP x = if ws[0]?.getD [] = Num.mostW then Num.numsW (ws.drop 1) else none := by
  unfold Num.headP
  rw [h]
  cases ws with
  | nil => exact absurd h (Num.split_ne 32 x)
  | cons w r => rfl

/-- Another line by its words. -/
theorem rowP_words (x : List UInt8) (ws : List (List UInt8)) (h : Num.splitW 32 x = ws) : Num.rowP x = if ws.length < 2 ∨ ws[ws.length - 2]?.getD [] ≠ Num.leW then none else (Num.numsW (ws.take (ws.length - 2))).bind fun o => (Num.numW (ws[ws.length - 1]?.getD [])).map fun m => (o, m) := by
  unfold Num.rowP
  rw [h]
  split
  · rfl
  · cases Num.numsW (ws.take (ws.length - 2)) with
    | none => rfl
    | some o => cases Num.numW (ws[ws.length - 1]?.getD []) <;> rfl

theorem Strs.drop1 {w : World} {g n : Nat} {ws : List (List UInt8)} (h : Strs w (some ⟨g, 0, none⟩) n ws) : Strs w (some ⟨g, 1, none⟩) (n - 1) (ws.drop 1) := by
  refine ⟨by rw [List.length_drop, ← h.1], ?_⟩
  rcases h.2 with h0 | ⟨b, off, ha, hs, hc⟩
  · exact Or.inl (by omega)
  · have e := Option.some.inj ha
    simp only [Addr.mk.injEq] at e
    obtain ⟨rfl, rfl, _⟩ := e
    refine Or.inr ⟨g, 1, rfl, hs, fun j hj => ?_⟩
    rw [List.getElem?_drop, Nat.add_comm 1 j]
    have := hc (j + 1) (by omega)
    rw [Nat.zero_add] at this
    exact this

theorem Strs.none_ {w : World} {a : Option Addr} : Strs w a 0 [] := ⟨rfl, Or.inl rfl⟩

theorem Strs.take {w : World} {a : Option Addr} {n : Nat} {ws : List (List UInt8)} (h : Strs w a n ws) (k : Nat) (hk : k ≤ n) : Strs w a k (ws.take k) := by
  refine ⟨by rw [List.length_take, ← h.1]; omega, ?_⟩
  rcases h.2 with h0 | ⟨b, off, ha, hs, hc⟩
  · exact Or.inl (by omega)
  · refine Or.inr ⟨b, off, ha, hs, fun j hj => ?_⟩
    rw [hc j (by omega), List.getElem?_take, if_pos hj]

theorem Strs.cell {w : World} {g n : Nat} {ws : List (List UInt8)} (h : Strs w (some ⟨g, 0, none⟩) n ws) (j : Nat) (hj : j < n) : w.cell? ⟨g, j, none⟩ = some (.string (B8 (ws[j]?.getD []))) ∧ g < w.heap.size := by
  rcases h.2 with h0 | ⟨b, off, ha, hs, hc⟩
  · omega
  · have e := Option.some.inj ha
    simp only [Addr.mk.injEq] at e
    obtain ⟨rfl, rfl, _⟩ := e
    have := hc j hj
    rw [Nat.zero_add] at this
    exact ⟨this, hs⟩

/-- A box that is held empty. -/
def Bare (b : Nat) (w : World) : Prop := w.cell? ⟨b, 0, none⟩ = some (.slice none 0 0) ∧ w.cell? ⟨b, 1, none⟩ = some (.slice none 0 0)

theorem Bare.kept {b : Nat} {w w' : World} (h : Bare b w) (hb : Below w.heap.size w w') : Bare b w' := ⟨carry hb h.1, carry hb h.2⟩
theorem Bare.set {b c j : Nat} {w : World} (h : Bare b w) (hc : b ≠ c) (u : Value) : Bare b (w.setCell ⟨c, j, none⟩ u) :=
  ⟨by rw [World.cell?_setCell_other _ _ _ _ (fun e => hc (congrArg Addr.block e).symm)]; exact h.1, by rw [World.cell?_setCell_other _ _ _ _ (fun e => hc (congrArg Addr.block e).symm)]; exact h.2⟩

end Go.Proofs.YtipcbhodlgoflabDoor
