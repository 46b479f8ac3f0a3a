/- What walk.exchanged and walk.Next do. -/
import Derived.Test.YtipcbhodlgoflabWlkAB
import Derived.Test.YtipcbhodlgoflabSrt0
import Derived.Test.YtipcbhodlgoflabLinesO
namespace Go.Proofs.Ytipcbhodlgoflab
open Go.RowKit

theorem Num.next_err (p : Num.Lp) (at' : List Int) (e : Int) (h : (Num.look p at').err = e) (h0 : e ≠ 0) : Num.nextN p at' = ([], 0, e) := by
  unfold Num.nextN; rw [h, if_pos h0]
end Go.Proofs.Ytipcbhodlgoflab

/- What walk.Walk does. -/
namespace Go.Proofs.Ytipcbhodlgoflab
open Go.RowKit

theorem Num.next_may (p : Num.Lp) (at' : List Int) (h : (Num.nextN p at').2.2 = 0) : p.may = true := by
  cases hm : p.may with
  | true => rfl
  | false =>
    rw [Num.next_err p at' 2 (by rw [Num.look_form p at' hm]; rfl) (by omega)] at h
    simp at h

/-- What a walk answers. -/
def Num.Walked (p : Num.Lp) (at' : List Int) (l : List (List Int)) (kind err : Int) : Prop :=
  (err ≠ 0 ∧ kind = 0 ∧ l = [] ∧ Num.nextN p at' = ([], 0, err)) ∨ (err = 0 ∧ p.may = true ∧ Num.IsWalk p at' l kind)

/-- A round of a walk: what Next answers, in plain words. -/
theorem Num.round (p : Num.Lp) (at' : List Int) (l : List (List Int)) (now : List Int) (h : Num.Path p at' l now) (hm : l = [] ∨ p.may = true) :
    (∃ e, e ≠ 0 ∧ Num.nextN p now = ([], 0, e) ∧ Num.Walked p at' [] 0 e) ∨
    (∃ k, k ≠ 0 ∧ Num.nextN p now = ([], k, 0) ∧ p.may = true ∧ Num.Good p now p.rows.length p.costs.length ∧ l.length < 4096 ∧ Num.Walked p at' (l ++ [now]) k 0) ∨
    (∃ nx, Num.nextN p now = (nx, 0, 0) ∧ nx.length = p.rows.length ∧ p.may = true ∧ Num.Good p now p.rows.length p.costs.length ∧ l.length < 4096 ∧ Num.Path p at' (l ++ [now]) nx) := by
  by_cases he : (Num.nextN p now).2.2 = 0
  · have hmay := Num.next_may p now he
    have hs := Num.path_short p.rows.length p.costs.length hmay rfl rfl h
    rcases Num.next_cases p now p.rows.length p.costs.length hmay rfl rfl with ⟨e, he', h1, _⟩ | ⟨hg, ⟨k, hk, _, h1⟩ | ⟨nx, s, k, h1, h2, h3, h4⟩⟩
    · rw [h1] at he; exact absurd he he'
    · exact Or.inr (Or.inl ⟨k, hk, h1, hmay, hg, hs, Or.inr ⟨rfl, hmay, h.ends h1 hk⟩⟩)
    · exact Or.inr (Or.inr ⟨nx, h1, h2, hmay, hg, hs, h.push h1⟩)
  · have hl : l = [] := by
      rcases hm with hm | hm
      · exact hm
      · by_cases hl : l = []
        · exact hl
        · have hg := Num.path_now p.rows.length p.costs.length hm rfl rfl h hl
          rcases Num.next_cases p now p.rows.length p.costs.length hm rfl rfl with ⟨e, _, _, hn⟩ | ⟨_, ⟨k, _, _, h1⟩ | ⟨nx, s, k, h1, _⟩⟩
          · exact absurd hg hn
          · rw [h1] at he; exact absurd rfl he
          · rw [h1] at he; exact absurd rfl he
    have hnow : now = at' := by
      have := h.1
      rw [hl] at this
      simpa using this
    subst hl hnow
    have hE : ∃ e, e ≠ 0 ∧ Num.nextN p now = ([], 0, e) := by
      unfold Num.nextN at he ⊢
      split
      · rename_i h0; exact ⟨_, h0, rfl⟩
      · rename_i h0
        rw [if_neg h0] at he
        split
        · exact ⟨3, by omega, rfl⟩
        · rename_i h1
          rw [if_neg h1] at he
          split at he
          · exact absurd rfl he
          · split at he
            · exact absurd rfl he
            · exact absurd rfl he
    obtain ⟨e, he0, hne⟩ := hE
    exact Or.inl ⟨e, he0, hne, Or.inl ⟨he0, rfl, rfl, hne⟩⟩

end Go.Proofs.Ytipcbhodlgoflab
