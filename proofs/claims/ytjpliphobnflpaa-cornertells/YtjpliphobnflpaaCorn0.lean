/- Numbers of corners: volumes (by the places that are taken) and determinants (by what is left), which are one; what columns have; what they come to. -/
import Derived.Test.YtjpliphobnflpaaLay0
namespace Go.Proofs.Ytjpliphobnflpaa
namespace Num

def at2 (ls : List (List Int)) (i j : Nat) : Int := (ls[i]?.getD [])[j]?.getD 0

/-- The sum and the sign, after the first k places. -/
def volSum (f : Nat → Int) (l : List Int) (t : Nat → Bool) : Nat → Int × Int
  | 0 => (0, 1)
  | k + 1 => if t k then volSum f l t k else ((volSum f l t k).1 + (volSum f l t k).2 * l[k]?.getD 0 * f k, -(volSum f l t k).2)

def mark (t : Nat → Bool) (i j : Nat) : Bool := if j = i then true else t j

/-- The volume of lines, without the places that are taken. -/
def vol : List (List Int) → (Nat → Bool) → Int
  | [], _ => 1
  | l :: r, t => (volSum (fun i => vol r (mark t i)) l t l.length).1

def none4 : Nat → Bool := fun _ => false

def del (k : Nat) (l : List Int) : List Int := l.take k ++ l.drop (k + 1)

/-- The determinant of n rows: by the first row's numbers. -/
def detN : Nat → List (List Int) → Int
  | 0, _ => 1
  | n + 1, ls => (volSum (fun k => detN n ((ls.drop 1).map (del k))) (ls[0]?.getD []) none4 (n + 1)).1

/-- Rows, with lines and places turned. -/
def turnL (ls : List (List Int)) : List (List Int) := (List.range ls.length).map fun i => (List.range ls.length).map fun k => at2 ls k i

theorem volSum_sign (f : Nat → Int) (l : List Int) (t : Nat → Bool) (k : Nat) : (volSum f l t k).2 = 1 ∨ (volSum f l t k).2 = -1 := by
  induction k with
  | zero => exact Or.inl rfl
  | succ k ih =>
    unfold volSum
    by_cases h : t k
    · simp only [h, if_true]; exact ih
    · simp only [h]
      rcases ih with e | e
      · right; simp [e]
      · left; simp [e]

theorem volSum_bd (f : Nat → Int) (l : List Int) (t : Nat → Bool) (A F : Int) (hl : ∀ j : Nat, -A ≤ l[j]?.getD 0 ∧ l[j]?.getD 0 ≤ A) (hf : ∀ j : Nat, -F ≤ f j ∧ f j ≤ F) (k : Nat) :
    -(A * F * k) ≤ (volSum f l t k).1 ∧ (volSum f l t k).1 ≤ A * F * k := by
  have h0 : 0 ≤ A * F := Int.mul_nonneg (by have := hl 0; omega) (by have := hf 0; omega)
  induction k with
  | zero => simp [volSum]
  | succ k ih =>
    have hm := mul_bd2 _ _ _ _ (hl k) (hf k)
    simp only [Int.natCast_add, Int.mul_add, Int.natCast_one, Int.mul_one]
    unfold volSum
    by_cases h : t k
    · simp only [h, if_true]; omega
    · simp only [h]
      rcases volSum_sign f l t k with e | e
      · simp [e]; omega
      · simp [e, Int.neg_mul]; omega

/-- All numbers of the lines are at most B either way, and no line is longer than 4. -/
def BdL (B : Int) (ls : List (List Int)) : Prop := ∀ i j : Nat, -B ≤ at2 ls i j ∧ at2 ls i j ≤ B

theorem BdL.tail {B : Int} {l : List Int} {r : List (List Int)} (h : BdL B (l :: r)) : BdL B r := fun i j => by simpa [at2] using h (i + 1) j

theorem BdL.head {B : Int} {l : List Int} {r : List (List Int)} (h : BdL B (l :: r)) (j : Nat) : -B ≤ l[j]?.getD 0 ∧ l[j]?.getD 0 ≤ B := by simpa [at2] using h 0 j

theorem pow_le4 (n : Nat) (h : n ≤ 4) : (1600 : Int) ^ n ≤ 6553600000000 ∧ 1 ≤ (1600 : Int) ^ n := by
  match n, h with
  | 0, _ => decide
  | 1, _ => decide
  | 2, _ => decide
  | 3, _ => decide
  | 4, _ => decide

theorem vol_bd (ls : List (List Int)) (t : Nat → Bool) (h : BdL 400 ls) (h4 : ∀ l ∈ ls, l.length ≤ 4) : -((1600 : Int) ^ ls.length) ≤ vol ls t ∧ vol ls t ≤ (1600 : Int) ^ ls.length := by
  induction ls generalizing t with
  | nil => simp [vol]
  | cons l r ih =>
    have hf : ∀ j : Nat, -((1600 : Int) ^ r.length) ≤ vol r (mark t j) ∧ vol r (mark t j) ≤ (1600 : Int) ^ r.length := fun j => ih _ h.tail (fun x hx => h4 x (List.mem_cons_of_mem _ hx))
    have hs := volSum_bd (fun i => vol r (mark t i)) l t 400 ((1600 : Int) ^ r.length) h.head hf l.length
    have h5 := h4 l List.mem_cons_self
    have hp : 0 ≤ (1600 : Int) ^ r.length := by have := hf 0; omega
    have e : (1600 : Int) ^ (l :: r).length = 400 * (1600 : Int) ^ r.length * 4 := by rw [List.length_cons, Int.pow_succ]; omega
    have hm : 400 * (1600 : Int) ^ r.length * (l.length : Int) ≤ 400 * (1600 : Int) ^ r.length * 4 := Int.mul_le_mul_of_nonneg_left (by omega) (by omega)
    rw [e]
    unfold vol
    omega

theorem vol_bd' (ls : List (List Int)) (t : Nat → Bool) (h : BdL 400 ls) (h4 : ∀ l ∈ ls, l.length ≤ 4) (hn : ls.length ≤ 4) : -6553600000000 ≤ vol ls t ∧ vol ls t ≤ 6553600000000 := by
  have := vol_bd ls t h h4
  have := pow_le4 ls.length hn
  omega

theorem del_getD (k : Nat) (l : List Int) (j : Nat) : (del k l)[j]?.getD 0 = if j < k then l[j]?.getD 0 else l[j + 1]?.getD 0 := by
  unfold del
  by_cases hk : k ≤ l.length
  · by_cases h : j < k
    · rw [List.getElem?_append_left (by simp; omega), List.getElem?_take_of_lt h, if_pos h]
    · rw [List.getElem?_append_right (by simp; omega), if_neg h, List.getElem?_drop, List.length_take, Nat.min_eq_left hk]
      congr 2; omega
  · have e : l.drop (k + 1) = [] := List.drop_of_length_le (by omega)
    have e2 : l.take k = l := List.take_of_length_le (by omega)
    rw [e, e2, List.append_nil]
    by_cases h : j < k
    · rw [if_pos h]
    · rw [if_neg h, List.getElem?_eq_none (by omega), List.getElem?_eq_none (by omega)]

theorem BdL.minor {B : Int} {ls : List (List Int)} (h : BdL B ls) (h0 : 0 ≤ B) (k : Nat) : BdL B ((ls.drop 1).map (del k)) := fun i j => by
  unfold at2
  rw [List.getElem?_map, List.getElem?_drop]
  cases e : ls[1 + i]? with
  | none => simp; omega
  | some l =>
    simp only [Option.map_some, Option.getD_some]
    rw [del_getD]
    have hb : ∀ j : Nat, -B ≤ l[j]?.getD 0 ∧ l[j]?.getD 0 ≤ B := fun j => by simpa [at2, e] using h (1 + i) j
    split
    · exact hb _
    · exact hb _

theorem detN_bd (n : Nat) (ls : List (List Int)) (h : BdL 400 ls) (hn : n ≤ 4) : -((1600 : Int) ^ n) ≤ detN n ls ∧ detN n ls ≤ (1600 : Int) ^ n := by
  induction n generalizing ls with
  | zero => simp [detN]
  | succ n ih =>
    have hf : ∀ k : Nat, -((1600 : Int) ^ n) ≤ detN n ((ls.drop 1).map (del k)) ∧ detN n ((ls.drop 1).map (del k)) ≤ (1600 : Int) ^ n := fun k => ih _ (h.minor (by omega) k) (by omega)
    have hs := volSum_bd (fun k => detN n ((ls.drop 1).map (del k))) (ls[0]?.getD []) none4 400 ((1600 : Int) ^ n) (h 0) hf (n + 1)
    have hp : 0 ≤ (1600 : Int) ^ n := by have := hf 0; omega
    have e : (1600 : Int) ^ (n + 1) = 400 * (1600 : Int) ^ n * 4 := by rw [Int.pow_succ]; omega
    have hm : 400 * (1600 : Int) ^ n * ((n + 1 : Nat) : Int) ≤ 400 * (1600 : Int) ^ n * 4 := Int.mul_le_mul_of_nonneg_left (by omega) (by omega)
    rw [e]
    unfold detN
    omega

theorem detN_bd' (n : Nat) (ls : List (List Int)) (h : BdL 400 ls) (hn : n ≤ 4) : -6553600000000 ≤ detN n ls ∧ detN n ls ≤ 6553600000000 := by
  have := detN_bd n ls h hn
  have := pow_le4 n hn
  omega

/-- As many lines as each has numbers. -/
def Sq (n : Nat) (ls : List (List Int)) : Prop := ls.length = n ∧ ∀ l ∈ ls, l.length = n

theorem len1 {α : Type} (l : List α) (h : l.length = 1) : ∃ a, l = [a] := by
  match l, h with
  | [a], _ => exact ⟨a, rfl⟩
theorem len2 {α : Type} (l : List α) (h : l.length = 2) : ∃ a b, l = [a, b] := by
  match l, h with
  | [a, b], _ => exact ⟨a, b, rfl⟩
theorem len3 {α : Type} (l : List α) (h : l.length = 3) : ∃ a b c, l = [a, b, c] := by
  match l, h with
  | [a, b, c], _ => exact ⟨a, b, c, rfl⟩
theorem len4 {α : Type} (l : List α) (h : l.length = 4) : ∃ a b c d, l = [a, b, c, d] := by
  match l, h with
  | [a, b, c, d], _ => exact ⟨a, b, c, d, rfl⟩

theorem vol_det1 (a : Int) : vol [[a]] none4 = detN 1 (turnL [[a]]) := by
  simp [vol, volSum, detN, none4, turnL, List.range_succ, at2]

theorem vol_det2 (a b c d : Int) : vol [[a, b], [c, d]] none4 = detN 2 (turnL [[a, b], [c, d]]) := by
  simp [vol, volSum, detN, none4, mark, turnL, List.range_succ, at2, del]
  grind

theorem vol_det3 (a b c d e f g h i : Int) : vol [[a, b, c], [d, e, f], [g, h, i]] none4 = detN 3 (turnL [[a, b, c], [d, e, f], [g, h, i]]) := by
  simp [vol, volSum, detN, none4, mark, turnL, List.range_succ, at2, del]
  grind

set_option maxHeartbeats 1600000 in
theorem vol_det4 (a b c d e f g h i j k l m n o p : Int) : vol [[a, b, c, d], [e, f, g, h], [i, j, k, l], [m, n, o, p]] none4 = detN 4 (turnL [[a, b, c, d], [e, f, g, h], [i, j, k, l], [m, n, o, p]]) := by
  simp [vol, volSum, detN, none4, mark, turnL, List.range_succ, at2, del]
  grind

/-- The volume of lines is the determinant of what is turned. -/
theorem vol_det (n : Nat) (ls : List (List Int)) (h : Sq n ls) (h1 : 1 ≤ n) (h4 : n ≤ 4) : vol ls none4 = detN n (turnL ls) := by
  obtain ⟨hl, ha⟩ := h
  match n, h1, h4 with
  | 1, _, _ =>
    obtain ⟨x, rfl⟩ := len1 ls hl
    obtain ⟨a, rfl⟩ := len1 x (ha x (by simp))
    exact vol_det1 a
  | 2, _, _ =>
    obtain ⟨x, y, rfl⟩ := len2 ls hl
    obtain ⟨a, b, rfl⟩ := len2 x (ha x (by simp))
    obtain ⟨c, d, rfl⟩ := len2 y (ha y (by simp))
    exact vol_det2 ..
  | 3, _, _ =>
    obtain ⟨x, y, z, rfl⟩ := len3 ls hl
    obtain ⟨a, b, c, rfl⟩ := len3 x (ha x (by simp))
    obtain ⟨d, e, f, rfl⟩ := len3 y (ha y (by simp))
    obtain ⟨g, h, i, rfl⟩ := len3 z (ha z (by simp))
    exact vol_det3 ..
  | 4, _, _ =>
    obtain ⟨x, y, z, u, rfl⟩ := len4 ls hl
    obtain ⟨a, b, c, d, rfl⟩ := len4 x (ha x (by simp))
    obtain ⟨e, f, g, h, rfl⟩ := len4 y (ha y (by simp))
    obtain ⟨i, j, k, l, rfl⟩ := len4 z (ha z (by simp))
    obtain ⟨m, n, o, p, rfl⟩ := len4 u (ha u (by simp))
    exact vol_det4 ..

end Num
end Go.Proofs.Ytjpliphobnflpaa
