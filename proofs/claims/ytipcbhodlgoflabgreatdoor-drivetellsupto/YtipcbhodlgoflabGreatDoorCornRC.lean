/- What the document's Has and Cost do; rows that a function appends. -/
import Derived.Test.YtipcbhodlgoflabGreatDoorCornW
namespace Go.Proofs.YtipcbhodlgoflabGreatDoor
open Go.RowKit
open Go.RowKit
open Go.RowKit
namespace Num
def UN (p:Lp) (at':List Int) (m:Nat) : List (List Int):=(List.range m).map fun i=>(List.range m).map fun k=>aC p (aZ at' k) i
theorem Bn {α:Type} (f g:Nat->α) (n:Nat) (h:∀i,i < n->f i=g i) : (List.range n).map f=(List.range n).map g :=
 List.map_congr_left fun i hi=>h i (by simpa using hi)
theorem Tk (ls:List (List Int)) (m:Nat) (h:ls.length=m) : bP ls=(List.range m).map fun i=>(List.range m).map fun k=>at2 ls k i:=by subst h;rfl
theorem yw (f:Nat->Nat->Int) (m i j:Nat) (hi:i < m) (hj:j < m) : at2 ((List.range m).map fun i=>(List.range m).map fun k=>f i k) i j=f i j:=by rw [jW,if_pos hi,aA,if_pos hj]
theorem Bo (p:Lp) (at':List Int) (m:Nat) : UN p at' m=bP (aG p at' m):=by rw [Tk _ m (jc p at' m).1];unfold UN;refine Bn _ _ _ fun i hi=>Bn _ _ _ fun k hk=>?_;unfold aG;rw [jW,if_pos hk,aA,if_pos hi]
theorem cZ (p:Lp) (at':List Int) (m:Nat) : Sq m (aG p at' m):=jc p at' m
theorem Wd (ls:List (List Int)) (m k:Nat) (want:List Int) (h:Sq m ls) (hw:want.length=m) : Sq m (ls.set k want):=by
 refine ⟨by simpa using h.1,fun l hl=>?_⟩;rcases List.mem_or_eq_of_mem_set hl with h1|rfl
 ·exact h.2 l h1
 ·exact hw
theorem Ki (ls:List (List Int)) (m:Nat) (h:Sq m ls) : Sq m (bP ls):=yj ls m h.1
end Num
end Go.Proofs.YtipcbhodlgoflabGreatDoor
