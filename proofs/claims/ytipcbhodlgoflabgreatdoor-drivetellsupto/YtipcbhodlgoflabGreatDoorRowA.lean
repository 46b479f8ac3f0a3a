/- Rows that are appended one by one. -/
import Derived.Test.YtipcbhodlgoflabGreatDoorSixA
import Derived.Deep.AppendLies
namespace Go.Proofs.YtipcbhodlgoflabGreatDoor
open Go.RowKit
def jE (w:World) (base:Nat) (v:Value) (k:Nat) (F:Nat->Value) (G:Nat->Int) : Prop :=
 ∃vs:List Value,w.ownsRow base 101 2 v k vs/\∀j,j < k->vs[j*2]? = some (F j)/\vs[j*2+1]? = some (.int .i64 (G j))
theorem jE.shape {w:World} {base k:Nat} {v:Value} {F:Nat->Value} {G:Nat->Int} (h:jE w base v k F G) : ∃a c,v=.slice a k c:=by
 obtain ⟨vs,h,_⟩:=h;rcases h.2 with ⟨hv,h0⟩|⟨g,cap,cur,hv,_⟩
 ·subst h0;exact ⟨none,0,hv⟩
 ·exact ⟨_,cap,hv⟩
theorem jE.kept {w w':World} {base k:Nat} {v:Value} {F:Nat->Value} {G:Nat->Int} (h:jE w base v k F G) (hb:Below w.heap.size w w') : jE w' base v k F G:=by obtain ⟨vs,h,hin⟩:=h;exact ⟨vs,World.ownsRow.kept (row:=none) h ⟨hb.os,hb.tape,hb.output,hb.size,fun k hk _=>hb.block k hk⟩ (by cases v.ownBlock<;>simp),hin⟩
theorem jE.lV {w:World} {base k:Nat} {v:Value} {F:Nat->Value} {G:Nat->Int} (h:jE w base v k F G) {q j:Nat} (hq:q < base) (u:Value) : jE (w.setCell ⟨q,j,none⟩ u) base v k F G:=by obtain ⟨vs,h,hin⟩:=h;exact ⟨vs,ownsRow_setCell_below h (a:=⟨q,j,none⟩) hq u,hin⟩
theorem jE.push {w w':World} {base k:Nat} {v v':Value} {F:Nat->Value} {G:Nat->Int} {vs:List Value} (h:w.ownsRow base 101 2 v k vs) (hin:∀j,j < k->vs[j*2]? = some (F j)/\vs[j*2+1]? = some (.int .i64 (G j))) {u:Value} {x:Int} (hu:u=F k) (hx:x=G k)
  (h':w'.ownsRow base 101 2 v' (k+1) (vs ++ [u,.int .i64 x])) : jE w' base v' (k+1) F G:=by
 have hl:vs.length=k*2:=h.1;subst hu hx;refine ⟨_,h',fun j hj=>?_⟩;by_cases hjk:j=k
 ·subst hjk;refine ⟨?_,?_⟩
  ·rw [List.getElem?_append_right (by omega),hl,Nat.sub_self];rfl
  ·rw [List.getElem?_append_right (by omega),hl,show j*2+1 - j*2=1 by omega];rfl
 ·obtain ⟨h1,h2⟩:=hin j (by omega);exact ⟨by rw [List.getElem?_append_left (by omega)];exact h1,by rw [List.getElem?_append_left (by omega)];exact h2⟩
theorem jE.rows {w:World} {base n:Nat} {v:Value} {F:Nat->Value} {G:Nat->Int} {rs:List (List Int×Int)} (h:jE w base v n F G) (hn:n=rs.length) (h1:1<=n) (hF:∀j,j < n->∃xa xl xc,F j=.slice xa xl xc/\Ints w xa xl (rs[j]?.getD ([],0)).1/\xl<=9223372036854775807) (hG:∀j,j < n->G j=(rs[j]?.getD ([],0)).2) : ∃g c,v=.slice (some ⟨g,0,none⟩) n c/\ay w (some ⟨g,0,none⟩) n rs:=by
 obtain ⟨vs,h,hin⟩:=h;obtain ⟨g,c,rfl,_,hlt⟩:=h.form (by omega);refine ⟨g,c,rfl,hn,Or.inr ⟨g,0,rfl,hlt,fun j hj=>?_⟩⟩;obtain ⟨xa,xl,xc,f1,f2,f3⟩:=hF j hj;obtain ⟨h1,h2⟩:=hin j hj;refine ⟨xa,xl,xc,?_,?_,f2,f3⟩
 ·rw [Nat.zero_add,World.ownsRow.cellAt h _ (by omega),h1,f1]
 ·rw [Nat.zero_add,World.ownsRow.cellAt h _ (by omega),h2,hG j hj]
theorem zQ {w:World} {u v:Value} {t:TypeId} : ∀(j:Nat) (x:Value),[u,v][j]? = some x->(w.alloc (.cells #[u,v] t)).cell? (Addr.add ⟨w.heap.size,0,none⟩ j)=some x:=by
 intro j x hj
 match j,hj with
 | 0,hj=>simp at hj;subst hj;exact (aU rfl _ _ _).1
 | 1,hj=>simp at hj;subst hj;exact (aU rfl _ _ _).2
end Go.Proofs.YtipcbhodlgoflabGreatDoor
