/- What cornerwalkref1.Of does. -/
import Derived.Test.YtipcbhodlgoflabGreatDoorLayH
import Derived.Test.YtipcbhodlgoflabGreatDoorCornW
namespace Go.Proofs.YtipcbhodlgoflabGreatDoor
open Go.RowKit
theorem P7 {w:World} {b:Nat} {a0 a1:Value} (c0:w.cell? ⟨b,0,none⟩=some a0) (c1:w.cell? ⟨b,1,none⟩=some a1) (u v:Value) (o:Obj) (X:World) (hX:X=((w.setCell ⟨b,0,none⟩ u).setCell ⟨b,1,none⟩ v).alloc o) :
  X.cell? ⟨b,0,none⟩=some u/\X.cell? ⟨b,1,none⟩=some v:=by
 subst hX;have e0:((w.setCell ⟨b,0,none⟩ u).setCell ⟨b,1,none⟩ v).cell? ⟨b,0,none⟩=some u:=by rw [ag (by decide)];exact aN c0
 have e1:((w.setCell ⟨b,0,none⟩ u).setCell ⟨b,1,none⟩ v).cell? ⟨b,1,none⟩=some v:=aN (by rw [ag (by decide)];exact c1);exact ⟨carry (af _ _) e0,carry (af _ _) e1⟩
set_option maxHeartbeats 800000 in
theorem Wv (n d:Int) (w:World) (x y z:Int) (h:Num.mk n d=(x,y,z)) :
  Calls Tryz.prog 24 #[.int .i64 n,.int .i64 d] w fun e w'=>e=.returned (.agg #[.int .i64 x,.int .i64 y])/\Below w.heap.size w w':=by
 have HM:Hid _:=h;clear h;go_enter Tryz.func24,Tryz.ntmps24;go_wp2_with fail;refine (LG n d _ x y z HM.out).mono ?_;rintro e w1 ⟨rfl,hb1⟩;obtain ⟨⟨c0,c1⟩,f0,f1⟩:=fO hb1;have hz:w.heap.size < w1.heap.size:=by have:=hb1.size;simp at this;omega
 go_wp2_with fail;generalize hX:((w1.setCell ⟨w.heap.size,0,none⟩ (.int .i64 x)).setCell ⟨w.heap.size,1,none⟩ (.int .i64 y)).alloc (.cells #[.int .i64 x,.int .i64 y] 66)=X;have vN:Below w.heap.size w X:=by rw [<-hX];exact ai (aV (aV (dN hb1) (Nat.le_refl _) _) (Nat.le_refl _) _) (af _ _)
 obtain ⟨x0,x1⟩:=P7 c0 c1 _ _ _ X hX.symm;exact bodyPost_ret (v:=.agg #[.int .i64 x,.int .i64 y]) (by simp [results,Tryz.results24,go_sem,x0,x1]) rfl ⟨rfl,vN⟩
open Go.RowKit
structure Bx (b:Nat) (vs:List Value) (w:World) : Prop where
 c:∀(i:Nat) (v:Value),vs[i]? = some v->w.cell? ⟨b,i,none⟩=some v
 f:∀i:Nat,w.frozen? ⟨b,i,none⟩=false
 lt:b < w.heap.size
theorem Bx.new {w:World} {b:Nat} (hb:b=w.heap.size) (l:List Value) (t:TypeId) : Bx b l (w.alloc (.cells l.toArray t)):=by subst hb;refine ⟨fun i v h=>?_,fun i=>by go_simp,by simp⟩;rw [World.cell?_alloc_new];simpa using h
theorem Bx.step {b:Nat} {vs:List Value} {w w':World} (h:Bx b vs w) (hb:Below w.heap.size w w') : Bx b vs w' :=
 ⟨fun i v e=>carry hb (h.c i v e),fun i=>by rw [hb.frozen (p:=⟨b,i,none⟩) h.lt];exact h.f i,Nat.lt_of_lt_of_le h.lt hb.size⟩
theorem Bx.set {b:Nat} {vs:List Value} {w:World} (h:Bx b vs w) (i:Nat) (u:Value) : Bx b (vs.set i u) (w.setCell ⟨b,i,none⟩ u):=by
 refine ⟨fun j v e=>?_,fun j=>by simpa using h.f j,by simpa using h.lt⟩;by_cases hij:j=i
 ·subst hij;have hl:j < vs.length:=by
   rcases Nat.lt_or_ge j vs.length with h'|h'
   ·exact h'
   ·rw [List.getElem?_eq_none (by rw [List.length_set];exact h')] at e;cases e
  rw [List.getElem?_set_self hl] at e;cases e;exact aN (h.c j _ (List.getElem?_eq_getElem hl))
 ·rw [List.getElem?_set_ne (by omega)] at e;rw [ag hij];exact h.c j v e
theorem Bx.other {b g:Nat} {vs:List Value} {w:World} (h:Bx b vs w) (hne:b≠g) (i:Nat) (u:Value) : Bx b vs (w.setCell ⟨g,i,none⟩ u) :=
 ⟨fun j v e=>by rw [World.cell?_setCell_other _ _ _ _ (fun e=>hne (by injection e with e1;first|exact e1|exact e1.symm))];exact h.c j v e,fun j=>by simpa using h.f j,by simpa using h.lt⟩
theorem Bx.set2 {b:Nat} {a0 a1:Value} {w:World} (h:Bx b [a0,a1] w) (u0 u1:Value) : Bx b [u0,u1] ((w.setCell ⟨b,0,none⟩ u0).setCell ⟨b,1,none⟩ u1):=(h.set 0 u0).set 1 u1
theorem Bx.nQ {b:Nat} {a0 a1 a2:Value} {w:World} (h:Bx b [a0,a1,a2] w) (u0 u1 u2:Value) : Bx b [u0,u1,u2] (((w.setCell ⟨b,0,none⟩ u0).setCell ⟨b,1,none⟩ u1).setCell ⟨b,2,none⟩ u2):=((h.set 0 u0).set 1 u1).set 2 u2
theorem Bx.all2 {b:Nat} {a0 a1:Value} {w:World} (h:Bx b [a0,a1] w) : w.cell? ⟨b,0,none⟩=some a0/\w.cell? ⟨b,1,none⟩=some a1/\w.frozen? ⟨b,0,none⟩=false/\w.frozen? ⟨b,1,none⟩=false :=
 ⟨h.c 0 _ rfl,h.c 1 _ rfl,h.f 0,h.f 1⟩
theorem Bx.aY {b:Nat} {a0 a1 a2:Value} {w:World} (h:Bx b [a0,a1,a2] w) :
  w.cell? ⟨b,0,none⟩=some a0/\w.cell? ⟨b,1,none⟩=some a1/\w.cell? ⟨b,2,none⟩=some a2/\w.frozen? ⟨b,0,none⟩=false/\w.frozen? ⟨b,1,none⟩=false/\w.frozen? ⟨b,2,none⟩=false :=
 ⟨h.c 0 _ rfl,h.c 1 _ rfl,h.c 2 _ rfl,h.f 0,h.f 1,h.f 2⟩
theorem Bx.fH {b:Nat} {a0 a1 a2 a3 a4 a5:Value} {w:World} (h:Bx b [a0,a1,a2,a3,a4,a5] w) :
  (w.cell? ⟨b,0,none⟩=some a0/\w.cell? ⟨b,1,none⟩=some a1/\w.cell? ⟨b,2,none⟩=some a2/\w.cell? ⟨b,3,none⟩=some a3/\w.cell? ⟨b,4,none⟩=some a4/\w.cell? ⟨b,5,none⟩=some a5)/\
  w.frozen? ⟨b,0,none⟩=false/\w.frozen? ⟨b,1,none⟩=false/\w.frozen? ⟨b,2,none⟩=false/\w.frozen? ⟨b,3,none⟩=false/\w.frozen? ⟨b,4,none⟩=false/\w.frozen? ⟨b,5,none⟩=false :=
 ⟨⟨h.c 0 _ rfl,h.c 1 _ rfl,h.c 2 _ rfl,h.c 3 _ rfl,h.c 4 _ rfl,h.c 5 _ rfl⟩,h.f 0,h.f 1,h.f 2,h.f 3,h.f 4,h.f 5⟩
theorem Bx.dG {b g:Nat} {vs:List Value} {w:World} (h:Bx b vs w) (hne:b≠g) (u0 u1 u2:Value) : Bx b vs (((w.setCell ⟨g,0,none⟩ u0).setCell ⟨g,1,none⟩ u1).setCell ⟨g,2,none⟩ u2) :=
 ((h.other hne 0 u0).other hne 1 u1).other hne 2 u2
theorem iR {B:Nat} {a w:World} (h:Below B a w) {g:Nat} (hg:B<=g) (u0 u1 u2:Value) : Below B a (((w.setCell ⟨g,0,none⟩ u0).setCell ⟨g,1,none⟩ u1).setCell ⟨g,2,none⟩ u2):=aV (aV (aV h hg _) hg _) hg _
end Go.Proofs.YtipcbhodlgoflabGreatDoor
