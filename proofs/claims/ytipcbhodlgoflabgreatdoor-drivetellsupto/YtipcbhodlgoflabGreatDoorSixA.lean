/- A box of six cells. -/
import Derived.Test.YtipcbhodlgoflabGreatDoorLayH
import Derived.Test.YtipcbhodlgoflabGreatDoorCornW
import Derived.Test.YtipcbhodlgoflabGreatDoorCornL
namespace Go.Proofs.YtipcbhodlgoflabGreatDoor
open Go.RowKit
structure H5 (V:World) (b:Nat) (v0 v1 v2 v3 v4 v5:Value) (w:World) : Prop where
 dS:Below V.heap.size V w
 lo:V.heap.size<=b
 c0:w.cell? ⟨b,0,none⟩=some v0
 c1:w.cell? ⟨b,1,none⟩=some v1
 c2:w.cell? ⟨b,2,none⟩=some v2
 c3:w.cell? ⟨b,3,none⟩=some v3
 c4:w.cell? ⟨b,4,none⟩=some v4
 c5:w.cell? ⟨b,5,none⟩=some v5
 fz:∀i,w.frozen? ⟨b,i,none⟩=false
theorem H5.new (V:World) (v0 v1 v2 v3 v4 v5:Value) (t:TypeId) : H5 V V.heap.size v0 v1 v2 v3 v4 v5 (V.alloc (.cells #[v0,v1,v2,v3,v4,v5] t)) :=
 ⟨af _ _,Nat.le_refl _,by simp,by simp,by simp,by simp,by simp,by simp,fun i=>by go_simp⟩
theorem H5.hi {V:World} {b:Nat} {v0 v1 v2 v3 v4 v5:Value} {w:World} (h:H5 V b v0 v1 v2 v3 v4 v5 w) : b < w.heap.size:=World.block_lt_of_cell? w _ h.c0
theorem uj {w:World} {b:Nat} {a0 a1 a2 a3 a4 a5:Value} (c0:w.cell? ⟨b,0,none⟩=some a0) (c1:w.cell? ⟨b,1,none⟩=some a1) (c2:w.cell? ⟨b,2,none⟩=some a2) (c3:w.cell? ⟨b,3,none⟩=some a3) (c4:w.cell? ⟨b,4,none⟩=some a4) (c5:w.cell? ⟨b,5,none⟩=some a5)
  (u0 u1 u2 u3 u4 u5:Value) (X:World) (hX:X=((((((w.setCell ⟨b,0,none⟩ u0).setCell ⟨b,1,none⟩ u1).setCell ⟨b,2,none⟩ u2).setCell ⟨b,3,none⟩ u3).setCell ⟨b,4,none⟩ u4).setCell ⟨b,5,none⟩ u5)) :
  X.cell? ⟨b,0,none⟩=some u0/\X.cell? ⟨b,1,none⟩=some u1/\X.cell? ⟨b,2,none⟩=some u2/\X.cell? ⟨b,3,none⟩=some u3/\X.cell? ⟨b,4,none⟩=some u4/\X.cell? ⟨b,5,none⟩=some u5:=by
 subst hX;refine ⟨?_,?_,?_,?_,?_,?_⟩
 ·rw [ag (by decide),ag (by decide),ag (by decide),ag (by decide),ag (by decide)];exact aN c0
 ·rw [ag (by decide),ag (by decide),ag (by decide),ag (by decide)];exact aN (by rw [ag (by decide)];exact c1)
 ·rw [ag (by decide),ag (by decide),ag (by decide)];exact aN (by rw [ag (by decide),ag (by decide)];exact c2)
 ·rw [ag (by decide),ag (by decide)];exact aN (by rw [ag (by decide),ag (by decide),ag (by decide)];exact c3)
 ·rw [ag (by decide)];exact aN (by rw [ag (by decide),ag (by decide),ag (by decide),ag (by decide)];exact c4)
 ·exact aN (by rw [ag (by decide),ag (by decide),ag (by decide),ag (by decide),ag (by decide)];exact c5)
open Go.RowKit
theorem Tryz.EM:(Tryz.prog.info? 101).map (fun i=>(i.zero,i.size,i.bytes))=some (some (.agg #[.slice none 0 0,.int .i64 0]),2,32):=by kernel_rfl
theorem boxes {w w1:World} {a b c d:Value} {t t':TypeId} (hb:Below ((w.alloc (.cells #[a,b] t)).alloc (.cells #[c,d] t')).heap.size ((w.alloc (.cells #[a,b] t)).alloc (.cells #[c,d] t')) w1) :
  (w1.cell? ⟨w.heap.size,0,none⟩=some a/\w1.cell? ⟨w.heap.size,1,none⟩=some b)/\(w1.cell? ⟨w.heap.size+1,0,none⟩=some c/\w1.cell? ⟨w.heap.size+1,1,none⟩=some d)/\(w1.frozen? ⟨w.heap.size+1,0,none⟩=false/\w1.frozen? ⟨w.heap.size+1,1,none⟩=false)/\w.heap.size+1 < w1.heap.size/\Below w.heap.size w w1:=by
 have h2:=dN hb;have hs:(w.alloc (.cells #[a,b] t)).heap.size=w.heap.size+1:=by simp
 have k:=fO hb;rw [hs] at k;refine ⟨(fO h2).1,k.1,k.2,?_,dN h2⟩;have:=hb.size;simp at this;omega
def eQ (w:World) (base g n k:Nat) (F:Nat->Value) (G:Nat->Int) : Prop :=
 ∃vs:List Value,w.ownsRow base 101 2 (.slice (some ⟨g,0,none⟩) n n) n vs/\∀j,j < k->vs[j*2]? = some (F j)/\vs[j*2+1]? = some (.int .i64 (G j))
theorem eQ.lt {w:World} {base g n k:Nat} {F:Nat->Value} {G:Nat->Int} (h:eQ w base g n k F G) : base<=g/\g < w.heap.size:=by obtain ⟨vs,h,_⟩:=h;exact World.ownsRow.lt h g rfl
theorem eQ.cell' {w:World} {base g n k:Nat} {F:Nat->Value} {G:Nat->Int} (h:eQ w base g n k F G) (j:Nat) (hj:j < n) : ((∃u,w.cell? ⟨g,j*2,none⟩=some u)/\∃u,w.cell? ⟨g,j*2+1,none⟩=some u)/\(w.frozen? ⟨g,j*2,none⟩=false/\w.frozen? ⟨g,j*2+1,none⟩=false):=by
 obtain ⟨vs,h,_⟩:=h;have hl:vs.length=n*2:=h.1;refine ⟨⟨⟨vs[j*2],?_⟩,⟨vs[j*2+1],?_⟩⟩,World.ownsRow.frozenAt h _,World.ownsRow.frozenAt h _⟩
 ·rw [World.ownsRow.cellAt h _ (by omega)];exact List.getElem?_eq_getElem (by omega)
 ·rw [World.ownsRow.cellAt h _ (by omega)];exact List.getElem?_eq_getElem (by omega)
theorem eQ.below {w w':World} {base g n k:Nat} {F:Nat->Value} {G:Nat->Int} (h:eQ w base g n k F G) (hb:Below w.heap.size w w') : eQ w' base g n k F G:=by obtain ⟨vs,h,hin⟩:=h;exact ⟨vs,World.ownsRow.kept (row:=none) h ⟨hb.os,hb.tape,hb.output,hb.size,fun k hk _=>hb.block k hk⟩ (by simp [Value.ownBlock]),hin⟩
theorem eQ.store {w:World} {base g n k:Nat} {F:Nat->Value} {G:Nat->Int} (h:eQ w base g n k F G) (hk:k < n) {u:Value} {x:Int} (hu:u=F k) (hx:x=G k) : eQ ((w.setCell ⟨g,k*2,none⟩ u).setCell ⟨g,k*2+1,none⟩ (.int .i64 x)) base g n (k+1) F G:=by
 obtain ⟨vs,h,hin⟩:=h;have hl:vs.length=n*2:=h.1;subst hu hx;refine ⟨(vs.set (k*2) (F k)).set (k*2+1) (.int .i64 (G k)),(World.ownsRow.stored (World.ownsRow.stored h (k*2) _).1 (k*2+1) _).1,fun j hj=>?_⟩;by_cases hjk:j=k
 ·subst hjk;refine ⟨?_,?_⟩
  ·rw [List.getElem?_set_ne (by omega),List.getElem?_set_self (by omega)]
  ·rw [List.getElem?_set_self (by rw [List.length_set];omega)]
 ·obtain ⟨h1,h2⟩:=hin j (by omega);refine ⟨?_,?_⟩
  ·rw [List.getElem?_set_ne (by omega),List.getElem?_set_ne (by omega)];exact h1
  ·rw [List.getElem?_set_ne (by omega),List.getElem?_set_ne (by omega)];exact h2
theorem eQ.lV {w:World} {base g n k:Nat} {F:Nat->Value} {G:Nat->Int} (h:eQ w base g n k F G) {q j:Nat} (hq:q < base) (u:Value) : eQ (w.setCell ⟨q,j,none⟩ u) base g n k F G:=by obtain ⟨vs,h,hin⟩:=h;exact ⟨vs,ownsRow_setCell_below h (a:=⟨q,j,none⟩) hq u,hin⟩
theorem eQ.rows {w:World} {base g n:Nat} {F:Nat->Value} {G:Nat->Int} {rs:List (List Int×Int)} (h:eQ w base g n n F G) (hn:n=rs.length) (hF:∀j,j < n->∃xa xl xc,F j=.slice xa xl xc/\Ints w xa xl (rs[j]?.getD ([],0)).1/\xl<=9223372036854775807) (hG:∀j,j < n->G j=(rs[j]?.getD ([],0)).2) : ay w (some ⟨g,0,none⟩) n rs:=by
 have hlt:=h.lt.2;obtain ⟨vs,h,hin⟩:=h;refine ⟨hn,Or.inr ⟨g,0,rfl,hlt,fun j hj=>?_⟩⟩;obtain ⟨xa,xl,xc,f1,f2,f3⟩:=hF j hj;obtain ⟨h1,h2⟩:=hin j hj;refine ⟨xa,xl,xc,?_,?_,f2,f3⟩
 ·rw [Nat.zero_add,World.ownsRow.cellAt h _ (by omega),h1,f1]
 ·rw [Nat.zero_add,World.ownsRow.cellAt h _ (by omega),h2,hG j hj]
def Num.H6 (R:List (List Int×Int)) (b:List Int) : List (List Int×Int):=(List.range R.length).map fun i=>((R[i]?.getD ([],0)).1,b[i]?.getD 0)
theorem Num.OZ (R:List (List Int×Int)) (b:List Int) : (Num.H6 R b).length=R.length:=by simp [Num.H6]
theorem Num.EN (R:List (List Int×Int)) (b:List Int) (i:Nat) (hi:i < R.length) : (Num.H6 R b)[i]?.getD ([],0)=((R[i]?.getD ([],0)).1,b[i]?.getD 0):=by unfold Num.H6;rw [List.getElem?_map,List.getElem?_range hi];rfl
set_option maxHeartbeats 1600000 in
theorem H7 (ca:Option Addr) (cl cc:Nat) (ra:Option Addr) (rl rc:Nat) (R:List (List Int×Int)) (w:World) (hr:ay w ra rl R) (h4:rl<=4) (h1:1<=rl) (y:List Int) (ma:Option Addr) (mc:Nat) (ZM:Ints w ma rl y) :
  Calls Tryz.prog 134 #[.agg #[.slice ca cl cc,.slice ra rl rc],.slice ma rl mc] w fun e w'=>∃g,e=.returned (.agg #[.slice ca cl cc,.slice (some ⟨g,0,none⟩) rl rl])/\ay w' (some ⟨g,0,none⟩) rl (Num.H6 R y)/\Below w.heap.size w w':=by
 have HR:Hid (ay w ra rl R):=hr;have kz:Hid (rl=R.length):=hr.1;rcases hr.2 with h|⟨b,off,hra,hbs,hrc⟩
 ·omega
 rcases ZM.2 with h|⟨mb,mo,hmm,hms,O0⟩
 ·omega
 subst hra hmm;obtain ⟨F,hF⟩ : ∃F:Nat->Value,F=fun j=>(w.cell? ⟨b,off+j*2,none⟩).getD undef:=⟨_,rfl⟩;have HRC:Hid (∀j,j < rl->∃xa xl xc,F j=.slice xa xl xc/\w.cell? ⟨b,off+j*2,none⟩=some (.slice xa xl xc)/\w.cell? ⟨b,off+j*2+1,none⟩=some (.int .i64 (R[j]?.getD ([],0)).2)/\Ints w xa xl (R[j]?.getD ([],0)).1/\xl<=9223372036854775807):=by intro j hj;obtain ⟨xa,xl,xc,c0,c1,c2,c3⟩:=hrc j hj;exact ⟨xa,xl,xc,by rw [hF];show (w.cell? ⟨b,off+j*2,none⟩).getD undef=_;rw [c0];rfl,c0,c1,c2,c3⟩
 obtain ⟨G,hG⟩ : ∃G:Nat->Int,G=fun j=>y[j]?.getD 0:=⟨_,rfl⟩;have HG:Hid (G=fun j=>y[j]?.getD 0):=hG;have Xp:Hid (∀j,j < rl->w.cell? ⟨mb,mo+j,none⟩=some (.int .i64 (G j))):=by intro j hj;rw [O0 j hj,hG]
 clear hr ZM hrc O0 hF hG;obtain ⟨i0,hif,hz0,hz1,hz2⟩:=info_parts Tryz.EM;have hs0:((w.alloc (.cells #[.slice ca cl cc,.slice (some ⟨b,off,none⟩) rl rc] 28)).alloc (.cells #[.slice none 0 0,.slice none 0 0] 28)).heap.size=w.heap.size+1+1:=by simp
 go_enter Tryz.func134,Tryz.ntmps134;go_wp2_with (at_make;refine wpList_make_full _ rfl (.tmp 10) (.tmp 10) 26 rfl (w.heap.size+1+1) 101 i0 (.agg #[.slice none 0 0,.int .i64 0]) 2 Tryz.underlying26 hif hz0 hz1 .i64 .i64 _ _ rl rfl rfl rfl rfl (by rw [hz2];omega) (by unfold maxLen;omega) (by simp) ?_;intro w3 hown hgrow;have hb3:=bY hgrow;obtain ⟨⟨k0,k1⟩,⟨k2,k3⟩,⟨k4,k5⟩,hz3,hB3⟩:=boxes hb3;have HO:Hid _:=hown;clear hown hgrow);have rD:Hid (eQ w3 (w.heap.size+1+1) (w.heap.size+1+1) rl 0 F G):=⟨_,by have:=HO.out;rw [hs0] at this;exact this,fun _ hj=>absurd hj (Nat.not_lt_zero _)⟩;clear HO;go_loopw [15] (fun i wr=>∃k:Nat,k<=rl/\i=.int .i64 k/\eQ wr (w.heap.size+1+1) (w.heap.size+1+1) rl k F G/\Below ((w.alloc (.cells #[.slice ca cl cc,.slice (some ⟨b,off,none⟩) rl rc] 28)).alloc (.cells #[.slice none 0 0,.slice none 0 0] 28)).heap.size ((w.alloc (.cells #[.slice ca cl cc,.slice (some ⟨b,off,none⟩) rl rc] 28)).alloc (.cells #[.slice none 0 0,.slice none 0 0] 28)) wr) (fun i _=>rl - (intOf i).toNat)
 case atStart=>exact ⟨0,Nat.zero_le _,rfl,rD.out,hb3⟩
 case round =>
  obtain ⟨k,hk,rfl,hO,hbl⟩:=hrel;have HO:Hid (eQ wr (w.heap.size+1+1) (w.heap.size+1+1) rl k F G):=hO;clear rD hb3 k0 k1 k2 k3 k4 k5 hz3 hB3;obtain ⟨⟨k0,k1⟩,⟨k2,k3⟩,⟨k4,k5⟩,hz3,hB3⟩:=boxes hbl;by_cases hlt:k < rl
  ·obtain ⟨xa,xl,xc,hFk,c0,c1,c2,c3⟩:=HRC.out k hlt;have d0:=Xp.out k hlt;rw [<-(Ee hB3).1 b _ hbs] at c0 c1;rw [<-(Ee hB3).1 mb _ hms] at d0;obtain ⟨⟨⟨u,u0⟩,v,v0⟩,u1,v1⟩:=hO.cell' k hlt;have hg:=hO.lt.2;clear hO c2 c3;have Xn:Hid _:=hFk;clear hFk;generalize (R[k]?.getD ([],0)).2=mk at c1;generalize hsx:G k=x at d0;have HSX:Hid _:=hsx;clear hsx;have Mh:Hid _:=hbl;have He:mb < wr.heap.size:=by have:=hB3.size;omega
   clear hbl;go_wp2_with fail
   all_goals go_roundw
   all_goals first
        | (simp [intOf];omega)
        | exact ⟨k+1,hlt,by go_num,eQ.below (eQ.store HO.out hlt Xn.out.symm HSX.out.symm) (af _ _),ai (aV (aV Mh.out (by simp) _) (by simp) _) (af _ _)⟩
  ·have hke:k=rl:=by omega
   subst hke;clear hO;go_wp2_with fail;have hB4:Below w.heap.size w ((wr.setCell ⟨w.heap.size+1,0,none⟩ (.slice ca cl cc)).setCell ⟨w.heap.size+1,1,none⟩ (.slice (some ⟨w.heap.size+1+1,0,none⟩) k k)):=aV (aV hB3 (by omega) _) (by omega) _;refine bodyPost_ret (v:=.agg #[.slice ca cl cc,.slice (some ⟨w.heap.size+1+1,0,none⟩) k k]) (by simp [results,Tryz.results134,go_sem,k2,k3]) rfl ?_;refine ⟨w.heap.size+1+1,rfl,?_,hB4⟩;refine eQ.rows (eQ.lV (eQ.lV HO.out (by omega) _) (by omega) _) (by rw [Num.OZ];exact kz.out) (fun j hj=>?_) (fun j hj=>?_)
   ·obtain ⟨xa,xl,xc,f1,_,_,f4,f5⟩:=HRC.out j hj;refine ⟨xa,xl,xc,f1,?_,f5⟩;rw [Num.EN R y j (by have:=kz.out;omega)];exact f4.below hB4 (Nat.le_refl _)
   ·rw [Num.EN R y j (by have:=kz.out;omega),HG.out]
end Go.Proofs.YtipcbhodlgoflabGreatDoor
