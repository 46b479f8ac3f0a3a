/- What solve.prices does. -/
import Derived.Test.YtipcbhodlgoflabGreatDoorSlvAE
import Derived.Deep.CutRange
import Derived.Test.YtipcbhodlgoflabGreatDoorPrfAB
set_option maxHeartbeats 3200000
set_option maxRecDepth 4000
namespace Go.Proofs.YtipcbhodlgoflabGreatDoor
open Go.RowKit
theorem Num.Qx (p:Num.Lp) (at':List Int) (m n c:Nat) (au:p.may=true) (hm:m=p.rows.length) (hn:n=p.costs.length) (hr:Num.aH at' m (n+m)=true) (hd:Num.aF p at' m≠0) :
  (Num.look (Num.bR p c) at').y.length=m/\(1<=(Num.look (Num.bR p c) at').yd/\(Num.look (Num.bR p c) at').yd<=497664)/\∀i:Nat,-796262400<=(Num.look (Num.bR p c) at').y[i]?.getD 0/\(Num.look (Num.bR p c) at').y[i]?.getD 0<=796262400:=by
 have h1:1<=m:=by have:=(p.aj au).2.2.1.1;omega
 have h4:m<=4:=by have:=(p.aj au).2.2.1.2;omega
 have vm:=Num.Ky p c au;have vr:m=(Num.bR p c).rows.length:=hm;have vn:n=(Num.bR p c).costs.length:=by rw [Num.qX];exact hn
 have hd':Num.aF (Num.bR p c) at' m≠0:=by rw [Num.Kz];exact hd
 have hb:=Num.jA (Num.bR p c) at' m vm h1 h4;have pb:=Num.qR (Num.bR p c) at' m vm vr;obtain ⟨g,g0,q1,q2,q3,q4,q5,q6,q7⟩:=Num.rF (Num.av (Num.bR p c) at' m) (Num.aF (Num.bR p c) at' m) hd' (by omega) (fun j=>by have:=pb j;omega) (by unfold Num.av Num.aL;simp;omega);have hy:(Num.look (Num.bR p c) at').y=(Num.pt (Num.av (Num.bR p c) at' m) (Num.aF (Num.bR p c) at' m)).1/\(Num.look (Num.bR p c) at').yd=(Num.pt (Num.av (Num.bR p c) at' m) (Num.aF (Num.bR p c) at' m)).2.1:=by unfold Num.look;rw [if_neg (by simp [vm]),if_neg (by rw [<-vr,<-vn,hr];decide),if_neg (by rw [<-vr];exact hd'),<-vr];exact ⟨rfl,rfl⟩
 refine ⟨by rw [hy.1,q2];unfold Num.av Num.aL;simp,by rw [hy.2];omega,fun i=>?_⟩;rw [hy.1];have:=q7 i;have:=pb i;omega
theorem Ints.setAt {w:World} {g n:Nat} {l:List Int} (h:Ints w (some ⟨g,0,none⟩) n l) (k:Nat) (hk:k < n) (v:Int) : Ints (w.setCell ⟨g,k,none⟩ (.int .i64 v)) (some ⟨g,0,none⟩) n (l.set k v):=by
 obtain ⟨h1,h2⟩:=h;refine ⟨by rw [List.length_set];exact h1,?_⟩;rcases h2 with h2|⟨b,off,ha,hs,hc⟩
 ·omega
 ·simp only [Option.some.injEq,Addr.mk.injEq,and_true] at ha;obtain ⟨rfl,rfl⟩:=ha;refine Or.inr ⟨g,0,rfl,by simpa using hs,fun j hj=>?_⟩;rw [Nat.zero_add];have hcj:=hc j hj;rw [Nat.zero_add] at hcj;by_cases hjk:j=k
  ·subst hjk;rw [World.cell?_setCell_same' _ _ _ (by rw [hcj];rfl),List.getElem?_set_self (by omega)];rfl
  ·rw [World.cell?_setCell_other _ _ _ _ (by intro e;injection e with _ e2;exact hjk e2.symm),List.getElem?_set_ne (fun e=>hjk e.symm)];exact hcj
theorem I6 (ca:Option Addr) (cl cc:Nat) (ra:Option Addr) (rl rc:Nat) (p:Num.Lp) (w:World) (hc:Ints w ca cl p.costs) (hr:ay w ra rl p.rows) (hm:p.may=true)
  (aa:Option Addr) (al ac:Nat) (at':List Int) (ha:Ints w aa al at') (pJ:Num.aH at' rl (cl+rl)=true) (hd:Num.aF p at' rl≠0) (j:Nat) (hj:j < cl+rl) :
  Calls Tryz.prog 90 #[.agg #[.slice ca cl cc,.slice ra rl rc],.slice aa al ac,.int .i64 j] w fun e w'=>∃g yc,e=.returned (.agg #[.slice (some ⟨g,0,none⟩) rl yc,.int .i64 1])/\w.heap.size<=g/\Ints w' (some ⟨g,0,none⟩) rl (Num.dZ p at' j)/\Below w.heap.size w w':=by
 have HC:Hid (Ints w ca cl p.costs):=hc;have HR:Hid (ay w ra rl p.rows):=hr;have HA:Hid (Ints w aa al at'):=ha;have HM:Hid (p.may=true):=hm;have hc4:cl<=4/\1<=cl:=by have:=hc.1;have:=(p.aj hm).1;omega
 have hr4:rl<=4/\1<=rl:=by have:=hr.1;have:=(p.aj hm).2.2.1;omega
 have YA:al<=4:=by have:=ha.1;have:=(Num.bf at' rl _ pJ).1;omega
 obtain ⟨hyl,Yb,hyb⟩:=Num.Qx p at' rl cl j hm hr.1 hc.1 pJ hd;have HPN:Hid (Num.dZ p at' j=if j < cl then (Num.look (Num.bR p j) at').y else (Num.look (Num.bR p j) at').y.set (j - cl) ((Num.look (Num.bR p j) at').y[j - cl]?.getD 0+(Num.look (Num.bR p j) at').yd)):=by rw [hc.1];rfl
 have Qu:Hid _:=hyl;have RF:Hid _:=hyb;clear hc hr ha hm pJ hd hyl hyb;have KV:Hid (∀w',Below w.heap.size w w'->Calls Tryz.prog 122 #[.agg #[.slice ca cl cc,.slice ra rl rc],.int .i64 j] w' fun e w''=>∃g,e=.returned (.agg #[.slice (some ⟨g,0,none⟩) cl cl,.slice ra rl rc])/\Ints w'' (some ⟨g,0,none⟩) cl (Num.bR p j).costs/\Below w'.heap.size w' w''):=fun w' h =>
  FV ca cl cc ra rl rc p w' (Ints.below HC.out h (Nat.le_refl _)) (ay.below HR.out h (Nat.le_refl _)) HM.out j hj
 have KL:Hid (∀w' g,Below w.heap.size w w'->Ints w' (some ⟨g,0,none⟩) cl (Num.bR p j).costs->Calls Tryz.prog 23 #[.agg #[.slice (some ⟨g,0,none⟩) cl cl,.slice ra rl rc],.slice aa al ac] w' fun e w''=>∃xa xl xc ga gl gc dx dg er gy yc,e=.returned (.tuple #[.agg #[.slice xa xl xc,.int .i64 dx,.slice (some ⟨gy,0,none⟩) rl yc,.int .i64 (Num.look (Num.bR p j) at').yd,.slice ga gl gc,.int .i64 dg],.int .i64 er])/\
   Ints w'' (some ⟨gy,0,none⟩) rl (Num.look (Num.bR p j) at').y/\w'.heap.size<=gy/\gy < w''.heap.size/\(∀k,w''.frozen? ⟨gy,k,none⟩=false)/\Below w'.heap.size w' w''):=by
  intro w' g h hi;refine (lU _ _ _ _ _ _ (Num.bR p j) w' hi (by omega) (ay.below HR.out h (Nat.le_refl _)) (by omega) _ _ _ at' (Ints.below HA.out h (Nat.le_refl _)) (by omega)).mono ?_;rintro e w'' ⟨xa,xl,xc,ya,yl,yc,ga,gl,gc,rfl,hx,hy,_,_,_,_,hb,_,hN⟩;have hyl:yl=rl:=by have:=hy.1;have:=Qu.out;omega
  subst hyl;rcases hN.y with h0|⟨gy,rfl,hgy⟩
  ·omega
  ·obtain ⟨f1,f2⟩:=hN.w gy rfl;exact ⟨xa,xl,xc,ga,gl,gc,_,_,_,gy,yc,rfl,hy,hgy,f1,f2,hb⟩
 generalize Num.look (Num.bR p j) at'=L at *;obtain ⟨er,lx,dx,ly,dy,lg,dg⟩:=L;dsimp only at *;have HB0:Hid _:=oV (Below.refl ((w.alloc (.cells #[.slice ca cl cc,.slice ra rl rc] 28)).alloc (.cells #[.slice none 0 0,.int .i64 0] 64)).heap.size ((w.alloc (.cells #[.slice ca cl cc,.slice ra rl rc] 28)).alloc (.cells #[.slice none 0 0,.int .i64 0] 64)));go_enter Tryz.func90,Tryz.ntmps90;go_wp2_with fail;refine (KV.out _ HB0.out.2.2.2.2).mono ?_;rintro e w1 ⟨g1,rfl,hi1,hb1⟩;have HI1:Hid (Ints w1 (some ⟨g1,0,none⟩) cl (Num.bR p j).costs):=hi1;clear hi1;go_wp2_with fail;refine (KL.out _ _ (oV hb1).2.2.2.2 HI1.out).mono ?_;rintro e w2 ⟨xa,xl,xc,ga,gl,gc,ux,ug,ur,gy,yc,rfl,G5,hgy,ag4,hfz,hb2⟩;have RP:Hid (Ints w2 (some ⟨gy,0,none⟩) rl ly):=G5;have vk:=ai hb1 hb2;have aF8:w.heap.size+1 < w1.heap.size:=(oV hb1).2.2.2.1;clear G5 hb1 hb2 KV KL HB0 HI1;have hsx:=H5.new w2 (.slice xa xl xc) (.int .i64 ux) (.slice (some ⟨gy,0,none⟩) rl yc) (.int .i64 dy) (.slice ga gl gc) (.int .i64 ug) 75;have c2:=hsx.c2;have c3:=hsx.c3;have hbW:=hsx.dS;have Qy:Hid (Ints (w2.alloc (.cells #[.slice xa xl xc,.int .i64 ux,.slice (some ⟨gy,0,none⟩) rl yc,.int .i64 dy,.slice ga gl gc,.int .i64 ug] 75)) (some ⟨gy,0,none⟩) rl ly):=Ints.below RP.out hbW (Nat.le_refl _);have YR:∀k,(w2.alloc (.cells #[.slice xa xl xc,.int .i64 ux,.slice (some ⟨gy,0,none⟩) rl yc,.int .i64 dy,.slice ga gl gc,.int .i64 ug] 75)).frozen? ⟨gy,k,none⟩=false:=fun k=>by rw [hbW.frozen (p:=⟨gy,k,none⟩) ag4];exact hfz k
 have Na:=ai vk hbW;have hbc:=hsx.hi;clear hsx RP hfz vk;go_upto_region 2 with fail;generalize YS:w2.alloc (.cells #[.slice xa xl xc,.int .i64 ux,.slice (some ⟨gy,0,none⟩) rl yc,.int .i64 dy,.slice ga gl gc,.int .i64 ug] 75)=W at *;clear hbW YS;generalize w2.heap.size=bc at *;by_cases hjc:j < cl
 ·have WH:Hid (Num.dZ p at' j=ly):=by show _=_;rw [HPN.out,if_pos hjc]
  obtain ⟨d,hdd⟩ : ∃d:Int,d=(j:Int) - (cl:Int):=⟨_,rfl⟩;have hd0:decide (0<=d)=false:=decide_eq_false (by omega);have hs2:IntKind.i64.wrap ((j:Int) - (cl:Int))=d:=by rw [IntWalk.i64_left,hdd];exact IntWalk.wrap64_in _ (by omega)
  have hs1:wrap64 ((j:Int) - (cl:Int))=d:=by rw [hdd];exact IntWalk.wrap64_in _ (by omega)
  clear hdd;obtain ⟨⟨k0,k1⟩,⟨k2,k3⟩,⟨k4,k5⟩,hz,hB⟩:=oV Na;go_wp2_with fail;refine bodyPost_ret (v:=.agg #[.slice (some ⟨gy,0,none⟩) rl yc,.int .i64 1]) (by simp [results,Tryz.results90,go_sem,k2,k3]) rfl ⟨gy,yc,rfl,by omega,?_,?_⟩
  ·rw [WH.out];exact Ints.jU (Ints.jU Qy.out (by omega) _) (by omega) _
  ·exact aV (aV hB (by omega) _) (by omega) _
 ·obtain ⟨r,Xt⟩ : ∃r:Nat,j=cl+r:=⟨j - cl,by omega⟩;have hrr:r < rl:=by omega
  have WH:Hid (Num.dZ p at' j=ly.set r (ly[r]?.getD 0+dy)):=by show _=_;rw [HPN.out,if_neg hjc,show j - cl=r by omega]
  have hs2:IntKind.i64.wrap ((j:Int) - (cl:Int))=r:=by rw [IntWalk.i64_left,show (j:Int) - (cl:Int)=r by omega];exact IntWalk.wrap64_in _ (by omega)
  have hs1:wrap64 ((j:Int) - (cl:Int))=r:=by rw [show (j:Int) - (cl:Int)=r by omega];exact IntWalk.wrap64_in _ (by omega)
  have hrI:(r:Int) < (rl:Int):=by omega
  obtain ⟨⟨k0,k1⟩,⟨k2,k3⟩,⟨k4,k5⟩,hz,hB⟩:=oV Na;rcases Qy.out.2 with h|⟨b',o',ha',hb',hc'⟩
  ·omega
  simp only [Option.some.injEq,Addr.mk.injEq,and_true] at ha';obtain ⟨rfl,rfl⟩:=ha';have hcy:=hc' r hrr;rw [Nat.zero_add] at hcy;have Hy:=YR r;have hbd:=RF.out r;clear hc' hjc Xt YR;generalize ly[r]?.getD 0=y at *;have hw1:wrap64 (y+dy)=y+dy:=IntWalk.wrap64_in _ (by omega);have hgb:(gy=bc)=False:=by simp;omega
  have hgb':(bc=gy)=False:=by simp;omega
  have hgw:(gy=w.heap.size+1)=False:=by simp;omega
  have aF9:(w.heap.size+1=gy)=False:=by simp;omega
  go_wp2_with fail;go_region;have g2:(W.setCell ⟨gy,r,none⟩ (.int .i64 (y+dy))).cell? ⟨w.heap.size+1,0,none⟩=some (.slice none 0 0):=by rw [World.cell?_setCell_other _ _ _ _ (by simp)];exact k2
  have g3:(W.setCell ⟨gy,r,none⟩ (.int .i64 (y+dy))).cell? ⟨w.heap.size+1,1,none⟩=some (.int .i64 0):=by rw [World.cell?_setCell_other _ _ _ _ (by simp)];exact k3
  go_wp2_with fail;refine bodyPost_ret (v:=.agg #[.slice (some ⟨gy,0,none⟩) rl yc,.int .i64 1]) (by simp [results,Tryz.results90,go_sem,g2,g3]) rfl ⟨gy,yc,rfl,by omega,?_,?_⟩
  ·rw [WH.out];exact Ints.jU (Ints.jU (Ints.setAt Qy.out r hrr (y+dy)) (by omega) _) (by omega) _
  ·have h1:w.heap.size<=gy:=by omega
   have h2:w.heap.size<=w.heap.size+1:=by omega
   first|exact aV (aV (aV hB h1 _) h2 _) h2 _|exact aV (aV (aV hB h1 _).drew h2 _) h2 _|exact aV (aV (aV hB.drew h1 _) h2 _) h2 _|exact (aV (aV (aV hB h1 _) h2 _) h2 _).drew
open Go.RowKit
structure iT (b:Nat) (v0 v1 v2 v3 v4 v5 v6 v7 v8:Value) (w:World) : Prop where
 c0:w.cell? ⟨b,0,none⟩=some v0
 c1:w.cell? ⟨b,1,none⟩=some v1
 c2:w.cell? ⟨b,2,none⟩=some v2
 c3:w.cell? ⟨b,3,none⟩=some v3
 c4:w.cell? ⟨b,4,none⟩=some v4
 c5:w.cell? ⟨b,5,none⟩=some v5
 c6:w.cell? ⟨b,6,none⟩=some v6
 c7:w.cell? ⟨b,7,none⟩=some v7
 c8:w.cell? ⟨b,8,none⟩=some v8
 fz:∀i,w.frozen? ⟨b,i,none⟩=false
theorem iT.new (w:World) (v0 v1 v2 v3 v4 v5 v6 v7 v8:Value) (t:TypeId) : iT w.heap.size v0 v1 v2 v3 v4 v5 v6 v7 v8 (w.alloc (.cells #[v0,v1,v2,v3,v4,v5,v6,v7,v8] t)) :=
 ⟨by simp,by simp,by simp,by simp,by simp,by simp,by simp,by simp,by simp,fun i=>by go_simp⟩
theorem iT.lt {b:Nat} {v0 v1 v2 v3 v4 v5 v6 v7 v8:Value} {w:World} (h:iT b v0 v1 v2 v3 v4 v5 v6 v7 v8 w) : b < w.heap.size:=World.block_lt_of_cell? w _ h.c0
theorem iT.step {b:Nat} {v0 v1 v2 v3 v4 v5 v6 v7 v8:Value} {w w':World} (h:iT b v0 v1 v2 v3 v4 v5 v6 v7 v8 w) (hb:Below w.heap.size w w') : iT b v0 v1 v2 v3 v4 v5 v6 v7 v8 w' :=
 ⟨carry hb h.c0,carry hb h.c1,carry hb h.c2,carry hb h.c3,carry hb h.c4,carry hb h.c5,carry hb h.c6,carry hb h.c7,carry hb h.c8,fun i=>by rw [hb.frozen (p:=⟨b,i,none⟩) h.lt];exact h.fz i⟩
theorem iT.set {b:Nat} {v0 v1 v2 v3 v4 v5 v6 v7 v8:Value} {w:World} (h:iT b v0 v1 v2 v3 v4 v5 v6 v7 v8 w) (u0 u1 u2 u3 u4 u5 u6 u7 u8:Value) (X:World) (hX:X=((((((((w.setCell ⟨b,0,none⟩ u0).setCell ⟨b,1,none⟩ u1).setCell ⟨b,2,none⟩ u2).setCell ⟨b,3,none⟩ u3).setCell ⟨b,4,none⟩ u4).setCell ⟨b,5,none⟩ u5).setCell ⟨b,6,none⟩ u6).setCell ⟨b,7,none⟩ u7).setCell ⟨b,8,none⟩ u8) : iT b u0 u1 u2 u3 u4 u5 u6 u7 u8 X:=by
 subst hX;refine ⟨?_,?_,?_,?_,?_,?_,?_,?_,?_,fun i=>by simpa using h.fz i⟩
 ·rw [ag (by decide),ag (by decide),ag (by decide),ag (by decide),ag (by decide),ag (by decide),ag (by decide),ag (by decide)];exact aN (by exact h.c0)
 ·rw [ag (by decide),ag (by decide),ag (by decide),ag (by decide),ag (by decide),ag (by decide),ag (by decide)];exact aN (by rw [ag (by decide)];exact h.c1)
 ·rw [ag (by decide),ag (by decide),ag (by decide),ag (by decide),ag (by decide),ag (by decide)];exact aN (by rw [ag (by decide),ag (by decide)];exact h.c2)
 ·rw [ag (by decide),ag (by decide),ag (by decide),ag (by decide),ag (by decide)];exact aN (by rw [ag (by decide),ag (by decide),ag (by decide)];exact h.c3)
 ·rw [ag (by decide),ag (by decide),ag (by decide),ag (by decide)];exact aN (by rw [ag (by decide),ag (by decide),ag (by decide),ag (by decide)];exact h.c4)
 ·rw [ag (by decide),ag (by decide),ag (by decide)];exact aN (by rw [ag (by decide),ag (by decide),ag (by decide),ag (by decide),ag (by decide)];exact h.c5)
 ·rw [ag (by decide),ag (by decide)];exact aN (by rw [ag (by decide),ag (by decide),ag (by decide),ag (by decide),ag (by decide),ag (by decide)];exact h.c6)
 ·rw [ag (by decide)];exact aN (by rw [ag (by decide),ag (by decide),ag (by decide),ag (by decide),ag (by decide),ag (by decide),ag (by decide)];exact h.c7)
 ·exact aN (by rw [ag (by decide),ag (by decide),ag (by decide),ag (by decide),ag (by decide),ag (by decide),ag (by decide),ag (by decide)];exact h.c8)
theorem BM {B:Nat} {a w:World} (h:Below B a w) {b:Nat} (hg:B<=b) (u0 u1 u2 u3 u4 u5 u6 u7 u8:Value) : Below B a (((((((((w.setCell ⟨b,0,none⟩ u0).setCell ⟨b,1,none⟩ u1).setCell ⟨b,2,none⟩ u2).setCell ⟨b,3,none⟩ u3).setCell ⟨b,4,none⟩ u4).setCell ⟨b,5,none⟩ u5).setCell ⟨b,6,none⟩ u6).setCell ⟨b,7,none⟩ u7).setCell ⟨b,8,none⟩ u8) :=
 aV (aV (aV (aV (aV (aV (aV (aV (aV h hg _) hg _) hg _) hg _) hg _) hg _) hg _) hg _) hg _
theorem Ints.AA {w:World} {a:Option Addr} {n b:Nat} {l:List Int} (h:Ints w a n l) (hf:n=0\/∃g,a=some ⟨g,0,none⟩/\b+1<=g) (u0 u1 u2 u3 u4 u5 u6 u7 u8:Value) : Ints (((((((((w.setCell ⟨b,0,none⟩ u0).setCell ⟨b,1,none⟩ u1).setCell ⟨b,2,none⟩ u2).setCell ⟨b,3,none⟩ u3).setCell ⟨b,4,none⟩ u4).setCell ⟨b,5,none⟩ u5).setCell ⟨b,6,none⟩ u6).setCell ⟨b,7,none⟩ u7).setCell ⟨b,8,none⟩ u8) a n l :=
 Ints.set (base:=b+1) (Ints.set (base:=b+1) (Ints.set (base:=b+1) (Ints.set (base:=b+1) (Ints.set (base:=b+1) (Ints.set (base:=b+1) (Ints.set (base:=b+1) (Ints.set (base:=b+1) (Ints.set (base:=b+1) h hf (Nat.lt_succ_self b) _) hf (Nat.lt_succ_self b) _) hf (Nat.lt_succ_self b) _) hf (Nat.lt_succ_self b) _) hf (Nat.lt_succ_self b) _) hf (Nat.lt_succ_self b) _) hf (Nat.lt_succ_self b) _) hf (Nat.lt_succ_self b) _) hf (Nat.lt_succ_self b) _
theorem WI {w w1:World} {a b c d e f g h v0 v1 v2 v3 v4 v5 v6 v7 v8:Value} {t u s:TypeId} (hb:Below (((w.alloc (.cells #[a,b] t)).alloc (.cells #[c,d,e,f,g,h] u)).alloc (.cells #[v0,v1,v2,v3,v4,v5,v6,v7,v8] s)).heap.size (((w.alloc (.cells #[a,b] t)).alloc (.cells #[c,d,e,f,g,h] u)).alloc (.cells #[v0,v1,v2,v3,v4,v5,v6,v7,v8] s)) w1) :
  (w1.cell? ⟨w.heap.size,0,none⟩=some a/\w1.cell? ⟨w.heap.size,1,none⟩=some b)/\w1.cell? ⟨w.heap.size+1,0,none⟩=some c/\iT (w.heap.size+1+1) v0 v1 v2 v3 v4 v5 v6 v7 v8 w1/\w.heap.size+1+1 < w1.heap.size/\Below w.heap.size w w1:=by
 have hN:=(iT.new ((w.alloc (.cells #[a,b] t)).alloc (.cells #[c,d,e,f,g,h] u)) v0 v1 v2 v3 v4 v5 v6 v7 v8 s).step hb;rw [World.size_alloc,World.size_alloc] at hN;have hS:=carry hb (carry (af _ (.cells #[v0,v1,v2,v3,v4,v5,v6,v7,v8] s)) (H5.new (w.alloc (.cells #[a,b] t)) c d e f g h u).c0);rw [World.size_alloc] at hS;exact ⟨⟨carry hb (carry (af _ _) (carry (af _ _) (aU rfl a b t).1)),carry hb (carry (af _ _) (carry (af _ _) (aU rfl a b t).2))⟩,hS,hN,hN.lt,dN (dN (dN hb))⟩
abbrev Lc (g rl yc:Nat) : Value:=.agg #[.int .i64 3,.slice none 0 0,.int .i64 0,.slice (some ⟨g,0,none⟩) rl yc,.int .i64 1,.slice none 0 0,.int .i64 0,.int .i64 0,.int .i64 0]
abbrev Nb:Value:=.agg #[.int .i64 0,.slice none 0 0,.int .i64 0,.slice none 0 0,.int .i64 0,.slice none 0 0,.int .i64 0,.int .i64 0,.int .i64 0]
theorem Gc (ca:Option Addr) (cl cc:Nat) (ra:Option Addr) (rl rc:Nat) (p:Num.Lp) (w:World) (hc:Ints w ca cl p.costs) (hr:ay w ra rl p.rows) (hm:p.may=true)
  (aa:Option Addr) (al ac:Nat) (at':List Int) (ha:Ints w aa al at') (pJ:Num.aH at' rl (cl+rl)=true) (hd:Num.aF p at' rl≠0)
  (xa:Option Addr) (xc:Nat) (x:List Int) (hx:Ints w xa (cl+rl) x) (v1 v2 v3 v4 v5:Value) :
  Calls Tryz.prog 49 #[.agg #[.slice ca cl cc,.slice ra rl rc],.slice aa al ac,.agg #[.slice xa (cl+rl) xc,v1,v2,v3,v4,v5]] w fun e w'=>Below w.heap.size w w'/\
   ((∃g yc k,k < rl/\e=.returned (.tuple #[Lc g rl yc,.bool true])/\w.heap.size<=g/\Ints w' (some ⟨g,0,none⟩) rl (Num.dZ p at' (Num.aZ at' k))/\Num.holds p (Num.qo p at' (Num.aZ at' k))=true)\/
    (e=.returned (.tuple #[Nb,.bool false])/\∀k,k < rl->x[Num.aZ at' k]?.getD 0 < 0->Num.holds p (Num.qo p at' (Num.aZ at' k))=false)):=by
 have HC:Hid (Ints w ca cl p.costs):=hc;have HR:Hid (ay w ra rl p.rows):=hr;have HA:Hid (Ints w aa al at'):=ha;have HX:Hid (Ints w xa (cl+rl) x):=hx;have HM:Hid (p.may=true):=hm;have WJ:Hid (Num.aH at' rl (cl+rl)=true):=pJ;have HD:Hid (Num.aF p at' rl≠0):=hd;have hc4:cl<=4/\1<=cl:=by have:=hc.1;have:=(p.aj hm).1;omega
 have hr4:rl<=4/\1<=rl:=by have:=hr.1;have:=(p.aj hm).2.2.1;omega
 have OW:al=rl:=by have:=ha.1;have:=(Num.bf at' rl _ pJ).1;omega
 clear hc hr ha hx hm pJ hd;subst OW;generalize hV:((w.alloc (.cells #[.slice ca cl cc,.slice ra al rc] 28)).alloc (.cells #[.slice xa (cl+al) xc,v1,v2,v3,v4,v5] 75)).alloc (.cells #[.int .i64 0,.slice none 0 0,.int .i64 0,.slice none 0 0,.int .i64 0,.slice none 0 0,.int .i64 0,.int .i64 0,.int .i64 0] 68)=V;have HV:Hid (∀w1,Below V.heap.size V w1->(w1.cell? ⟨w.heap.size,0,none⟩=some (.slice ca cl cc)/\w1.cell? ⟨w.heap.size,1,none⟩=some (.slice ra al rc))/\w1.cell? ⟨w.heap.size+1,0,none⟩=some (.slice xa (cl+al) xc)/\iT (w.heap.size+1+1) (.int .i64 0) (.slice none 0 0) (.int .i64 0) (.slice none 0 0) (.int .i64 0) (.slice none 0 0) (.int .i64 0) (.int .i64 0) (.int .i64 0) w1/\w.heap.size+1+1 < w1.heap.size/\Below w.heap.size w w1):=by intro w1 hb;rw [<-hV] at hb;exact WI hb
 go_enter Tryz.func49,Tryz.ntmps49;go_wp2_with fail
 (try rw [hV])
 go_loopw [13] (fun i wr=>∃k:Nat,k<=al/\i=.int .i64 k/\Below V.heap.size V wr/\∀q,q < k->x[Num.aZ at' q]?.getD 0 < 0->Num.holds p (Num.qo p at' (Num.aZ at' q))=false) (fun i _=>al - (intOf i).toNat)
 case atStart=>exact ⟨0,Nat.zero_le _,rfl,Below.refl _ _,fun q hq=>by omega⟩
 case round =>
  obtain ⟨k,hk,rfl,hbl,hno⟩:=hrel;have Ec:Hid (∀q,q < k->x[Num.aZ at' q]?.getD 0 < 0->Num.holds p (Num.qo p at' (Num.aZ at' q))=false):=hno;clear hno hV;obtain ⟨⟨b0,b1⟩,b2,hN,hz,hB⟩:=HV.out wr hbl;by_cases hlt:k < al
  ·obtain ⟨j,hj1,hj2,ZT⟩ : ∃j:Nat,at'[k]?.getD 0=(j:Int)/\j < cl+al/\Num.aZ at' k=j:=⟨(at'[k]?.getD 0).toNat,by have:=(Num.bf at' al _ WJ.out).2 k hlt;omega,by have:=(Num.bf at' al _ WJ.out).2 k hlt;omega,rfl⟩;rcases (Ints.below HA.out hB (Nat.le_refl _)).2 with h|⟨ab,ao,hae,hab,hac⟩
   ·omega
   rcases (Ints.below HX.out hB (Nat.le_refl _)).2 with h|⟨xb,xo,hxe,hxs,qA⟩
   ·omega
   have ca1:=hac k hlt;rw [hj1] at ca1;have cx:=qA j hj2;have Z0:Hid (Num.aZ at' k=j):=ZT;have HXV:Hid (∀v,x[j]?.getD 0=v->x[Num.aZ at' k]?.getD 0=v):=fun v h=>by rw [Z0.out];exact h
   have hjI:(j:Int) < (cl:Int)+(al:Int):=by omega
   clear hac qA hj1 ZT;generalize hxj:x[j]?.getD 0=xj at *;clear hxj;by_cases hneg:0<=xj
   ·have hd1:decide (0<=xj)=true:=decide_eq_true hneg;subst hae hxe;go_wp2_with fail;go_roundw
    case rel=>exact ⟨k+1,hlt,by go_num,hbl,fun q hq hx=>by
     by_cases hqk:q=k
     ·subst hqk;rw [HXV.out xj rfl] at hx;omega
     ·exact Ec.out q (by omega) hx⟩
    case measure=>simp [intOf];omega
   ·have hd1:decide (0<=xj)=false:=decide_eq_false hneg;have KP:Hid (Calls Tryz.prog 90 #[.agg #[.slice ca cl cc,.slice ra al rc],.slice aa al ac,.int .i64 j] wr fun e w'=>∃g yc,e=.returned (.agg #[.slice (some ⟨g,0,none⟩) al yc,.int .i64 1])/\wr.heap.size<=g/\Ints w' (some ⟨g,0,none⟩) al (Num.dZ p at' j)/\Below wr.heap.size wr w') :=
     I6 ca cl cc ra al rc p wr (Ints.below HC.out hB (Nat.le_refl _)) (ay.below HR.out hB (Nat.le_refl _)) HM.out aa al ac at' (Ints.below HA.out hB (Nat.le_refl _)) WJ.out HD.out j hj2
    subst hae hxe;go_wp2_with fail;refine KP.out.mono ?_;rintro e w1 ⟨g,yc,rfl,hg,G5,hb1⟩;have RP:Hid (Ints w1 (some ⟨g,0,none⟩) al (Num.dZ p at' j)):=G5;have kP:=ai hbl hb1;clear KP G5 b0 b1 b2 hN ca1 cx;have hN1:=iT.new w1 (.int .i64 3) (.slice none 0 0) (.int .i64 0) (.slice (some ⟨g,0,none⟩) al yc) (.int .i64 1) (.slice none 0 0) (.int .i64 0) (.int .i64 0) (.int .i64 0) 68;have hbW:=af w1 (.cells #[.int .i64 3,.slice none 0 0,.int .i64 0,.slice (some ⟨g,0,none⟩) al yc,.int .i64 1,.slice none 0 0,.int .i64 0,.int .i64 0,.int .i64 0] 68);have WK:Hid (Ints (w1.alloc (.cells #[.int .i64 3,.slice none 0 0,.int .i64 0,.slice (some ⟨g,0,none⟩) al yc,.int .i64 1,.slice none 0 0,.int .i64 0,.int .i64 0,.int .i64 0] 68)) (some ⟨g,0,none⟩) al (Num.dZ p at' j)):=Ints.below RP.out hbW (Nat.le_refl _);go_upto_region 6 with fail;generalize YS:w1.alloc (.cells #[.int .i64 3,.slice none 0 0,.int .i64 0,.slice (some ⟨g,0,none⟩) al yc,.int .i64 1,.slice none 0 0,.int .i64 0,.int .i64 0,.int .i64 0] 68)=W at *;have jT:=ai kP hbW;generalize w1.heap.size=b9 at *;clear YS hbW RP kP hb1;obtain ⟨⟨b0,b1⟩,b2,_,hz2,hB2⟩:=HV.out W jT;obtain ⟨a0,a1,a2,a3,a4,a5,a6,a7,a8,_⟩:=hN1;have KH:Hid (Calls Tryz.prog 91 #[.agg #[.slice ca cl cc,.slice ra al rc],Lc g al yc] W fun e w'=>e=.returned (.bool (Num.holds p (Num.qo p at' j)))/\Below W.heap.size W w') :=
     I4 ca cl cc ra al rc p W (Ints.below HC.out hB2 (Nat.le_refl _)) (by omega) (ay.below HR.out hB2 (Nat.le_refl _)) (by omega) (Num.qo p at' j) none 0 0 (some ⟨g,0,none⟩) al yc none 0 0 (Ints.empty _) WK.out (by omega) (Ints.empty _) rfl
    go_wp2_with fail;refine KH.out.mono ?_;rintro e w2 ⟨rfl,hb2⟩;have IQ:=ai jT hb2;obtain ⟨⟨e0,e1⟩,e2,wR,hz3,hB3⟩:=HV.out w2 IQ;have Qy:Hid (Ints w2 (some ⟨g,0,none⟩) al (Num.dZ p at' j)):=Ints.below WK.out hb2 (Nat.le_refl _);have d0:=carry hb2 a0;have d1:=carry hb2 a1;have d2:=carry hb2 a2;have d3:=carry hb2 a3;have d4:=carry hb2 a4;have d5:=carry hb2 a5;have d6:=carry hb2 a6;have d7:=carry hb2 a7;have d8:=carry hb2 a8;clear KH b0 b1 b2 a0 a1 a2 a3 a4 a5 a6 a7 a8 hb2 jT WK;cases hh:Num.holds p (Num.qo p at' j) with
    | true =>
     obtain ⟨n0,n1,n2,n3,n4,n5,n6,n7,n8,nf⟩:=wR;have f0:=nf 0;have f1:=nf 1;have f2:=nf 2;have f3:=nf 3;have f4:=nf 4;have f5:=nf 5;have f6:=nf 6;have f7:=nf 7;have f8:=nf 8;have Gb:Hid _:=(HV.out w2 IQ).2.2.1;have hgl:w.heap.size+1+1+1<=g:=by omega
     clear nf;go_wp2_with fail;generalize hX:((((((((w2.setCell ⟨w.heap.size+1+1,0,none⟩ (.int .i64 3)).setCell ⟨w.heap.size+1+1,1,none⟩ (.slice none 0 0)).setCell ⟨w.heap.size+1+1,2,none⟩ (.int .i64 0)).setCell ⟨w.heap.size+1+1,3,none⟩ (.slice (some ⟨g,0,none⟩) al yc)).setCell ⟨w.heap.size+1+1,4,none⟩ (.int .i64 1)).setCell ⟨w.heap.size+1+1,5,none⟩ (.slice none 0 0)).setCell ⟨w.heap.size+1+1,6,none⟩ (.int .i64 0)).setCell ⟨w.heap.size+1+1,7,none⟩ (.int .i64 0)).setCell ⟨w.heap.size+1+1,8,none⟩ (.int .i64 0)=X;obtain ⟨x0,x1,x2,x3,x4,x5,x6,x7,x8,_⟩:=iT.set Gb.out _ _ _ _ _ _ _ _ _ X hX.symm;refine bodyPost_ret (v:=.tuple #[Lc g al yc,.bool true]) (by simp [results,Tryz.results49,go_sem,Lc,x0,x1,x2,x3,x4,x5,x6,x7,x8]) rfl ⟨?_,Or.inl ⟨g,yc,k,hlt,rfl,by omega,?_,by rw [Z0.out];exact hh⟩⟩
     ·rw [<-hX];exact BM hB3 (by omega) _ _ _ _ _ _ _ _ _
     ·rw [<-hX,Z0.out];exact Ints.AA Qy.out (Or.inr ⟨g,rfl,by omega⟩) _ _ _ _ _ _ _ _ _
    | false =>
     clear wR;go_wp2_with fail;go_roundw
     case rel=>exact ⟨k+1,hlt,by go_num,IQ,fun q hq hx=>by
      by_cases hqk:q=k
      ·subst hqk;rw [Z0.out];exact hh
      ·exact Ec.out q (by omega) hx⟩
     case measure=>simp [intOf];omega
  ·have hke:k=al:=by omega
   subst hke;obtain ⟨n0,n1,n2,n3,n4,n5,n6,n7,n8,nf⟩:=hN;have f0:=nf 0;have f1:=nf 1;have f2:=nf 2;have f3:=nf 3;have f4:=nf 4;have f5:=nf 5;have f6:=nf 6;have f7:=nf 7;have f8:=nf 8;have Gb:Hid _:=(HV.out wr hbl).2.2.1;clear nf;go_wp2_with fail;generalize hX:((((((((wr.setCell ⟨w.heap.size+1+1,0,none⟩ (.int .i64 0)).setCell ⟨w.heap.size+1+1,1,none⟩ (.slice none 0 0)).setCell ⟨w.heap.size+1+1,2,none⟩ (.int .i64 0)).setCell ⟨w.heap.size+1+1,3,none⟩ (.slice none 0 0)).setCell ⟨w.heap.size+1+1,4,none⟩ (.int .i64 0)).setCell ⟨w.heap.size+1+1,5,none⟩ (.slice none 0 0)).setCell ⟨w.heap.size+1+1,6,none⟩ (.int .i64 0)).setCell ⟨w.heap.size+1+1,7,none⟩ (.int .i64 0)).setCell ⟨w.heap.size+1+1,8,none⟩ (.int .i64 0)=X;obtain ⟨x0,x1,x2,x3,x4,x5,x6,x7,x8,_⟩:=iT.set Gb.out _ _ _ _ _ _ _ _ _ X hX.symm;refine bodyPost_ret (v:=.tuple #[Nb,.bool false]) (by simp [results,Tryz.results49,go_sem,Nb,x0,x1,x2,x3,x4,x5,x6,x7,x8]) rfl ⟨?_,Or.inr ⟨rfl,Ec.out⟩⟩;rw [<-hX];exact BM hB (by omega) _ _ _ _ _ _ _ _ _
open Go.RowKit
theorem U6 {w w1:World} {a b v0 v1 v2 v3 v4 v5 v6 v7 v8:Value} {t s:TypeId} (hb:Below ((w.alloc (.cells #[a,b] t)).alloc (.cells #[v0,v1,v2,v3,v4,v5,v6,v7,v8] s)).heap.size ((w.alloc (.cells #[a,b] t)).alloc (.cells #[v0,v1,v2,v3,v4,v5,v6,v7,v8] s)) w1) :
  (w1.cell? ⟨w.heap.size,0,none⟩=some a/\w1.cell? ⟨w.heap.size,1,none⟩=some b)/\iT (w.heap.size+1) v0 v1 v2 v3 v4 v5 v6 v7 v8 w1/\w.heap.size+1 < w1.heap.size/\Below w.heap.size w w1:=by
 have hN:=(iT.new (w.alloc (.cells #[a,b] t)) v0 v1 v2 v3 v4 v5 v6 v7 v8 s).step hb;rw [World.size_alloc] at hN;exact ⟨⟨carry hb (carry (af _ _) (aU rfl a b t).1),carry hb (carry (af _ _) (aU rfl a b t).2)⟩,hN,hN.lt,dN (dN hb)⟩
theorem Ints.take {w:World} {a:Option Addr} {n k:Nat} {l:List Int} (h:Ints w a n l) (hk:k<=n) : Ints w a k (l.take k):=by
 obtain ⟨h1,h2⟩:=h;refine ⟨by rw [List.length_take];omega,?_⟩;rcases h2 with h2|⟨b,off,ha,hs,hc⟩
 ·exact Or.inl (by omega)
 ·exact Or.inr ⟨b,off,ha,hs,fun j hj=>by rw [List.getElem?_take,if_pos hj];exact hc j (by omega)⟩
structure dH (b:Nat) (V w:World) : Prop where
 size:V.heap.size<=w.heap.size
 same:∀j,j < V.heap.size->j≠b->w.heap[j]? = V.heap[j]?
 nine:∃v0 v1 v2 v3 v4 v5 v6 v7 v8 t,w.heap[b]? = some (.cells #[v0,v1,v2,v3,v4,v5,v6,v7,v8] t)
theorem dH.below {b:Nat} {V w w':World} (h:dH b V w) (hb:Below w.heap.size w w') : dH b V w':=by
 refine ⟨Nat.le_trans h.size hb.size,fun j hj hne=>?_,?_⟩
 ·rw [hb.block j (Nat.lt_of_lt_of_le hj h.size)];exact h.same j hj hne
 ·obtain ⟨v0,v1,v2,v3,v4,v5,v6,v7,v8,t,e⟩:=h.nine;have hr:b < w.heap.size:=by
   rcases Nat.lt_or_ge b w.heap.size with h|h
   ·exact h
   ·rw [Array.getElem?_eq_none h] at e;cases e
  exact ⟨v0,v1,v2,v3,v4,v5,v6,v7,v8,t,by rw [hb.block b hr];exact e⟩
theorem dH.drew {b:Nat} {V w:World} (h:dH b V w) : dH b V w.drew:=⟨h.size,h.same,h.nine⟩
theorem dH.cell {b:Nat} {V w:World} (h:dH b V w) {p:Addr} {v:Value} (hp:p.block≠b) (hc:V.cell? p=some v) : w.cell? p=some v:=by rw [World.cell?_of_block (h.same p.block (World.block_lt_of_cell? V p hc) hp)];exact hc
theorem dH.set {b:Nat} {V w:World} (h:dH b V w) (i:Nat) (u:Value) (hi:i < 9) : dH b V (w.setCell ⟨b,i,none⟩ u):=by
 refine ⟨by simpa using h.size,fun j hj hne=>?_,?_⟩
 ·rw [Below.heap_setCell _ _ _ j hne];exact h.same j hj hne
 ·obtain ⟨v0,v1,v2,v3,v4,v5,v6,v7,v8,t,e⟩:=h.nine
  match i,hi with
  | 0,_=>exact ⟨u,v1,v2,v3,v4,v5,v6,v7,v8,t,by simpa using Joins.block_setCell (i:=0) e u⟩
  | 1,_=>exact ⟨v0,u,v2,v3,v4,v5,v6,v7,v8,t,by simpa using Joins.block_setCell (i:=1) e u⟩
  | 2,_=>exact ⟨v0,v1,u,v3,v4,v5,v6,v7,v8,t,by simpa using Joins.block_setCell (i:=2) e u⟩
  | 3,_=>exact ⟨v0,v1,v2,u,v4,v5,v6,v7,v8,t,by simpa using Joins.block_setCell (i:=3) e u⟩
  | 4,_=>exact ⟨v0,v1,v2,v3,u,v5,v6,v7,v8,t,by simpa using Joins.block_setCell (i:=4) e u⟩
  | 5,_=>exact ⟨v0,v1,v2,v3,v4,u,v6,v7,v8,t,by simpa using Joins.block_setCell (i:=5) e u⟩
  | 6,_=>exact ⟨v0,v1,v2,v3,v4,v5,u,v7,v8,t,by simpa using Joins.block_setCell (i:=6) e u⟩
  | 7,_=>exact ⟨v0,v1,v2,v3,v4,v5,v6,u,v8,t,by simpa using Joins.block_setCell (i:=7) e u⟩
  | 8,_=>exact ⟨v0,v1,v2,v3,v4,v5,v6,v7,u,t,by simpa using Joins.block_setCell (i:=8) e u⟩
theorem dH.AA {b:Nat} {V w:World} (h:dH b V w) (u0 u1 u2 u3 u4 u5 u6 u7 u8:Value) : dH b V (((((((((w.setCell ⟨b,0,none⟩ u0).setCell ⟨b,1,none⟩ u1).setCell ⟨b,2,none⟩ u2).setCell ⟨b,3,none⟩ u3).setCell ⟨b,4,none⟩ u4).setCell ⟨b,5,none⟩ u5).setCell ⟨b,6,none⟩ u6).setCell ⟨b,7,none⟩ u7).setCell ⟨b,8,none⟩ u8) :=
 dH.set (dH.set (dH.set (dH.set (dH.set (dH.set (dH.set (dH.set (dH.set h 0 u0 (by decide)) 1 u1 (by decide)) 2 u2 (by decide)) 3 u3 (by decide)) 4 u4 (by decide)) 5 u5 (by decide)) 6 u6 (by decide)) 7 u7 (by decide)) 8 u8 (by decide)
theorem dH.cells {b:Nat} {V:World} : ∃F0 F1 F2 F3 F4 F5 F6 F7 F8:World->Value,(∀w,dH b V w->w.cell? ⟨b,0,none⟩=some (F0 w))/\(∀w,dH b V w->w.cell? ⟨b,1,none⟩=some (F1 w))/\(∀w,dH b V w->w.cell? ⟨b,2,none⟩=some (F2 w))/\(∀w,dH b V w->w.cell? ⟨b,3,none⟩=some (F3 w))/\(∀w,dH b V w->w.cell? ⟨b,4,none⟩=some (F4 w))/\(∀w,dH b V w->w.cell? ⟨b,5,none⟩=some (F5 w))/\(∀w,dH b V w->w.cell? ⟨b,6,none⟩=some (F6 w))/\(∀w,dH b V w->w.cell? ⟨b,7,none⟩=some (F7 w))/\(∀w,dH b V w->w.cell? ⟨b,8,none⟩=some (F8 w))/\(∀w,dH b V w->w.frozen? ⟨b,0,none⟩=false)/\(∀w,dH b V w->w.frozen? ⟨b,1,none⟩=false)/\(∀w,dH b V w->w.frozen? ⟨b,2,none⟩=false)/\(∀w,dH b V w->w.frozen? ⟨b,3,none⟩=false)/\(∀w,dH b V w->w.frozen? ⟨b,4,none⟩=false)/\(∀w,dH b V w->w.frozen? ⟨b,5,none⟩=false)/\(∀w,dH b V w->w.frozen? ⟨b,6,none⟩=false)/\(∀w,dH b V w->w.frozen? ⟨b,7,none⟩=false)/\(∀w,dH b V w->w.frozen? ⟨b,8,none⟩=false):=by
 refine ⟨fun w=>(w.cell? ⟨b,0,none⟩).getD undef,fun w=>(w.cell? ⟨b,1,none⟩).getD undef,fun w=>(w.cell? ⟨b,2,none⟩).getD undef,fun w=>(w.cell? ⟨b,3,none⟩).getD undef,fun w=>(w.cell? ⟨b,4,none⟩).getD undef,fun w=>(w.cell? ⟨b,5,none⟩).getD undef,fun w=>(w.cell? ⟨b,6,none⟩).getD undef,fun w=>(w.cell? ⟨b,7,none⟩).getD undef,fun w=>(w.cell? ⟨b,8,none⟩).getD undef,?_,?_,?_,?_,?_,?_,?_,?_,?_,?_,?_,?_,?_,?_,?_,?_,?_,?_⟩
 ·intro w h;obtain ⟨v0,v1,v2,v3,v4,v5,v6,v7,v8,t,e⟩:=h.nine;show w.cell? ⟨b,0,none⟩=some ((w.cell? ⟨b,0,none⟩).getD undef);rw [Joins.cell_of_block e];simp
 ·intro w h;obtain ⟨v0,v1,v2,v3,v4,v5,v6,v7,v8,t,e⟩:=h.nine;show w.cell? ⟨b,1,none⟩=some ((w.cell? ⟨b,1,none⟩).getD undef);rw [Joins.cell_of_block e];simp
 ·intro w h;obtain ⟨v0,v1,v2,v3,v4,v5,v6,v7,v8,t,e⟩:=h.nine;show w.cell? ⟨b,2,none⟩=some ((w.cell? ⟨b,2,none⟩).getD undef);rw [Joins.cell_of_block e];simp
 ·intro w h;obtain ⟨v0,v1,v2,v3,v4,v5,v6,v7,v8,t,e⟩:=h.nine;show w.cell? ⟨b,3,none⟩=some ((w.cell? ⟨b,3,none⟩).getD undef);rw [Joins.cell_of_block e];simp
 ·intro w h;obtain ⟨v0,v1,v2,v3,v4,v5,v6,v7,v8,t,e⟩:=h.nine;show w.cell? ⟨b,4,none⟩=some ((w.cell? ⟨b,4,none⟩).getD undef);rw [Joins.cell_of_block e];simp
 ·intro w h;obtain ⟨v0,v1,v2,v3,v4,v5,v6,v7,v8,t,e⟩:=h.nine;show w.cell? ⟨b,5,none⟩=some ((w.cell? ⟨b,5,none⟩).getD undef);rw [Joins.cell_of_block e];simp
 ·intro w h;obtain ⟨v0,v1,v2,v3,v4,v5,v6,v7,v8,t,e⟩:=h.nine;show w.cell? ⟨b,6,none⟩=some ((w.cell? ⟨b,6,none⟩).getD undef);rw [Joins.cell_of_block e];simp
 ·intro w h;obtain ⟨v0,v1,v2,v3,v4,v5,v6,v7,v8,t,e⟩:=h.nine;show w.cell? ⟨b,7,none⟩=some ((w.cell? ⟨b,7,none⟩).getD undef);rw [Joins.cell_of_block e];simp
 ·intro w h;obtain ⟨v0,v1,v2,v3,v4,v5,v6,v7,v8,t,e⟩:=h.nine;show w.cell? ⟨b,8,none⟩=some ((w.cell? ⟨b,8,none⟩).getD undef);rw [Joins.cell_of_block e];simp
 ·intro w h;obtain ⟨v0,v1,v2,v3,v4,v5,v6,v7,v8,t,e⟩:=h.nine;exact Joins.unfrozen_of_block e 0
 ·intro w h;obtain ⟨v0,v1,v2,v3,v4,v5,v6,v7,v8,t,e⟩:=h.nine;exact Joins.unfrozen_of_block e 1
 ·intro w h;obtain ⟨v0,v1,v2,v3,v4,v5,v6,v7,v8,t,e⟩:=h.nine;exact Joins.unfrozen_of_block e 2
 ·intro w h;obtain ⟨v0,v1,v2,v3,v4,v5,v6,v7,v8,t,e⟩:=h.nine;exact Joins.unfrozen_of_block e 3
 ·intro w h;obtain ⟨v0,v1,v2,v3,v4,v5,v6,v7,v8,t,e⟩:=h.nine;exact Joins.unfrozen_of_block e 4
 ·intro w h;obtain ⟨v0,v1,v2,v3,v4,v5,v6,v7,v8,t,e⟩:=h.nine;exact Joins.unfrozen_of_block e 5
 ·intro w h;obtain ⟨v0,v1,v2,v3,v4,v5,v6,v7,v8,t,e⟩:=h.nine;exact Joins.unfrozen_of_block e 6
 ·intro w h;obtain ⟨v0,v1,v2,v3,v4,v5,v6,v7,v8,t,e⟩:=h.nine;exact Joins.unfrozen_of_block e 7
 ·intro w h;obtain ⟨v0,v1,v2,v3,v4,v5,v6,v7,v8,t,e⟩:=h.nine;exact Joins.unfrozen_of_block e 8
abbrev Gd (a:Num.pK) (xa:Option Addr) (xl xc:Nat) (ya:Option Addr) (yl yc:Nat) (za:Option Addr) (zl zc:Nat) : Value :=
 .agg #[.int .i64 a.kind,.slice xa xl xc,.int .i64 a.xd,.slice ya yl yc,.int .i64 a.yd,.slice za zl zc,.int .i64 a.rd,.int .i64 a.wn,.int .i64 a.wd]
structure nR (B:Nat) (w:World) (a:Num.pK) (xa:Option Addr) (xl:Nat) (ya:Option Addr) (yl:Nat) (za:Option Addr) (zl:Nat) : Prop where
 x:Ints w xa xl a.x
 y:Ints w ya yl a.y
 r:Ints w za zl a.r
 x8:xl<=8
 y8:yl<=8
 z8:zl<=8
 xf:xl=0\/∃g,xa=some ⟨g,0,none⟩/\B<=g
 yf:yl=0\/∃g,ya=some ⟨g,0,none⟩/\B<=g
 zf:zl=0\/∃g,za=some ⟨g,0,none⟩/\B<=g
theorem Num.Gf (p:Num.Lp) (at':List Int) (l:List (List Int)) (k er:Int) (m n:Nat) (au:p.may=true) (hm:m=p.rows.length) (hn:n=p.costs.length) (hg:Num.Good p at' m n) (h:Num.ik p at' l k er) :
  ∃K,l.length=K+1/\Num.Good p (l[K]?.getD []) m n/\Num.cz p (l[K]?.getD [])=([],k,0)/\k≠0:=by
 rcases h with ⟨he,_,_,hne⟩|⟨_,_,hw⟩
 ·rcases Num.jd p at' m n au hm hn with ⟨e,_,_,h2⟩|⟨_,⟨k',_,_,h1⟩|⟨nx,s,k',h1,_⟩⟩
  ·exact absurd hg h2
  ·rw [hne] at h1;simp only [Prod.mk.injEq] at h1;exact absurd h1.2.2 he
  ·rw [hne] at h1;simp only [Prod.mk.injEq] at h1;exact absurd h1.2.2 he
 ·have hgs:=(Num.ql au hw).1;obtain ⟨K,a1,_,_,a4,a5⟩:=hw;refine ⟨K,a1,?_,a4,a5⟩;have:=hgs K (by omega);rw [<-hm,<-hn] at this;exact this
set_option maxRecDepth 12000 in
theorem I7 (ca:Option Addr) (cl cc:Nat) (ra:Option Addr) (rl rc:Nat) (p:Num.Lp) (w:World) (hc:Ints w ca cl p.costs) (hr:ay w ra rl p.rows) (hm:p.may=true)
  (aa:Option Addr) (al ac:Nat) (at':List Int) (ha:Ints w aa al at') (hg:Num.Good p at' rl cl) :
  Calls Tryz.prog 48 #[.agg #[.slice ca cl cc,.slice ra rl rc],.slice aa al ac] w fun e w'=>∃a xa xl xc ya yl yc za zl zc,e=.returned (Gd a xa xl xc ya yl yc za zl zc)/\nR w.heap.size w' a xa xl ya yl za zl/\Num.holds p a=true/\Below w.heap.size w w':=by
 have HC:Hid (Ints w ca cl p.costs):=hc;have HR:Hid (ay w ra rl p.rows):=hr;have HA:Hid (Ints w aa al at'):=ha;have HM:Hid (p.may=true):=hm;have HG:Hid (Num.Good p at' rl cl):=hg;have kZ:Hid (cl=p.costs.length):=hc.1;have kz:Hid (rl=p.rows.length):=hr.1;have hc4:cl<=4/\1<=cl:=by have:=hc.1;have:=(p.aj hm).1;omega
 have hr4:rl<=4/\1<=rl:=by have:=hr.1;have:=(p.aj hm).2.2.1;omega
 have YA:al<=4:=by have:=ha.1;have:=(Num.bf at' rl _ hg.right).1;omega
 clear hc hr ha hm hg;generalize hV:(w.alloc (.cells #[.slice ca cl cc,.slice ra rl rc] 28)).alloc (.cells #[.int .i64 0,.slice none 0 0,.int .i64 0,.slice none 0 0,.int .i64 0,.slice none 0 0,.int .i64 0,.int .i64 0,.int .i64 0] 68)=V;have HV:Hid (∀w1,Below V.heap.size V w1->(w1.cell? ⟨w.heap.size,0,none⟩=some (.slice ca cl cc)/\w1.cell? ⟨w.heap.size,1,none⟩=some (.slice ra rl rc))/\iT (w.heap.size+1) (.int .i64 0) (.slice none 0 0) (.int .i64 0) (.slice none 0 0) (.int .i64 0) (.slice none 0 0) (.int .i64 0) (.int .i64 0) (.int .i64 0) w1/\w.heap.size+1 < w1.heap.size/\Below w.heap.size w w1):=by intro w1 hb;rw [<-hV] at hb;exact U6 hb
 have HVR:Hid (∀w1,Below V.heap.size V w1->w1.heap[w.heap.size+1]? = some (.cells #[.int .i64 0,.slice none 0 0,.int .i64 0,.slice none 0 0,.int .i64 0,.slice none 0 0,.int .i64 0,.int .i64 0,.int .i64 0] 68)):=by intro w1 hb;rw [<-hV] at hb;rw [hb.block _ (by simp)];exact fM (by simp) _
 obtain ⟨⟨i0,i1⟩,_,_,hB0⟩:=HV.out V (Below.refl _ _);go_enter Tryz.func48,Tryz.ntmps48;go_wp2_with fail
 (try rw [hV])
 refine (zn ca cl cc ra rl rc p V (Ints.below HC.out hB0 (Nat.le_refl _)) (by omega) (ay.below HR.out hB0 (Nat.le_refl _)) (by omega) aa al ac at' (Ints.below HA.out hB0 (Nat.le_refl _)) (by omega)).mono ?_;rintro e w1 ⟨la,ll,lc,k,er,rfl,l,hlin,hll,hwk,hb1⟩;obtain ⟨K,hlK,Tx,hnK,hk0⟩:=Num.Gf p at' l k er rl cl HM.out kz.out kZ.out HG.out hwk;have ag5:ll=K+1:=by have:=hlin.1;omega
 subst ag5;rcases hlin.2 with h|⟨lb,lo,hla,hlb,hlc⟩
 ·omega
 obtain ⟨ta,tl,tc,ct,hit⟩:=hlc K (by omega);clear hlc hlin hwk hlK;generalize l[K]?.getD []=t at *;have htl:tl=rl:=by have:=hit.1;have:=(Num.bf t rl _ Tx.right).1;omega
 subst htl;have HIT:Hid (Ints w1 ta tl t):=hit;have Xy:Hid (Num.Good p t tl cl):=Tx;have HNK:Hid (Num.cz p t=([],k,0)):=hnK;have hKI:(K:Int) < 4096:=by omega
 clear hit Tx hnK hV;obtain ⟨⟨b0,b1⟩,_,hz1,hB1⟩:=HV.out w1 hb1;subst hla;go_wp2_with fail;refine (lU ca cl cc ra tl rc p w1 (Ints.below HC.out hB1 (Nat.le_refl _)) (by omega) (ay.below HR.out hB1 (Nat.le_refl _)) (by omega) ta tl tc t HIT.out (by omega)).mono ?_;rintro e w2 ⟨xa,xl,xc,ya,yl,yc,ga,gl,gc,rfl,hix,G5,hig,TS,hy8,YE,hb2,⟨Ot,hyc,hgc⟩,hnew⟩;obtain ⟨hlx,_⟩:=(Num.bK p t tl cl HM.out kz.out kZ.out Xy.out.right Xy.out.den).2;have hxl:xl=cl+tl:=by have:=hix.1;omega
 subst hxl;rcases hnew.x with h|⟨gx,rfl,hgx⟩
 ·omega
 have hny:=hnew.y;have hsx:=H5.new w2 (.slice (some ⟨gx,0,none⟩) (cl+tl) xc) (.int .i64 (Num.look p t).xd) (.slice ya yl yc) (.int .i64 (Num.look p t).yd) (.slice ga gl gc) (.int .i64 (Num.look p t).gd) 75;have hbW:=hsx.dS;have Ak:=ai (ai hb1 hb2) hbW;have kQ:Hid (Ints (w2.alloc (.cells #[.slice (some ⟨gx,0,none⟩) (cl+tl) xc,.int .i64 (Num.look p t).xd,.slice ya yl yc,.int .i64 (Num.look p t).yd,.slice ga gl gc,.int .i64 (Num.look p t).gd] 75)) (some ⟨gx,0,none⟩) (cl+tl) (Num.look p t).x):=Ints.below hix hbW (Nat.le_refl _);have RP:Hid (Ints (w2.alloc (.cells #[.slice (some ⟨gx,0,none⟩) (cl+tl) xc,.int .i64 (Num.look p t).xd,.slice ya yl yc,.int .i64 (Num.look p t).yd,.slice ga gl gc,.int .i64 (Num.look p t).gd] 75)) ya yl (Num.look p t).y):=Ints.below G5 hbW (Nat.le_refl _);have yn:Hid (Ints (w2.alloc (.cells #[.slice (some ⟨gx,0,none⟩) (cl+tl) xc,.int .i64 (Num.look p t).xd,.slice ya yl yc,.int .i64 (Num.look p t).yd,.slice ga gl gc,.int .i64 (Num.look p t).gd] 75)) ga gl (Num.look p t).g):=Ints.below hig hbW (Nat.le_refl _);have YT:Hid (Ints (w2.alloc (.cells #[.slice (some ⟨gx,0,none⟩) (cl+tl) xc,.int .i64 (Num.look p t).xd,.slice ya yl yc,.int .i64 (Num.look p t).yd,.slice ga gl gc,.int .i64 (Num.look p t).gd] 75)) ta tl t):=Ints.below (Ints.below HIT.out hb2 (Nat.le_refl _)) hbW (Nat.le_refl _);go_upto_region 4 with fail;obtain ⟨_,_,s0,s1,s2,s3,s4,s5,_⟩:=hsx;generalize YS:w2.alloc (.cells #[.slice (some ⟨gx,0,none⟩) (cl+tl) xc,.int .i64 (Num.look p t).xd,.slice ya yl yc,.int .i64 (Num.look p t).yd,.slice ga gl gc,.int .i64 (Num.look p t).gd] 75)=W at *;have hbc2:w.heap.size+1+1<=w2.heap.size:=by have:=hb2.size;omega
 generalize w2.heap.size=bc at *;have hg2:w.heap.size+1+1<=w1.heap.size:=by omega
 have HNY:Hid (yl=0\/∃g,ya=some ⟨g,0,none⟩/\w.heap.size+1+1<=g):=bG hny (by omega);clear YS hbW hix G5 hig HIT hb1 hb2 hnew hny b0 b1 ct i0 i1 hlb hB0 hB1;obtain ⟨⟨b0,b1⟩,_,hz2,hB2⟩:=HV.out W Ak;have q0:∀w',Below W.heap.size W w'->w'.cell? ⟨bc,0,none⟩=some (.slice (some ⟨gx,0,none⟩) (cl+tl) xc):=fun w' h=>carry h s0;have q1:∀w',Below W.heap.size W w'->w'.cell? ⟨bc,1,none⟩=some (.int .i64 (Num.look p t).xd):=fun w' h=>carry h s1;have q2:∀w',Below W.heap.size W w'->w'.cell? ⟨w.heap.size,0,none⟩=some (.slice ca cl cc):=fun w' h=>carry h b0;have ag6:cl<=xc:=by omega
 have aG3:(cl:Int)<=(xc:Int):=by omega
 have KP:Hid (∀w',Below W.heap.size W w'->Calls Tryz.prog 59 #[.slice (some ⟨gx,0,none⟩) cl xc,.int .i64 (Num.look p t).xd] w' fun e w''=>∃g pc,e=.returned (.tuple #[.agg #[.slice (some ⟨g,0,none⟩) cl pc,.int .i64 (Num.bH p t).2.1],.int .i64 0])/\Below W.heap.size W w''/\Ints w'' (some ⟨g,0,none⟩) cl (Num.bH p t).1/\w'.heap.size<=g/\Below w'.heap.size w' w''):=by
  intro w' h;obtain ⟨v1,v2,_,_⟩:=Num.Lb p t tl cl HM.out kz.out kZ.out Xy.out;have hpt:Num.pt ((Num.look p t).x.take cl) (Num.look p t).xd=((Num.bH p t).1,(Num.bH p t).2.1,0):=by
   have:Num.bH p t=Num.pt ((Num.look p t).x.take cl) (Num.look p t).xd:=by unfold Num.bH;rw [<-kZ.out]
   rw [<-this,<-v1]
  refine (LF (Num.look p t).xd (some ⟨gx,0,none⟩) cl xc ((Num.look p t).x.take cl) w' (Ints.take (Ints.below kQ.out h (Nat.le_refl _)) (by omega)) (by omega) _ _ _ hpt).mono ?_;rintro e w'' ⟨a',n',c',rfl,h1,_,h3,h4⟩;have hn':n'=cl:=by have:=h1.1;omega
  subst hn';rcases h4 with h4|⟨g,rfl,h4⟩
  ·omega
  ·exact ⟨g,c',rfl,ai h h3,h1,h4,h3⟩
 have HS:Hid ((W.cell? ⟨bc,0,none⟩=some (.slice (some ⟨gx,0,none⟩) (cl+tl) xc)/\W.cell? ⟨bc,1,none⟩=some (.int .i64 (Num.look p t).xd))/\(W.cell? ⟨bc,2,none⟩=some (.slice ya yl yc)/\W.cell? ⟨bc,3,none⟩=some (.int .i64 (Num.look p t).yd))/\W.cell? ⟨bc,4,none⟩=some (.slice ga gl gc)/\W.cell? ⟨bc,5,none⟩=some (.int .i64 (Num.look p t).gd)):=⟨⟨s0,s1⟩,⟨s2,s3⟩,s4,s5⟩;have ag7:=World.block_lt_of_cell? W _ s0;dsimp only at ag7;have ag8:Hid (gl=(Num.look p t).g.length):=yn.out.1;clear s0 s1 s2 s3 s4 s5 b0 b1 hlx hgx ag6 hKI hll;go_cut [11,12] from 34 to 47 (fun s11 s12 wx=>∃bx g pc:Nat,s11=.pointer (some ⟨bx,0,none⟩)/\s12=.int .i64 0/\Hid (nk W wx bx (some ⟨g,0,none⟩) cl pc (Num.bH p t).2.1 (Num.bH p t).1/\w.heap.size+1+1<=g))
 case first =>
  go_region_held3 (fun w'=>Below W.heap.size W w') (first|(with_reducible assumption)|(with_reducible exact (Below.refl _ _).drew)|(with_reducible exact ((Below.refl _ _).alloc (Nat.le_refl _) _).drew)|(with_reducible refine Below.alloc ?_ ?_ _<;>first|(with_reducible assumption)|(apply Below.size;with_reducible assumption))|(with_reducible refine aV (aV ?_ ?_ _) ?_ _<;>first|(with_reducible assumption)|(with_reducible exact Nat.le_refl _)|(apply Below.size;with_reducible assumption)))
   (first|(go_at_call 59;refine (KP.out _ ?_).mono ?_;(with_reducible assumption);rintro e v1 ⟨g,pc,rfl,hb1,hI1,hg1,hk1⟩;(first|(with_reducible have Z4:=fO hk1)|(with_reducible have Z4:=lQ hk1)|skip)))
  ·rename_i hfin;clear q0 q1 q2 KP;have HLD:Hid (nk W (v1.alloc (.cells #[.slice (some ⟨g,0,none⟩) cl pc,.int .i64 (Num.bH p t).2.1] 64)) v1.heap.size (some ⟨g,0,none⟩) cl pc (Num.bH p t).2.1 (Num.bH p t).1/\w.heap.size+1+1<=g):=⟨UK hb1 hI1,by simp at hg1;omega⟩;clear hI1 hfin;go_wp2_with fail;go_meet;exact ⟨_,g,pc,rfl,rfl,HLD⟩
  ·rename_i hfin;clear q0 q1 q2 KP;have HLD:Hid (nk W ((v1.setCell ⟨W.heap.size,0,none⟩ (.slice (some ⟨g,0,none⟩) cl pc)).setCell ⟨W.heap.size,1,none⟩ (.int .i64 (Num.bH p t).2.1)) W.heap.size (some ⟨g,0,none⟩) cl pc (Num.bH p t).2.1 (Num.bH p t).1/\w.heap.size+1+1<=g):=⟨EL hb1 hI1 Z4 (Nat.le_refl _) (Or.inr ⟨g,rfl,by simpa using hg1⟩),by simp at hg1;omega⟩;clear hI1 hfin Z4;go_wp2_with fail;go_meet;exact ⟨_,g,pc,rfl,rfl,HLD⟩
 case rest =>
  obtain ⟨bx,g,pc,rfl,rfl,hld⟩:=hcut;obtain ⟨⟨hbw,l0,l1,YU,hlo,hhi⟩,hgg⟩:=hld.out;have TW:=ai Ak hbw;obtain ⟨⟨b0,b1⟩,hN9,hz3,hB3⟩:=HV.out wc TW;obtain ⟨⟨s0,s1⟩,⟨s2,s3⟩,s4,s5⟩:=HS.out;replace s0:=carry hbw s0;replace s1:=carry hbw s1;replace s2:=carry hbw s2;replace s3:=carry hbw s3;replace s4:=carry hbw s4;replace s5:=carry hbw s5;have WL:Hid (Ints wc (some ⟨g,0,none⟩) cl (Num.bH p t).1):=YU;have ah0:Hid (Ints wc ya yl (Num.look p t).y):=Ints.below RP.out hbw (Nat.le_refl _);have ah1:Hid (Ints wc ga gl (Num.look p t).g):=Ints.below yn.out hbw (Nat.le_refl _);have ah2:Hid (Ints wc ta tl t):=Ints.below YT.out hbw (Nat.le_refl _);have aG4:w.heap.size+1 < W.heap.size:=hz2;clear YU HS kQ RP yn YT KP q0 q1 q2 hld;obtain ⟨ah3,hholds⟩:=Num.DJ p t tl cl HM.out kz.out kZ.out Xy.out k HNK.out hk0;have Z5:Hid (Num.holds p (Num.lD p t k)=true):=hholds;clear hholds;rcases ah3 with hk1|hk2
  ·have hkd:(k == 2)=false:=by rw [hk1];decide
   have YV:Hid (Num.lD p t k=⟨k,(Num.bH p t).1,(Num.bH p t).2.1,(Num.look p t).y,(Num.look p t).yd,[],0,(Num.worth p (Num.bH p t).1 (Num.bH p t).2.1).1,(Num.worth p (Num.bH p t).1 (Num.bH p t).2.1).2.1⟩):=by show _=_;unfold Num.lD;rw [if_neg (by omega)]
   obtain ⟨u,v,z,WM⟩ : ∃u v z,Num.worth p (Num.bH p t).1 (Num.bH p t).2.1=(u,v,z):=⟨_,_,_,rfl⟩;have KW:Hid (Calls Tryz.prog 89 #[.agg #[.slice ca cl cc,.slice ra tl rc],.agg #[.slice (some ⟨g,0,none⟩) cl pc,.int .i64 (Num.bH p t).2.1]] wc fun e w'=>e=.returned (.tuple #[.agg #[.int .i64 u,.int .i64 v],.int .i64 z])/\Below wc.heap.size wc w') :=
    LH ca cl cc ra tl rc p wc (Ints.below HC.out hB3 (Nat.le_refl _)) (by omega) (ay.below HR.out hB3 (Nat.le_refl _)) (by omega) (some ⟨g,0,none⟩) cl pc (Num.bH p t).1 (Num.bH p t).2.1 WL.out (by omega) u v z WM
   rw [WM] at YV;have ah4:Hid (Num.lD p t k=⟨k,(Num.bH p t).1,(Num.bH p t).2.1,(Num.look p t).y,(Num.look p t).yd,[],0,u,v⟩):=YV.out;clear hk1 YV WM;go_wp2_with fail;refine KW.out.mono ?_;rintro e w3 ⟨rfl,hb3⟩;have e0:=carry (af w3 (.cells #[.int .i64 u,.int .i64 v] 66)) (carry hb3 l0);have e1:=carry (af w3 (.cells #[.int .i64 u,.int .i64 v] 66)) (carry hb3 l1);have e2:=carry (af w3 (.cells #[.int .i64 u,.int .i64 v] 66)) (carry hb3 s2);have e3:=carry (af w3 (.cells #[.int .i64 u,.int .i64 v] 66)) (carry hb3 s3);have e4:=(aU (w:=w3) rfl (.int .i64 u) (.int .i64 v) 66).1;have e5:=(aU (w:=w3) rfl (.int .i64 u) (.int .i64 v) 66).2;have hb4:=ai hb3 (af w3 (.cells #[.int .i64 u,.int .i64 v] 66));go_upto_region 8 with fail;generalize hW4:w3.alloc (.cells #[.int .i64 u,.int .i64 v] 66)=w4 at *;generalize w3.heap.size=b3 at *;clear hW4 hb3 KW;have H8:=ai TW hb4;obtain ⟨_,YW,hz4,hB4⟩:=HV.out w4 H8;have TY:Hid _:=YW;obtain ⟨n0,n1,n2,n3,n4,n5,n6,n7,n8,nf⟩:=YW;have f0:=nf 0;have f1:=nf 1;have f2:=nf 2;have f3:=nf 3;have f4:=nf 4;have f5:=nf 5;have f6:=nf 6;have f7:=nf 7;have f8:=nf 8;have Nc:Hid (Ints w4 (some ⟨g,0,none⟩) cl (Num.bH p t).1):=Ints.below WL.out hb4 (Nat.le_refl _);have ah6:Hid (Ints w4 ya yl (Num.look p t).y):=Ints.below ah0.out hb4 (Nat.le_refl _);clear nf hN9 l0 l1 s0 s1 s2 s3 s4 s5 b0 b1;go_wp2_with fail;generalize hX:((((((((w4.setCell ⟨w.heap.size+1,0,none⟩ (.int .i64 k)).setCell ⟨w.heap.size+1,1,none⟩ (.slice (some ⟨g,0,none⟩) cl pc)).setCell ⟨w.heap.size+1,2,none⟩ (.int .i64 (Num.bH p t).2.1)).setCell ⟨w.heap.size+1,3,none⟩ (.slice ya yl yc)).setCell ⟨w.heap.size+1,4,none⟩ (.int .i64 (Num.look p t).yd)).setCell ⟨w.heap.size+1,5,none⟩ (.slice none 0 0)).setCell ⟨w.heap.size+1,6,none⟩ (.int .i64 0)).setCell ⟨w.heap.size+1,7,none⟩ (.int .i64 u)).setCell ⟨w.heap.size+1,8,none⟩ (.int .i64 v)=X;obtain ⟨x0,x1,x2,x3,x4,x5,x6,x7,x8,_⟩:=iT.set TY.out _ _ _ _ _ _ _ _ _ X hX.symm;refine bodyPost_ret (v:=Gd ⟨k,(Num.bH p t).1,(Num.bH p t).2.1,(Num.look p t).y,(Num.look p t).yd,[],0,u,v⟩ (some ⟨g,0,none⟩) cl pc ya yl yc none 0 0) (by simp [results,Tryz.results48,go_sem,Gd,x0,x1,x2,x3,x4,x5,x6,x7,x8]) rfl ⟨_,_,_,_,_,_,_,_,_,_,rfl,⟨?_,?_,Ints.empty _,by omega,by omega,by omega,Or.inr ⟨g,rfl,by omega⟩,bG HNY.out (by omega),Or.inl rfl⟩,by rw [<-ah4.out];exact Z5.out,?_⟩
   ·rw [<-hX];exact Ints.AA Nc.out (Or.inr ⟨g,rfl,by omega⟩) _ _ _ _ _ _ _ _ _
   ·rw [<-hX];exact Ints.AA ah6.out HNY.out _ _ _ _ _ _ _ _ _
   ·rw [<-hX];exact BM hB4 (by omega) _ _ _ _ _ _ _ _ _
  ·subst hk2;obtain ⟨s,t1,t2,_⟩:=Num.La p t tl cl HM.out kz.out kZ.out Xy.out HNK.out;have U3:Hid (Num.eT (Num.look p t).g gl=s):=by rw [ag8.out];exact t1
   have YV:Hid (Num.lD p t 2=⟨2,(Num.bH p t).1,(Num.bH p t).2.1,[],0,Num.vQ p t s,1,0,0⟩):=by show _=_;unfold Num.lD;rw [if_pos rfl,t1,Int.toNat_natCast]
   clear t1;have Qz:dH (w.heap.size+1) wc wc:=⟨Nat.le_refl _,fun _ _ _=>rfl,_,_,_,_,_,_,_,_,_,_,HVR.out wc TW⟩;have YX:dH (w.heap.size+1) wc wc.drew:=Qz.drew;have KC:Hid (∀w',Below wc.heap.size wc w'->Calls Tryz.prog 88 #[.agg #[.slice (some ⟨gx,0,none⟩) (cl+tl) xc,.int .i64 (Num.look p t).xd,.slice ya yl yc,.int .i64 (Num.look p t).yd,.slice ga gl gc,.int .i64 (Num.look p t).gd]] w' fun e w''=>e=.returned (.int .i64 s)/\Below wc.heap.size wc w''/\dH (w.heap.size+1) wc w''):=by intro w' h;refine (wP _ _ _ _ _ _ _ _ _ _ _ _ (Num.look p t).g w' (Ints.below ah1.out h (Nat.le_refl _)) YE).mono ?_;rintro e w'' ⟨rfl,hb⟩;exact ⟨by rw [U3.out],ai h hb,dH.below Qz (ai h hb)⟩
   have KR:Hid (∀w',Below wc.heap.size wc w'->Calls Tryz.prog 87 #[.agg #[.slice ca cl cc,.slice ra tl rc],.slice ta tl tc,.int .i64 s] w' fun e w''=>∃gr,e=.returned (.agg #[.slice (some ⟨gr,0,none⟩) cl cl,.int .i64 1])/\Below wc.heap.size wc w''/\dH (w.heap.size+1) wc w''/\wc.heap.size<=gr/\Ints w'' (some ⟨gr,0,none⟩) cl (Num.vQ p t s)):=by intro w' h;have hBw:=ai hB3 h;refine (TU ca cl cc ra tl rc p w' (Ints.below HC.out hBw (Nat.le_refl _)) (ay.below HR.out hBw (Nat.le_refl _)) HM.out ta tl tc t (Ints.below ah2.out h (Nat.le_refl _)) Xy.out s t2).mono ?_;rintro e w'' ⟨gr,rfl,hgr,hi,hb⟩;exact ⟨gr,rfl,ai h hb,dH.below Qz (ai h hb),by have:=h.size;omega,hi⟩
   have q0:∀w',dH (w.heap.size+1) wc w'->w'.cell? ⟨bx,0,none⟩=some (.slice (some ⟨g,0,none⟩) cl pc):=fun w' h=>h.cell (by dsimp only;omega) l0;have q1:∀w',dH (w.heap.size+1) wc w'->w'.cell? ⟨bx,1,none⟩=some (.int .i64 (Num.bH p t).2.1):=fun w' h=>h.cell (by dsimp only;omega) l1;have q2:∀w',dH (w.heap.size+1) wc w'->w'.cell? ⟨w.heap.size,0,none⟩=some (.slice ca cl cc):=fun w' h=>h.cell (by dsimp only;omega) b0;have q3:∀w',dH (w.heap.size+1) wc w'->w'.cell? ⟨w.heap.size,1,none⟩=some (.slice ra tl rc):=fun w' h=>h.cell (by dsimp only;omega) b1;have q4:∀w',dH (w.heap.size+1) wc w'->w'.cell? ⟨bc,0,none⟩=some (.slice (some ⟨gx,0,none⟩) (cl+tl) xc):=fun w' h=>h.cell (by dsimp only;omega) s0;have q5:∀w',dH (w.heap.size+1) wc w'->w'.cell? ⟨bc,1,none⟩=some (.int .i64 (Num.look p t).xd):=fun w' h=>h.cell (by dsimp only;omega) s1;have q6:∀w',dH (w.heap.size+1) wc w'->w'.cell? ⟨bc,2,none⟩=some (.slice ya yl yc):=fun w' h=>h.cell (by dsimp only;omega) s2;have q7:∀w',dH (w.heap.size+1) wc w'->w'.cell? ⟨bc,3,none⟩=some (.int .i64 (Num.look p t).yd):=fun w' h=>h.cell (by dsimp only;omega) s3;have q8:∀w',dH (w.heap.size+1) wc w'->w'.cell? ⟨bc,4,none⟩=some (.slice ga gl gc):=fun w' h=>h.cell (by dsimp only;omega) s4;have q9:∀w',dH (w.heap.size+1) wc w'->w'.cell? ⟨bc,5,none⟩=some (.int .i64 (Num.look p t).gd):=fun w' h=>h.cell (by dsimp only;omega) s5;obtain ⟨F0,F1,F2,F3,F4,F5,F6,F7,F8,r0,r1,r2,r3,r4,r5,r6,r7,r8,g0,g1,g2,g3,g4,g5,g6,g7,g8⟩:=dH.cells (b:=w.heap.size+1) (V:=wc);clear l0 l1 b0 b1 s0 s1 s2 s3 s4 s5 hN9;go_upto_region 6 with fail;go_region_held3 (fun w'=>dH (w.heap.size+1) wc w') (first|(with_reducible assumption)|(with_reducible exact YX)|(with_reducible refine dH.AA ?_ _ _ _ _ _ _ _ _ _;with_reducible assumption))
    (first|(go_at_call 88;refine (KC.out _ ?_).mono ?_;(first|(with_reducible assumption)|(with_reducible exact (Below.refl _ _).drew));rintro e v1 ⟨rfl,hb1,aG6⟩)
               | (go_at_call 87;refine (KR.out _ ?_).mono ?_;(with_reducible assumption);rintro e v2 ⟨gr,rfl,hb2,aG7,hgr,hIR⟩))
   rename_i hfin;clear q0 q1 q2 q3 q4 q5 q6 q7 q8 q9 r0 r1 r2 r3 r4 r5 r6 r7 r8 g0 g1 g2 g3 g4 g5 g6 g7 g8 KC KR hfin;have HIR:Hid (Ints v2 (some ⟨gr,0,none⟩) cl (Num.vQ p t s)):=hIR;have Nc:Hid (Ints v2 (some ⟨g,0,none⟩) cl (Num.bH p t).1):=Ints.below WL.out hb2 (Nat.le_refl _);obtain ⟨_,YW,hz4,hB4⟩:=HV.out v2 (ai TW hb2);have TY:Hid _:=YW;clear hIR YW;go_wp2_with fail;generalize hX:((((((((v2.setCell ⟨w.heap.size+1,0,none⟩ (.int .i64 2)).setCell ⟨w.heap.size+1,1,none⟩ (.slice (some ⟨g,0,none⟩) cl pc)).setCell ⟨w.heap.size+1,2,none⟩ (.int .i64 (Num.bH p t).2.1)).setCell ⟨w.heap.size+1,3,none⟩ (.slice none 0 0)).setCell ⟨w.heap.size+1,4,none⟩ (.int .i64 0)).setCell ⟨w.heap.size+1,5,none⟩ (.slice (some ⟨gr,0,none⟩) cl cl)).setCell ⟨w.heap.size+1,6,none⟩ (.int .i64 1)).setCell ⟨w.heap.size+1,7,none⟩ (.int .i64 0)).setCell ⟨w.heap.size+1,8,none⟩ (.int .i64 0)=X;obtain ⟨x0,x1,x2,x3,x4,x5,x6,x7,x8,_⟩:=iT.set TY.out _ _ _ _ _ _ _ _ _ X hX.symm;refine bodyPost_ret (v:=Gd ⟨2,(Num.bH p t).1,(Num.bH p t).2.1,[],0,Num.vQ p t s,1,0,0⟩ (some ⟨g,0,none⟩) cl pc none 0 0 (some ⟨gr,0,none⟩) cl cl) (by simp [results,Tryz.results48,go_sem,Gd,x0,x1,x2,x3,x4,x5,x6,x7,x8]) rfl ⟨_,_,_,_,_,_,_,_,_,_,rfl,⟨?_,Ints.empty _,?_,by omega,by omega,by omega,Or.inr ⟨g,rfl,by omega⟩,Or.inl rfl,Or.inr ⟨gr,rfl,by omega⟩⟩,by rw [<-YV.out];exact Z5.out,?_⟩
   ·rw [<-hX];exact Ints.AA Nc.out (Or.inr ⟨g,rfl,by omega⟩) _ _ _ _ _ _ _ _ _
   ·rw [<-hX];exact Ints.AA HIR.out (Or.inr ⟨gr,rfl,by omega⟩) _ _ _ _ _ _ _ _ _
   ·rw [<-hX];exact BM hB4 (by omega) _ _ _ _ _ _ _ _ _
end Go.Proofs.YtipcbhodlgoflabGreatDoor
