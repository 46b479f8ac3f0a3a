/- What walk.first does with the closure of walk.ComesIn, walk.ComesIn, and walk.goesOut. -/
import Derived.Test.YtipcbhodlgoflabGreatDoorPlnA
import Derived.Test.YtipcbhodlgoflabGreatDoorSixA
import Derived.Test.YtipcbhodlgoflabGreatDoorLayH
set_option maxHeartbeats 3200000
namespace Go.Proofs.YtipcbhodlgoflabGreatDoor
open Go.RowKit
theorem IJ (b:Nat) (ga:Option Addr) (gl gc:Nat) (g:List Int) (w:World) (hcell:w.cell? ⟨b,4,none⟩=some (.slice ga gl gc)) (hg:Ints w ga gl g) (_:gl<=8) (k:Nat) (hk:k < gl) :
  Calls Tryz.prog 120 #[.int .i64 k,.pointer (some ⟨b,0,none⟩)] w fun e w'=>e=.returned (.bool (decide (0 < g[k]?.getD 0)))/\w'=w:=by
 rcases hg.2 with h|⟨bb,off,ha,hb,hc⟩
 ·omega
 have hck:=hc k hk;clear hc hg;generalize g[k]?.getD 0=x at *;subst ha;go_enter Tryz.func120,Tryz.ntmps120;go_wp2;go_ret;exact ⟨rfl,rfl⟩
theorem M3 (b:Nat) (ga:Option Addr) (gl gc:Nat) (g:List Int) (w:World) (hcell:w.cell? ⟨b,4,none⟩=some (.slice ga gl gc)) (hg:Ints w ga gl g) (XM:gl<=8) :
  Calls Tryz.prog 119 #[.int .i64 gl,.func (.func 120) #[] #[.pointer (some ⟨b,0,none⟩)]] w fun e w'=>e=.returned (.int .i64 (Num.eT g gl))/\w'=w:=by
 have KG:Hid (∀k:Nat,k < gl->Calls Tryz.prog 120 #[.int .i64 k,.pointer (some ⟨b,0,none⟩)] w fun e w'=>e=.returned (.bool (decide (0 < g[k]?.getD 0)))/\w'=w):=fun k hk=>IJ b ga gl gc g w hcell hg XM k hk;clear hcell hg;have HF:Hid (∀k:Nat,k < gl->Num.eT g k=-1->0 < g[k]?.getD 0->Num.eT g gl=k):=by
  intro k hk h1 h2;rcases Num.l5 g gl with ⟨f1,f2⟩|⟨s,f1,f2,f3,f4⟩
  ·have:=f2 k hk;omega
  ·rcases Num.l5 g k with ⟨e1,e2⟩|⟨s',_,e2,_⟩
   ·have:s=k:=by
     by_cases h:s < k
     ·have:=e2 s h;omega
     ·by_cases h':k < s
      ·have:=f4 k h';omega
      ·omega
    rw [f2,this]
   ·omega
 go_enter Tryz.func119,Tryz.ntmps119;go_wp2_with fail;go_loop [7] (fun i=>∃k:Nat,k<=gl/\i=.int .i64 k/\Num.eT g k=-1) (fun i=>gl - (intOf i).toNat)
 case atStart=>exact ⟨0,Nat.zero_le _,rfl,rfl⟩
 case round =>
  obtain ⟨k,hk,rfl,hw⟩:=hrel;have HW:Hid _:=hw;clear hw;by_cases hlt:k < gl
  ·go_wp2_with fail;refine (KG.out k hlt).mono ?_;rintro e w' ⟨rfl,rfl⟩;by_cases hx:0 < g[k]?.getD 0
   ·have hx':decide (0 < g[k]?.getD 0)=true:=decide_eq_true hx;rw [hx'];go_wp2_with fail;go_ret;exact ⟨iV (HF.out k hlt HW.out hx).symm,rfl⟩
   ·have hx':decide (0 < g[k]?.getD 0)=false:=decide_eq_false hx;rw [hx'];go_wp2_with fail;go_round
    case rel=>exact ⟨k+1,by omega,by go_num,by have:=HW.out;unfold Num.eT;rw [if_neg (by omega),if_neg (by omega)]⟩
    case measure=>simp [intOf];omega
  ·have hke:k=gl:=by omega
   subst hke;go_wp2_with fail;go_ret;exact ⟨iV HW.out.symm,rfl⟩
theorem wP (xa ya ga:Option Addr) (xl xc yl yc gl gc:Nat) (dx dy dg:Int) (g:List Int) (w:World) (hg:Ints w ga gl g) (XM:gl<=8) :
  Calls Tryz.prog 88 #[.agg #[.slice xa xl xc,.int .i64 dx,.slice ya yl yc,.int .i64 dy,.slice ga gl gc,.int .i64 dg]] w fun e w'=>e=.returned (.int .i64 (Num.eT g gl))/\Below w.heap.size w w':=by
 have HG:Hid (Ints w ga gl g):=hg;clear hg;have hmf:∀(fn:Fn) (first cap:Array Value) (w:World),(Instr.makeFunc fn first cap).run Tryz.prog w=.ok (.func fn first cap) w:=fun _ _ _ _=>rfl;have z4:=(H5.new w (.slice xa xl xc) (.int .i64 dx) (.slice ya yl yc) (.int .i64 dy) (.slice ga gl gc) (.int .i64 dg) 75).c4;go_enter Tryz.func88,Tryz.ntmps88;go_wp2_with fail;refine (M3 w.heap.size ga gl gc g _ z4 (Ints.below HG.out (af _ _) (Nat.le_refl _)) XM).mono ?_;rintro e w3 ⟨rfl,rfl⟩;go_wp2_with fail;go_ret;exact ⟨rfl,af _ _⟩
theorem Num.K7 (a b:Int) (ha : -497664<=a/\a<=497664) (hb : -497664<=b/\b<=497664) : -247669456896<=a*b/\a*b<=247669456896:=by have:=Num.ko a b 497664 497664 ha hb;omega
theorem FM (aa xa va:Option Addr) (al ac xl xc vl vc:Nat) (at' x v:List Int) (w:World) (ha:Ints w aa al at') (hx:Ints w xa xl x) (hv:Ints w va vl v) (hxl:xl<=8) (hvx:vl=xl) (h4:al<=4) (hat:∀k,k < al->0<=at'[k]?.getD 0/\at'[k]?.getD 0 < xl)
  (hxb:∀j:Nat,-497664<=x[j]?.getD 0/\x[j]?.getD 0<=497664) (hvb:∀j:Nat,-497664<=v[j]?.getD 0/\v[j]?.getD 0<=497664) :
  Calls Tryz.prog 101 #[.slice aa al ac,.slice xa xl xc,.slice va vl vc] w fun e w'=>e=.returned (.int .i64 (Num.l6 at' x v al))/\∃n,w'=w.drewN n:=by
 subst hvx;have HA:Hid (Ints w aa al at'):=ha;have HX:Hid (Ints w xa vl x):=hx;have HV:Hid (Ints w va vl v):=hv;have HAT:Hid (∀k,k < al->∃j:Nat,at'[k]?.getD 0=j/\j < vl/\Num.aZ at' k=j):=fun k hk=>⟨(at'[k]?.getD 0).toNat,by have:=hat k hk;omega,by have:=hat k hk;omega,rfl⟩;have HXB:Hid _:=hxb;have U1:Hid _:=hvb;clear ha hx hv hat hxb hvb;go_enter Tryz.func101,Tryz.ntmps101;go_wp2;go_loopw [7,12] (fun o i wr=>∃(k:Nat),k<=al/\i=.int .i64 k/\o=.int .i64 (Num.l6 at' x v k)/\∃n,wr=w.drewN n) (fun _ i _=>al - (intOf i).toNat)
 case atStart=>exact ⟨0,Nat.zero_le _,rfl,rfl,0,rfl⟩
 case round =>
  obtain ⟨k,hk,rfl,rfl,n,rfl⟩:=hrel;by_cases hlt:k < al
  ·obtain ⟨j,hj1,hj2,ZT⟩:=HAT.out k hlt;rcases HA.out.2 with h|⟨ab,ao,ha,hab,hac⟩
   ·omega
   rcases HX.out.2 with h|⟨xb,xo,hx,hxs,qA⟩
   ·omega
   rcases HV.out.2 with h|⟨vb,vo,hv,hvs,zi⟩
   ·omega
   have ca:=hac k hlt;have cx:=qA j hj2;have cv:=zi j hj2;rw [hj1] at ca;have HE:Hid (Num.l6 at' x v (k+1)=if 0 < v[Num.aZ at' k]?.getD 0/\(Num.l6 at' x v k < 0\/x[Num.aZ at' k]?.getD 0*v[Num.aZ at' (Num.l6 at' x v k).toNat]?.getD 0 < x[Num.aZ at' (Num.l6 at' x v k).toNat]?.getD 0*v[Num.aZ at' k]?.getD 0) then (k:Int) else Num.l6 at' x v k):=rfl;have bx:=HXB.out j;have bv:=U1.out j;have HO:=Num.vD at' x v k;rw [ZT] at HE;generalize hxj:x[j]?.getD 0=xj at *;generalize UR:v[j]?.getD 0=vj at *;by_cases hvp:0 < vj
   ·rcases HO with ⟨o1,_⟩|⟨o,o1,o2,_,_⟩
    ·rw [o1] at HE ⊢;clear hac qA zi hxj UR HXB U1;subst ha hx hv;have q1:decide (0 < vj)=true:=decide_eq_true hvp;go_wp2;go_quiet (fail);go_wp2;go_roundw
     case rel=>exact ⟨k+1,hlt,by go_num,by rw [HE.out,if_pos ⟨hvp,Or.inl (by omega)⟩],_,rfl⟩
     case measure=>simp [intOf];omega
    ·obtain ⟨i,hi1,hi2,hi3⟩:=HAT.out o (by omega);have ca2:=hac o (by omega);have cx2:=qA i hi2;have cv2:=zi i hi2;rw [hi1] at ca2;have bx2:=HXB.out i;have bv2:=U1.out i;rw [o2,Int.toNat_natCast,hi3] at HE;rw [o2];generalize x[i]?.getD 0=xi at *;generalize v[i]?.getD 0=vi at *;have b1:=Num.K7 xj vi bx bv2;have b2:=Num.K7 xi vj bx2 bv;clear hac qA zi hxj UR HXB U1 bx bv bx2 bv2;subst ha hx hv;have q1:decide (0 < vj)=true:=decide_eq_true hvp;have q2:decide ((o:Int) < 0)=false:=decide_eq_false (by omega);have q3:wrap64 (xj*vi)=xj*vi:=IntWalk.wrap64_in _ (by omega);have q4:wrap64 (xi*vj)=xi*vj:=IntWalk.wrap64_in _ (by omega);clear b1 b2;by_cases hc:xj*vi < xi*vj
     ·have q5:decide (xj*vi < xi*vj)=true:=decide_eq_true hc;go_wp2;go_quiet (fail);go_wp2;go_roundw
      case rel=>exact ⟨k+1,hlt,by go_num,by rw [HE.out,if_pos ⟨hvp,Or.inr hc⟩],_,rfl⟩
      case measure=>simp [intOf];omega
     ·have q5:decide (xj*vi < xi*vj)=false:=decide_eq_false hc;go_wp2;go_quiet (fail);go_wp2;go_roundw
      case rel=>exact ⟨k+1,hlt,by go_num,by rw [HE.out,if_neg (fun h=>h.2.elim (fun h=>by omega) (fun h=>by omega))],_,rfl⟩
      case measure=>simp [intOf];omega
   ·have q1:decide (0 < vj)=false:=decide_eq_false hvp;generalize Num.l6 at' x v k=oo at *;clear hac qA zi hxj UR HXB U1 HO;subst ha hx hv;go_wp2;go_quiet (fail);go_wp2;go_roundw
    case rel=>exact ⟨k+1,hlt,by go_num,by rw [HE.out,if_neg (fun h=>by omega)],_,rfl⟩
    case measure=>simp [intOf];omega
  ·have hke:k=al:=by omega
   subst hke;go_wp2;go_ret;exact ⟨rfl,n,rfl⟩
open Go.RowKit
theorem IK (ca:Option Addr) (cl cc:Nat) (ra:Option Addr) (rl rc:Nat) (p:Num.Lp) (w:World) (hr:ay w ra rl p.rows) (hm:p.may=true) (s:Nat) (ma:Option Addr) (mc:Nat) (ZM:Ints w ma rl (Num.o8 p rl s)) :
  Calls Tryz.prog 134 #[.agg #[.slice ca cl cc,.slice ra rl rc],.slice ma rl mc] w fun e w'=>∃g,e=.returned (.agg #[.slice ca cl cc,.slice (some ⟨g,0,none⟩) rl rl])/\ay w' (some ⟨g,0,none⟩) rl (Num.dh p s).rows/\Below w.heap.size w w':=by
 have h4:rl<=4:=by have:=hr.1;have:=(p.aj hm).2.2.1.2;omega
 have h1:1<=rl:=by have:=hr.1;have:=(p.aj hm).2.2.1.1;omega
 have e:(Num.dh p s).rows=Num.H6 p.rows (Num.o8 p rl s):=by have hl:=hr.1;unfold Num.dh Num.H6 Num.o8;refine List.map_congr_left fun i hi=>?_;rw [List.mem_range] at hi;rw [Num.aA,if_pos (by omega)]
 rw [e];exact H7 ca cl cc ra rl rc p.rows w hr h4 h1 _ ma mc ZM
open Go.RowKit
abbrev ZC (b:Nat) (w:World) : Prop :=
 w.heap[b]? = some (.cells #[.slice none 0 0,.int .i64 0,.slice none 0 0,.int .i64 0,.slice none 0 0,.int .i64 0] 75)/\
  (w.cell? ⟨b,0,none⟩=some (.slice none 0 0)/\w.cell? ⟨b,1,none⟩=some (.int .i64 0)/\w.cell? ⟨b,2,none⟩=some (.slice none 0 0)/\w.cell? ⟨b,3,none⟩=some (.int .i64 0)/\w.cell? ⟨b,4,none⟩=some (.slice none 0 0)/\w.cell? ⟨b,5,none⟩=some (.int .i64 0))/\
  (w.frozen? ⟨b,0,none⟩=false/\w.frozen? ⟨b,1,none⟩=false/\w.frozen? ⟨b,2,none⟩=false/\w.frozen? ⟨b,3,none⟩=false/\w.frozen? ⟨b,4,none⟩=false/\w.frozen? ⟨b,5,none⟩=false)
theorem ZC.new (w:World) : ZC w.heap.size (w.alloc (.cells #[.slice none 0 0,.int .i64 0,.slice none 0 0,.int .i64 0,.slice none 0 0,.int .i64 0] 75)) :=
 ⟨fM rfl _,⟨by simp,by simp,by simp,by simp,by simp,by simp⟩,by go_simp,by go_simp,by go_simp,by go_simp,by go_simp,by go_simp⟩
theorem ZC.step {b:Nat} {w w':World} (h:ZC b w) (hb:Below w.heap.size w w') : ZC b w':=by obtain ⟨h0,⟨c0,c1,c2,c3,c4,c5⟩,f0,f1,f2,f3,f4,f5⟩:=h;have hlt:=World.block_lt_of_cell? w _ c0;dsimp only at hlt;exact ⟨by rw [hb.block b hlt];exact h0,⟨carry hb c0,carry hb c1,carry hb c2,carry hb c3,carry hb c4,carry hb c5⟩,iG hb c0 f0,iG hb c1 f1,iG hb c2 f2,iG hb c3 f3,iG hb c4 f4,iG hb c5 f5⟩
theorem BI {w w':World} (hb:Below (w.alloc (.cells #[.slice none 0 0,.int .i64 0,.slice none 0 0,.int .i64 0,.slice none 0 0,.int .i64 0] 75)).heap.size (w.alloc (.cells #[.slice none 0 0,.int .i64 0,.slice none 0 0,.int .i64 0,.slice none 0 0,.int .i64 0] 75)) w') : ZC w.heap.size w' :=
 (ZC.new w).step hb
theorem zk {w w':World} (hb:Below (w.alloc (.cells #[.slice none 0 0,.int .i64 0,.slice none 0 0,.int .i64 0,.slice none 0 0,.int .i64 0] 75)).drew.heap.size (w.alloc (.cells #[.slice none 0 0,.int .i64 0,.slice none 0 0,.int .i64 0,.slice none 0 0,.int .i64 0] 75)).drew w') : ZC w.heap.size w' :=
 BI (((Below.refl _ _).drew).trans hb)
theorem ZC.apart {b:Nat} {w:World} (h:ZC b w) {b' off n:Nat} {l:List Int} (hi:Ints w (some ⟨b',off,none⟩) n l) (h2:2<=n) : b'≠b:=by
 intro e;subst e;rcases hi.2 with h0|⟨b2,CG,ha,hs,hc⟩
 ·omega
 ·simp only [Option.some.injEq,Addr.mk.injEq,and_true] at ha;obtain ⟨rfl,rfl⟩:=ha;have a0:=hc 0 (by omega);have a1:=hc 1 (by omega);obtain ⟨h0,⟨c0,c1,c2,c3,c4,c5⟩,_⟩:=h;have hbig:∀j,6<=j->w.cell? ⟨b',j,none⟩=none:=by
   intro j hj;rw [cell_of_row w b' j _ _ (0,0) h0]
   first|exact Array.getElem?_eq_none hj|exact List.getElem?_eq_none hj
  match off,a0,a1 with
  | 0,a0,_=>rw [Nat.zero_add,c0] at a0;simp at a0
  | 1,_,a1=>rw [c2] at a1;simp at a1
  | 2,a0,_=>rw [Nat.add_zero,c2] at a0;simp at a0
  | 3,_,a1=>rw [c4] at a1;simp at a1
  | 4,a0,_=>rw [Nat.add_zero,c4] at a0;simp at a0
  | 5,_,a1=>rw [hbig 6 (by omega)] at a1;simp at a1
  | k+6,a0,_=>rw [hbig _ (by omega)] at a0;simp at a0
theorem Ints.kH {w:World} {a:Option Addr} {n:Nat} {l:List Int} (h:Ints w a n l) {b j:Nat} (hne:∀b' off,a=some ⟨b',off,none⟩->b'≠b) (u:Value) : Ints (w.setCell ⟨b,j,none⟩ u) a n l:=by
 obtain ⟨h1,h2⟩:=h;refine ⟨h1,?_⟩;rcases h2 with h2|⟨b',off,ha,hs,hc⟩
 ·exact Or.inl h2
 ·refine Or.inr ⟨b',off,ha,by simpa using hs,fun j' hj=>?_⟩;rw [World.cell?_setCell_other _ _ _ _ (by intro e;injection e with e1;exact hne b' off ha e1.symm)];exact hc j' hj
theorem ZC.kept {b:Nat} {w:World} (h:ZC b w) {a:Option Addr} {n:Nat} {l:List Int} (hi:Ints w a n l) (h2:2<=n) (u0 u1 u2 u3 u4 u5:Value) :
  Ints ((((((w.setCell ⟨b,0,none⟩ u0).setCell ⟨b,1,none⟩ u1).setCell ⟨b,2,none⟩ u2).setCell ⟨b,3,none⟩ u3).setCell ⟨b,4,none⟩ u4).setCell ⟨b,5,none⟩ u5) a n l:=by
 have hne:∀b' off,a=some ⟨b',off,none⟩->b'≠b:=fun b' off e=>h.apart (by rw [<-e];exact hi) h2;exact (((((hi.kH hne u0).kH hne u1).kH hne u2).kH hne u3).kH hne u4).kH hne u5
structure ZP (b:Nat) (w:World) : Prop where
 row:w.heap[b]? = some (.cells #[.slice none 0 0,.int .i64 0] 64)
 c0:w.cell? ⟨b,0,none⟩=some (.slice none 0 0)
 c1:w.cell? ⟨b,1,none⟩=some (.int .i64 0)
 f0:w.frozen? ⟨b,0,none⟩=false
 f1:w.frozen? ⟨b,1,none⟩=false
theorem ZP.new (w:World) : ZP w.heap.size (w.alloc (.cells #[.slice none 0 0,.int .i64 0] 64)) :=
 ⟨fM rfl _,by simp,by simp,by go_simp,by go_simp⟩
theorem ZP.lt {b:Nat} {w:World} (h:ZP b w) : b < w.heap.size:=World.block_lt_of_cell? w _ h.c0
theorem ZP.step {b:Nat} {w w':World} (h:ZP b w) (hb:Below w.heap.size w w') : ZP b w' :=
 ⟨by rw [hb.block b h.lt];exact h.row,carry hb h.c0,carry hb h.c1,iG hb h.c0 h.f0,iG hb h.c1 h.f1⟩
theorem ZP.apart {b:Nat} {w:World} (h:ZP b w) {b' off n:Nat} {l:List Int} (hi:Ints w (some ⟨b',off,none⟩) n l) (h2:2<=n) : b'≠b:=by
 intro e;subst e;rcases hi.2 with h0|⟨b2,CG,ha,hs,hc⟩
 ·omega
 ·simp only [Option.some.injEq,Addr.mk.injEq,and_true] at ha;obtain ⟨rfl,rfl⟩:=ha;have a0:=hc 0 (by omega);have a1:=hc 1 (by omega);have hbig:∀j,2<=j->w.cell? ⟨b',j,none⟩=none:=by
   intro j hj;rw [cell_of_row w b' j _ _ (0,0) h.row]
   first|exact Array.getElem?_eq_none hj|exact List.getElem?_eq_none hj
  match off,a0,a1 with
  | 0,a0,_=>rw [Nat.zero_add,h.c0] at a0;simp at a0
  | 1,_,a1=>rw [hbig 2 (by omega)] at a1;simp at a1
  | k+2,a0,_=>rw [hbig _ (by omega)] at a0;simp at a0
theorem ZP.fill {b:Nat} {w:World} (h:ZP b w) {a:Option Addr} {n:Nat} {l:List Int} (hi:Ints w a n l) (h2:2<=n) (u0 u1:Value) (X:World) (hX:X=(w.setCell ⟨b,0,none⟩ u0).setCell ⟨b,1,none⟩ u1) :
  Ints X a n l/\X.cell? ⟨b,0,none⟩=some u0/\X.cell? ⟨b,1,none⟩=some u1:=by
 subst hX;have hne:∀b' off,a=some ⟨b',off,none⟩->b'≠b:=fun b' off e=>h.apart (by rw [<-e];exact hi) h2;exact ⟨(hi.kH hne u0).kH hne u1,by rw [ag (by decide)];exact aN h.c0,aN (by rw [ag (by decide)];exact h.c1)⟩
open Go.RowKit
theorem BJ (ca:Option Addr) (cl cc:Nat) (ra:Option Addr) (rl rc:Nat) (p:Num.Lp) (w:World) (hc:Ints w ca cl p.costs) (hr:ay w ra rl p.rows) (hm:p.may=true)
  (aa:Option Addr) (al ac:Nat) (at':List Int) (ha:Ints w aa al at') (hg:Num.Good p at' rl cl) (s:Nat) (hs:s < cl+rl) :
  Calls Tryz.prog 102 #[.agg #[.slice ca cl cc,.slice ra rl rc],.slice aa al ac,.int .i64 s] w fun e w'=>∃xa xc,e=.returned (.agg #[.slice xa (cl+rl) xc,.int .i64 (Num.look (Num.dh p s) at').xd])/\Ints w' xa (cl+rl) (Num.look (Num.dh p s) at').x/\Below w.heap.size w w':=by
 have HC:Hid (Ints w ca cl p.costs):=hc;have HR:Hid (ay w ra rl p.rows):=hr;have HA:Hid (Ints w aa al at'):=ha;have HM:Hid (p.may=true):=hm;have hc4:cl<=4/\1<=cl:=by have:=hc.1;have:=(p.aj hm).1;omega
 have hr4:rl<=4/\1<=rl:=by have:=hr.1;have:=(p.aj hm).2.2.1;omega
 have YA:al<=4:=by have:=ha.1;have:=(Num.bf at' rl _ hg.right).1;omega
 have ZU:Hid ((Num.look (Num.dh p s) at').x.length=cl+rl):=(Num.lJ p at' rl cl s hm hr.1 hc.1 hg).2.1;have w9:Hid (∀w',Below ((w.alloc (.cells #[.slice ca cl cc,.slice ra rl rc] 28)).alloc (.cells #[.slice none 0 0,.int .i64 0] 64)).heap.size ((w.alloc (.cells #[.slice ca cl cc,.slice ra rl rc] 28)).alloc (.cells #[.slice none 0 0,.int .i64 0] 64)) w'->Below w.heap.size w w'):=fun w' h=>dN (dN h);clear hc hr ha hm hg;generalize hV:((w.alloc (.cells #[.slice ca cl cc,.slice ra rl rc] 28)).alloc (.cells #[.slice none 0 0,.int .i64 0] 64))=V at w9;have hZ:ZP (w.heap.size+1) V:=by subst hV;have:=ZP.new (w.alloc (.cells #[.slice ca cl cc,.slice ra rl rc] 28));rwa [World.size_alloc] at this
 have q0:∀w',Below V.heap.size V w'->w'.cell? ⟨w.heap.size,0,none⟩=some (.slice ca cl cc):=fun w' h=>by subst hV;exact carry h (carry (af _ _) (aU rfl _ _ _).1)
 have q1:∀w',Below V.heap.size V w'->w'.cell? ⟨w.heap.size,1,none⟩=some (.slice ra rl rc):=fun w' h=>by subst hV;exact carry h (carry (af _ _) (aU rfl _ _ _).2)
 have KC:Hid (∀w',Below V.heap.size V w'->Calls Tryz.prog 94 #[.agg #[.slice ca cl cc,.slice ra rl rc],.int .i64 s] w' fun e w''=>∃g,e=.returned (.slice (some ⟨g,0,none⟩) rl rl)/\Below V.heap.size V w''/\Ints w'' (some ⟨g,0,none⟩) rl (Num.o8 p rl s)/\Below w'.heap.size w' w''):=by intro w' h;refine (om _ _ _ _ _ _ p w' (ay.below HR.out (w9.out w' h) (Nat.le_refl _)) HM.out s (by omega)).mono ?_;rintro e w'' ⟨g,rfl,_,hl,hb⟩;exact ⟨g,rfl,ai h hb,hl,hb⟩
 have KA:Hid (∀w' g,Below V.heap.size V w'->Ints w' (some ⟨g,0,none⟩) rl (Num.o8 p rl s)->Calls Tryz.prog 134 #[.agg #[.slice ca cl cc,.slice ra rl rc],.slice (some ⟨g,0,none⟩) rl rl] w' fun e w''=>∃g2,e=.returned (.agg #[.slice ca cl cc,.slice (some ⟨g2,0,none⟩) rl rl])/\Below V.heap.size V w''/\ay w'' (some ⟨g2,0,none⟩) rl (Num.dh p s).rows/\Below w'.heap.size w' w''):=by intro w' g h hi;refine (IK _ _ _ _ _ _ p w' (ay.below HR.out (w9.out w' h) (Nat.le_refl _)) HM.out s _ _ hi).mono ?_;rintro e w'' ⟨g2,rfl,hl,hb⟩;exact ⟨g2,rfl,ai h hb,hl,hb⟩
 have KL:Hid (∀w' g,Below V.heap.size V w'->ay w' (some ⟨g,0,none⟩) rl (Num.dh p s).rows->Calls Tryz.prog 23 #[.agg #[.slice ca cl cc,.slice (some ⟨g,0,none⟩) rl rl],.slice aa al ac] w' fun e w''=>∃xa xc ya yl yc ga gl gc dy dg er,e=.returned (.tuple #[.agg #[.slice xa (cl+rl) xc,.int .i64 (Num.look (Num.dh p s) at').xd,.slice ya yl yc,.int .i64 dy,.slice ga gl gc,.int .i64 dg],.int .i64 er])/\Below V.heap.size V w''/\Ints w'' xa (cl+rl) (Num.look (Num.dh p s) at').x/\Below w'.heap.size w' w''):=by
  intro w' g h hi;refine (yo _ _ _ _ _ _ (Num.dh p s) w' (Ints.below HC.out (w9.out w' h) (Nat.le_refl _)) (by omega) hi (by omega) _ _ _ at' (Ints.below HA.out (w9.out w' h) (Nat.le_refl _)) (by omega)).mono ?_;rintro e w'' ⟨xa,xl,xc,ya,yl,yc,ga,gl,gc,rfl,hx,_,_,_,_,_,hb⟩;have hxl:xl=cl+rl:=by have:=hx.1;have:=ZU.out;omega
  subst hxl;exact ⟨xa,xc,ya,yl,yc,ga,gl,gc,_,_,_,rfl,ai h hb,hx,hb⟩
 have hS0:Below V.heap.size V V.drew:=(Below.refl _ _).drew;generalize Num.look (Num.dh p s) at'=L at *;obtain ⟨er,lx,dx,ly,dy,lg,dg⟩:=L;dsimp only at *;go_enter Tryz.func102,Tryz.ntmps102;go_wp2_with fail;clear hV;go_region_held3 (fun w'=>Below V.heap.size V w') (first|(with_reducible assumption)|(with_reducible exact (Below.refl _ _).drew)|(with_reducible exact ((Below.refl _ _).alloc (Nat.le_refl _) _).drew)|(with_reducible refine Below.alloc ?_ ?_ _<;>first|(with_reducible assumption)|(apply Below.size;with_reducible assumption))|(with_reducible refine iO ?_ ?_ _ _ _ _ _ _<;>first|(with_reducible assumption)|(with_reducible exact Nat.le_refl _)|(apply Below.size;with_reducible assumption)))
  (first|(go_at_call 94;refine (KC.out _ ?_).mono ?_;assumption;rintro e v1 ⟨g1,rfl,hb1,hI1,hk1⟩;(first|(with_reducible have hz2:=BI hk1)|(with_reducible have hz2:=zk hk1)|skip))
           | (go_at_call 134;(first|(with_reducible refine (KA.out _ _ ?_ hI1).mono ?_)|(with_reducible refine (KA.out _ _ ?_ (Ints.below hI1 (af _ _) (Nat.le_refl _))).mono ?_));assumption;rintro e v2 ⟨g2,rfl,hb2,hI2,hk2⟩;(first|(with_reducible have hz2:=ZC.step hz2 hk2)|(with_reducible have hz2:=BI hk2)|(with_reducible have hz2:=zk hk2)|skip))
           | (go_at_call 23;(first|(with_reducible refine (KL.out _ _ ?_ hI2).mono ?_)|(with_reducible refine (KL.out _ _ ?_ (ay.below hI2 (af _ _) (Nat.le_refl _))).mono ?_));assumption;rintro e v3 ⟨xa,xc,ya,yl,yc,ga,gl,gc,uy,ug,ur,rfl,hb3,CK,hk3⟩;(first|(with_reducible have hz2:=ZC.step hz2 hk3)|(with_reducible have hz2:=BI hk3)|(with_reducible have hz2:=zk hk3)|skip)))
 ·rename_i hfin;clear KC KA KL q0 q1;have hsx:=H5.new v3 (.slice xa (cl+rl) xc) (.int .i64 dx) (.slice ya yl yc) (.int .i64 uy) (.slice ga gl gc) (.int .i64 ug) 75;have kQ:Hid (Ints (v3.alloc (.cells #[.slice xa (cl+rl) xc,.int .i64 dx,.slice ya yl yc,.int .i64 uy,.slice ga gl gc,.int .i64 ug] 75)) xa (cl+rl) lx):=Ints.below CK (af _ _) (Nat.le_refl _);have x0:=hsx.c0;have x1:=hsx.c1;clear hsx;generalize v3.alloc (.cells #[.slice xa (cl+rl) xc,.int .i64 dx,.slice ya yl yc,.int .i64 uy,.slice ga gl gc,.int .i64 ug] 75)=X at *;generalize v3.heap.size=bx at *;have vO:=hZ.step hfin;have z0:=vO.c0;have z1:=vO.c1;have zf0:=vO.f0;have zf1:=vO.f1;have Wx:Hid (ZP (w.heap.size+1) X):=vO;have jB:Hid (Below w.heap.size w X):=w9.out _ hfin;clear vO hfin;go_wp2_with fail;generalize hY:(World.setCell X ⟨w.heap.size+1,0,none⟩ (.slice xa (cl+rl) xc)).setCell ⟨w.heap.size+1,1,none⟩ (.int .i64 dx)=Y;obtain ⟨Ad,y0,y1⟩:=ZP.fill Wx.out kQ.out (by omega) _ _ Y hY.symm;refine bodyPost_ret (v:=.agg #[.slice xa (cl+rl) xc,.int .i64 dx]) (by simp [results,Tryz.results102,go_sem,y0,y1]) rfl ⟨xa,xc,rfl,Ad,?_⟩;rw [<-hY];exact aV (aV jB.out (Nat.le_succ _) _) (Nat.le_succ _) _
 ·rename_i hfin;clear KC KA KL q0 q1;generalize hX:(((((v3.setCell ⟨v2.heap.size,0,none⟩ (.slice xa (cl+rl) xc)).setCell ⟨v2.heap.size,1,none⟩ (.int .i64 dx)).setCell ⟨v2.heap.size,2,none⟩ (.slice ya yl yc)).setCell ⟨v2.heap.size,3,none⟩ (.int .i64 uy)).setCell ⟨v2.heap.size,4,none⟩ (.slice ga gl gc)).setCell ⟨v2.heap.size,5,none⟩ (.int .i64 ug)=X at *;have kQ:Hid (Ints X xa (cl+rl) lx):=by rw [<-hX];exact ZC.kept hz2 CK (by omega) _ _ _ _ _ _
  obtain ⟨_,⟨c0,c1,c2,c3,c4,c5⟩,_⟩:=hz2;obtain ⟨x0,x1,x2,x3,x4,x5⟩:=uj c0 c1 c2 c3 c4 c5 _ _ _ _ _ _ X hX.symm;clear hX c0 c1 c2 c3 c4 c5;have vO:=hZ.step hfin;have z0:=vO.c0;have z1:=vO.c1;have zf0:=vO.f0;have zf1:=vO.f1;have Wx:Hid (ZP (w.heap.size+1) X):=vO;have jB:Hid (Below w.heap.size w X):=w9.out _ hfin;clear vO hfin;go_wp2_with fail;generalize hY:(World.setCell X ⟨w.heap.size+1,0,none⟩ (.slice xa (cl+rl) xc)).setCell ⟨w.heap.size+1,1,none⟩ (.int .i64 dx)=Y;obtain ⟨Ad,y0,y1⟩:=ZP.fill Wx.out kQ.out (by omega) _ _ Y hY.symm;refine bodyPost_ret (v:=.agg #[.slice xa (cl+rl) xc,.int .i64 dx]) (by simp [results,Tryz.results102,go_sem,y0,y1]) rfl ⟨xa,xc,rfl,Ad,?_⟩;rw [<-hY];exact aV (aV jB.out (Nat.le_succ _) _) (Nat.le_succ _) _
 ·rename_i hfin;clear KC KA KL q0 q1;generalize hX:(((((v3.setCell ⟨v1.heap.size,0,none⟩ (.slice xa (cl+rl) xc)).setCell ⟨v1.heap.size,1,none⟩ (.int .i64 dx)).setCell ⟨v1.heap.size,2,none⟩ (.slice ya yl yc)).setCell ⟨v1.heap.size,3,none⟩ (.int .i64 uy)).setCell ⟨v1.heap.size,4,none⟩ (.slice ga gl gc)).setCell ⟨v1.heap.size,5,none⟩ (.int .i64 ug)=X at *;have kQ:Hid (Ints X xa (cl+rl) lx):=by rw [<-hX];exact ZC.kept hz2 CK (by omega) _ _ _ _ _ _
  obtain ⟨_,⟨c0,c1,c2,c3,c4,c5⟩,_⟩:=hz2;obtain ⟨x0,x1,x2,x3,x4,x5⟩:=uj c0 c1 c2 c3 c4 c5 _ _ _ _ _ _ X hX.symm;clear hX c0 c1 c2 c3 c4 c5;have vO:=hZ.step hfin;have z0:=vO.c0;have z1:=vO.c1;have zf0:=vO.f0;have zf1:=vO.f1;have Wx:Hid (ZP (w.heap.size+1) X):=vO;have jB:Hid (Below w.heap.size w X):=w9.out _ hfin;clear vO hfin;go_wp2_with fail;generalize hY:(World.setCell X ⟨w.heap.size+1,0,none⟩ (.slice xa (cl+rl) xc)).setCell ⟨w.heap.size+1,1,none⟩ (.int .i64 dx)=Y;obtain ⟨Ad,y0,y1⟩:=ZP.fill Wx.out kQ.out (by omega) _ _ Y hY.symm;refine bodyPost_ret (v:=.agg #[.slice xa (cl+rl) xc,.int .i64 dx]) (by simp [results,Tryz.results102,go_sem,y0,y1]) rfl ⟨xa,xc,rfl,Ad,?_⟩;rw [<-hY];exact aV (aV jB.out (Nat.le_succ _) _) (Nat.le_succ _) _
 ·rename_i hfin;clear KC KA KL q0 q1;generalize hX:(((((v3.setCell ⟨V.heap.size,0,none⟩ (.slice xa (cl+rl) xc)).setCell ⟨V.heap.size,1,none⟩ (.int .i64 dx)).setCell ⟨V.heap.size,2,none⟩ (.slice ya yl yc)).setCell ⟨V.heap.size,3,none⟩ (.int .i64 uy)).setCell ⟨V.heap.size,4,none⟩ (.slice ga gl gc)).setCell ⟨V.heap.size,5,none⟩ (.int .i64 ug)=X at *;have kQ:Hid (Ints X xa (cl+rl) lx):=by rw [<-hX];exact ZC.kept hz2 CK (by omega) _ _ _ _ _ _
  obtain ⟨_,⟨c0,c1,c2,c3,c4,c5⟩,_⟩:=hz2;obtain ⟨x0,x1,x2,x3,x4,x5⟩:=uj c0 c1 c2 c3 c4 c5 _ _ _ _ _ _ X hX.symm;clear hX c0 c1 c2 c3 c4 c5;have vO:=hZ.step hfin;have z0:=vO.c0;have z1:=vO.c1;have zf0:=vO.f0;have zf1:=vO.f1;have Wx:Hid (ZP (w.heap.size+1) X):=vO;have jB:Hid (Below w.heap.size w X):=w9.out _ hfin;clear vO hfin;go_wp2_with fail;generalize hY:(World.setCell X ⟨w.heap.size+1,0,none⟩ (.slice xa (cl+rl) xc)).setCell ⟨w.heap.size+1,1,none⟩ (.int .i64 dx)=Y;obtain ⟨Ad,y0,y1⟩:=ZP.fill Wx.out kQ.out (by omega) _ _ Y hY.symm;refine bodyPost_ret (v:=.agg #[.slice xa (cl+rl) xc,.int .i64 dx]) (by simp [results,Tryz.results102,go_sem,y0,y1]) rfl ⟨xa,xc,rfl,Ad,?_⟩;rw [<-hY];exact aV (aV jB.out (Nat.le_succ _) _) (Nat.le_succ _) _
end Go.Proofs.YtipcbhodlgoflabGreatDoor
