/- What solve.valuing and solve.ray do. -/
import Derived.Test.YtipcbhodlgoflabGreatDoorPlnA
import Derived.Test.YtipcbhodlgoflabGreatDoorWlkC
import Derived.Test.YtipcbhodlgoflabGreatDoorPlnB
set_option maxHeartbeats 1600000
set_option maxRecDepth 4000
namespace Go.Proofs.YtipcbhodlgoflabGreatDoor
open Go.RowKit
theorem oV {w w1:World} {a b c d:Value} {t u:TypeId} (hb:Below ((w.alloc (.cells #[a,b] t)).alloc (.cells #[c,d] u)).heap.size ((w.alloc (.cells #[a,b] t)).alloc (.cells #[c,d] u)) w1) :
  (w1.cell? ⟨w.heap.size,0,none⟩=some a/\w1.cell? ⟨w.heap.size,1,none⟩=some b)/\(w1.cell? ⟨w.heap.size+1,0,none⟩=some c/\w1.cell? ⟨w.heap.size+1,1,none⟩=some d)/\
   (w1.frozen? ⟨w.heap.size+1,0,none⟩=false/\w1.frozen? ⟨w.heap.size+1,1,none⟩=false)/\w.heap.size+1 < w1.heap.size/\Below w.heap.size w w1:=by
 have h2:=fO hb;rw [World.size_alloc] at h2;exact ⟨⟨carry hb (carry (af _ _) (aU rfl a b t).1),carry hb (carry (af _ _) (aU rfl a b t).2)⟩,h2.1,h2.2,by have:=hb.size;simp at this;omega,dN (dN hb)⟩
theorem Num.Qs (f:Nat->Int) (n j:Nat) (hj:j < n) (h1:f j=1) (h0:∀k,k≠j->f k=0) : (Num.fill f n 0).set j 1=(List.range n).map f:=by
 apply List.ext_getElem?;intro k;rw [List.getElem?_set,Num.OQ];by_cases hk:j=k
 ·subst hk;rw [if_pos rfl,if_pos hj,List.getElem?_map,List.getElem?_range hj,Option.map_some,h1]
 ·rw [if_neg hk];unfold Num.fill;by_cases hkn:k < n
  ·rw [List.getElem?_map,List.getElem?_map,List.getElem?_range hkn,Option.map_some,Option.map_some,h0 k (fun e=>hk e.symm)];simp
  ·rw [List.getElem?_eq_none (by simp;omega),List.getElem?_eq_none (by simp;omega)]
theorem FV (ca:Option Addr) (cl cc:Nat) (ra:Option Addr) (rl rc:Nat) (p:Num.Lp) (w:World) (hc:Ints w ca cl p.costs) (hr:ay w ra rl p.rows) (hm:p.may=true) (j:Nat) (hj:j < cl+rl) :
  Calls Tryz.prog 122 #[.agg #[.slice ca cl cc,.slice ra rl rc],.int .i64 j] w fun e w'=>∃g,e=.returned (.agg #[.slice (some ⟨g,0,none⟩) cl cl,.slice ra rl rc])/\Ints w' (some ⟨g,0,none⟩) cl (Num.bR p j).costs/\Below w.heap.size w w':=by
 have HC:Hid (cl=p.costs.length):=hc.1;have HR:Hid (ay w ra rl p.rows):=hr;have HM:Hid (p.may=true):=hm;have hc4:cl<=4/\1<=cl:=by have:=hc.1;have:=(p.aj hm).1;omega
 have hr4:rl<=4/\1<=rl:=by have:=hr.1;have:=(p.aj hm).2.2.1;omega
 have kz:Hid (rl=p.rows.length):=hr.1;clear hc hr hm;obtain ⟨i0,hif,hz0,hz1,hz2⟩:=info_parts Tryz.ja;have hs0:((w.alloc (.cells #[.slice ca cl cc,.slice ra rl rc] 28)).alloc (.cells #[.slice none 0 0,.slice none 0 0] 28)).heap.size=w.heap.size+1+1:=by simp
 obtain ⟨f,hf⟩ : ∃f:Nat->Int,f=fun k=>if j < p.costs.length then (if k=j then 1 else 0) else -((p.rows[j - p.costs.length]?.getD ([],0)).1[k]?.getD 0):=⟨_,rfl⟩;have HF:Hid ((Num.bR p j).costs=(List.range cl).map f):=by rw [HC.out,hf];rfl
 by_cases hjc:j < cl
 ·have HF1:Hid (f j=1):=by rw [hf];show (if j < p.costs.length then _ else _)=_;rw [if_pos (by have:=HC.out;omega),if_pos rfl]
  have HF0:Hid (∀k,k≠j->f k=0):=by intro k hk;rw [hf];show (if j < p.costs.length then _ else _)=_;rw [if_pos (by have:=HC.out;omega),if_neg hk]
  clear hf;obtain ⟨d,hd⟩ : ∃d:Int,d=(j:Int) - (cl:Int):=⟨_,rfl⟩;have hd0:decide (0<=d)=false:=decide_eq_false (by omega);have hs2:IntKind.i64.wrap ((j:Int) - (cl:Int))=d:=by rw [IntWalk.i64_left,hd];exact IntWalk.wrap64_in _ (by omega)
  have hs1:wrap64 ((j:Int) - (cl:Int))=d:=by rw [hd];exact IntWalk.wrap64_in _ (by omega)
  have hjI:(j:Int) < (cl:Int):=by omega
  clear hd;go_enter Tryz.func122,Tryz.ntmps122;go_wp2_with (at_make;refine wpList_make_full _ rfl (.tmp 11) (.tmp 11) 25 rfl (w.heap.size+1+1) 2 i0 (.int .i64 0) 1 Tryz.underlying25 hif hz0 hz1 .i64 .i64 _ _ cl rfl rfl rfl rfl (by rw [hz2];omega) (by unfold maxLen;omega) (by simp) ?_;intro w3 hown hgrow;have hb3:=bY hgrow;obtain ⟨⟨k0,k1⟩,⟨k2,k3⟩,⟨k4,k5⟩,hz,hB⟩:=oV hb3;have HO:Hid (Own w3 (w.heap.size+1+1) (w.heap.size+1+1) cl (Num.fill f cl 0)):=Own.made _ (by rw [hs0] at hown;exact hown);obtain ⟨⟨u,u0⟩,u1⟩:=Own.cell' HO.out j hjc;have hg:=(Own.lt HO.out).2;(try rw [hs0]);clear hown hgrow);refine bodyPost_ret (v:=.agg #[.slice (some ⟨w.heap.size+1+1,0,none⟩) cl cl,.slice ra rl rc]) (by simp [results,Tryz.results122,go_sem,k2,k3]) rfl ⟨_,rfl,?_,?_⟩
  ·rw [HF.out,<-Num.Qs f cl j hjc HF1.out HF0.out];exact Ints.jU (Ints.jU (Own.ints (Own.store HO.out j 1)) (by omega) _) (by omega) _
  ·exact aV (aV (aV hB (by omega) _) (by omega) _) (by omega) _
 ·obtain ⟨r,Xt⟩ : ∃r:Nat,j=cl+r:=⟨j - cl,by omega⟩;have hrr:r < rl:=by omega
  have HFV:Hid (∀k,f k=-((p.rows[r]?.getD ([],0)).1[k]?.getD 0)):=by intro k;rw [hf];show (if j < p.costs.length then _ else _)=_;rw [if_neg (by have:=HC.out;omega),show j - p.costs.length=r by have:=HC.out;omega]
  clear hf;have hs2:IntKind.i64.wrap ((j:Int) - (cl:Int))=r:=by rw [IntWalk.i64_left,show (j:Int) - (cl:Int)=r by omega];exact IntWalk.wrap64_in _ (by omega)
  have hs1:wrap64 ((j:Int) - (cl:Int))=r:=by rw [show (j:Int) - (cl:Int)=r by omega];exact IntWalk.wrap64_in _ (by omega)
  have hrI:(r:Int) < (rl:Int):=by omega
  have hrow:=p.row_of HM.out r (by have:=kz.out;omega);rcases HR.out.2 with h|⟨b,off,ha,hbs,hcc⟩
  ·omega
  obtain ⟨xa,xl,xc,c0,c1,hx,hxl⟩:=hcc r hrr;clear hcc c1 hxl;generalize (p.rows[r]?.getD ([],0))=row at *;obtain ⟨row,most⟩:=row;dsimp only at *;have Ot:xl=cl:=by have:=hx.1;have:=HC.out;omega
  subst Ot;have HX:Hid (Ints w xa xl row):=hx;have HXB:Hid (∀k:Nat,-12<=row[k]?.getD 0/\row[k]?.getD 0<=12):=Num.aJ _ _ hrow.2.1 (by omega);clear hx hrow Xt hjc hj;subst ha;go_enter Tryz.func122,Tryz.ntmps122;go_wp2_with (at_make;refine wpList_make_full _ rfl (.tmp 11) (.tmp 11) 25 rfl (w.heap.size+1+1) 2 i0 (.int .i64 0) 1 Tryz.underlying25 hif hz0 hz1 .i64 .i64 _ _ xl rfl rfl rfl rfl (by rw [hz2];omega) (by unfold maxLen;omega) (by simp) ?_;intro w3 hown hgrow;have hb3:=bY hgrow;obtain ⟨⟨k0,k1⟩,_,_,hz,hB⟩:=oV hb3;have e0:=carry hB c0;have HO:Hid (Own w3 (w.heap.size+1+1) (w.heap.size+1+1) xl (Num.fill f xl 0)):=Own.made _ (by rw [hs0] at hown;exact hown);(try rw [hs0]);clear hown hgrow);go_loopw [27] (fun i wr=>∃k:Nat,k<=xl/\i=.int .i64 k/\Own wr (w.heap.size+1+1) (w.heap.size+1+1) xl (Num.fill f xl k)/\Below ((w.alloc (.cells #[.slice ca xl cc,.slice (some ⟨b,off,none⟩) rl rc] 28)).alloc (.cells #[.slice none 0 0,.slice none 0 0] 28)).heap.size ((w.alloc (.cells #[.slice ca xl cc,.slice (some ⟨b,off,none⟩) rl rc] 28)).alloc (.cells #[.slice none 0 0,.slice none 0 0] 28)) wr) (fun i _=>xl - (intOf i).toNat)
  case atStart=>exact ⟨0,Nat.zero_le _,rfl,HO.out,hb3⟩
  case round =>
   obtain ⟨k,hk,rfl,hO,hbl⟩:=hrel;have Ev:Hid _:=hO;clear HO hb3 k0 k1 e0 hB hz;obtain ⟨⟨k0,k1⟩,⟨k2,k3⟩,⟨k4,k5⟩,hz,hB⟩:=oV hbl;by_cases hlt:k < xl
   ·obtain ⟨⟨u,u0⟩,u1⟩:=hO.cell' k hlt;have hg:=hO.lt.2;clear hO;rcases (Ints.below HX.out hB (Nat.le_refl _)).2 with h|⟨b',o',ha',hb',hc'⟩
    ·omega
    have hck:=hc' k hlt;have hbd:=HXB.out k;have HV:Hid (-(row[k]?.getD 0)=f k):=(HFV.out k).symm;clear hc';generalize row[k]?.getD 0=x at *;have hwn:wrap64 (-x)=-x:=IntWalk.wrap64_in _ (by omega);subst ha';go_wp2_with fail;go_roundw
    case rel=>exact ⟨k+1,hlt,by go_num,by rw [<-Num.gJ _ _ _ (-x) hlt HV.out];exact Own.store Ev.out k (-x),aV hbl (by simp) _⟩
    case measure=>simp [intOf];omega
   ·have hke:k=xl:=by omega
    subst hke;have hg:=hO.lt.2;clear hO;go_wp2_with fail;refine bodyPost_ret (v:=.agg #[.slice (some ⟨w.heap.size+1+1,0,none⟩) k k,.slice (some ⟨b,off,none⟩) rl rc]) (by simp [results,Tryz.results122,go_sem,k2,k3]) rfl ⟨_,rfl,?_,?_⟩
    ·rw [HF.out,<-Num.iN];exact Ints.jU (Ints.jU (Own.ints Ev.out) (by omega) _) (by omega) _
    ·exact aV (aV hB (by omega) _) (by omega) _
def Num.vQ (p:Num.Lp) (at':List Int) (s:Nat) : List Int:=(List.range p.costs.length).map fun j=>if j=s then (Num.look (Num.dh p s) at').xd else -((Num.look (Num.dh p s) at').x[j]?.getD 0)
theorem TU (ca:Option Addr) (cl cc:Nat) (ra:Option Addr) (rl rc:Nat) (p:Num.Lp) (w:World) (hc:Ints w ca cl p.costs) (hr:ay w ra rl p.rows) (hm:p.may=true)
  (aa:Option Addr) (al ac:Nat) (at':List Int) (ha:Ints w aa al at') (hg:Num.Good p at' rl cl) (s:Nat) (hs:s < cl+rl) :
  Calls Tryz.prog 87 #[.agg #[.slice ca cl cc,.slice ra rl rc],.slice aa al ac,.int .i64 s] w fun e w'=>∃g,e=.returned (.agg #[.slice (some ⟨g,0,none⟩) cl cl,.int .i64 1])/\w.heap.size<=g/\Ints w' (some ⟨g,0,none⟩) cl (Num.vQ p at' s)/\Below w.heap.size w w':=by
 have HC:Hid (Ints w ca cl p.costs):=hc;have HR:Hid (ay w ra rl p.rows):=hr;have HA:Hid (Ints w aa al at'):=ha;have HM:Hid (p.may=true):=hm;have HG:Hid (Num.Good p at' rl cl):=hg;have hc4:cl<=4/\1<=cl:=by have:=hc.1;have:=(p.aj hm).1;omega
 have hr4:rl<=4/\1<=rl:=by have:=hr.1;have:=(p.aj hm).2.2.1;omega
 have HXB:Hid (∀j:Nat,-497664<=(Num.look (Num.dh p s) at').x[j]?.getD 0/\(Num.look (Num.dh p s) at').x[j]?.getD 0<=497664):=(Num.lJ p at' rl cl s hm hr.1 hc.1 hg).2.2.1;obtain ⟨f,hf⟩ : ∃f:Nat->Int,f=fun j=>if j=s then (Num.look (Num.dh p s) at').xd else -((Num.look (Num.dh p s) at').x[j]?.getD 0):=⟨_,rfl⟩;have HF:Hid (Num.vQ p at' s=(List.range cl).map f):=by rw [hc.1,hf];rfl
 have U3:Hid (f s=(Num.look (Num.dh p s) at').xd):=by rw [hf];exact if_pos rfl
 have HFN:Hid (∀j,j≠s->f j=-((Num.look (Num.dh p s) at').x[j]?.getD 0)):=by intro j hj;rw [hf];exact if_neg hj
 clear hc hr ha hm hg hf;have KF:Hid (∀w',Below w.heap.size w w'->Calls Tryz.prog 102 #[.agg #[.slice ca cl cc,.slice ra rl rc],.slice aa al ac,.int .i64 s] w' fun e w''=>∃xa xc,e=.returned (.agg #[.slice xa (cl+rl) xc,.int .i64 (Num.look (Num.dh p s) at').xd])/\Ints w'' xa (cl+rl) (Num.look (Num.dh p s) at').x/\Below w'.heap.size w' w''):=fun w' h =>
  BJ ca cl cc ra rl rc p w' (Ints.below HC.out h (Nat.le_refl _)) (ay.below HR.out h (Nat.le_refl _)) HM.out aa al ac at' (Ints.below HA.out h (Nat.le_refl _)) HG.out s hs
 generalize Num.look (Num.dh p s) at'=L at *;obtain ⟨er,lx,dx,ly,dy,lg,dg⟩:=L;dsimp only at *;obtain ⟨i0,hif,hz0,hz1,hz2⟩:=info_parts Tryz.ja;have HB0:Hid _:=oV (Below.refl ((w.alloc (.cells #[.slice ca cl cc,.slice ra rl rc] 28)).alloc (.cells #[.slice none 0 0,.int .i64 0] 64)).heap.size ((w.alloc (.cells #[.slice ca cl cc,.slice ra rl rc] 28)).alloc (.cells #[.slice none 0 0,.int .i64 0] 64)));go_enter Tryz.func87,Tryz.ntmps87;go_wp2_with fail;refine (KF.out _ HB0.out.2.2.2.2).mono ?_;rintro e w1 ⟨xa,xc,rfl,hix,hb1⟩;have kQ:Hid (Ints w1 xa (cl+rl) lx):=hix;have hz:=(oV hb1).2.2.2.1;obtain ⟨⟨k0,k1⟩,_⟩:=oV hb1;clear hix KF HB0;have hb2:=ai hb1 (af w1 (.cells #[.slice xa (cl+rl) xc,.int .i64 dx] 64));have FQ:Hid (Ints (w1.alloc (.cells #[.slice xa (cl+rl) xc,.int .i64 dx] 64)) xa (cl+rl) lx):=Ints.below kQ.out (af _ _) (Nat.le_refl _);have p0:=(aU (w:=w1) rfl (.slice xa (cl+rl) xc) (.int .i64 dx) 64).1;have p1:=(aU (w:=w1) rfl (.slice xa (cl+rl) xc) (.int .i64 dx) 64).2;have hs1:(w1.alloc (.cells #[.slice xa (cl+rl) xc,.int .i64 dx] 64)).heap.size=w1.heap.size+1:=by simp
 have k0':=carry (af w1 (.cells #[.slice xa (cl+rl) xc,.int .i64 dx] 64)) k0;clear kQ k1;go_wp2_with (at_make;refine wpList_make_full _ rfl (.tmp 16) (.tmp 16) 25 rfl (w1.heap.size+1) 2 i0 (.int .i64 0) 1 Tryz.underlying25 hif hz0 hz1 .i64 .i64 _ _ cl rfl rfl rfl rfl (by rw [hz2];omega) (by unfold maxLen;omega) (by simp) ?_;intro w3 hown hgrow;have ny:=bY hgrow;have HO:Hid (Own w3 (w1.heap.size+1) (w1.heap.size+1) cl (Num.fill f cl 0)):=Own.made _ (by rw [hs1] at hown;exact hown);(try rw [hs1]);clear hown hgrow);generalize hW2:w1.alloc (.cells #[.slice xa (cl+rl) xc,.int .i64 dx] 64)=W2 at *;generalize w1.heap.size=b1 at *;clear hW2 hb1 k0 k0';go_loopw [20] (fun i wr=>∃k:Nat,k<=cl/\i=.int .i64 k/\Own wr (b1+1) (b1+1) cl (Num.fill f cl k)/\Below W2.heap.size W2 wr) (fun i _=>cl - (intOf i).toNat)
 case atStart=>exact ⟨0,Nat.zero_le _,rfl,HO.out,ny⟩
 case round =>
  obtain ⟨k,hk,rfl,hO,hbl⟩:=hrel;have Ev:Hid _:=hO;clear HO ny;have q0:=carry hbl p0;have q1:=carry hbl p1;have hb3:=ai hb2 hbl;obtain ⟨_,⟨k2,k3⟩,⟨k4,k5⟩,hz',hB⟩:=oV hb3;clear p0 p1;by_cases hlt:k < cl
  ·obtain ⟨⟨u,u0⟩,u1⟩:=hO.cell' k hlt;have hg:=hO.lt.2;clear hO;rcases (Ints.below FQ.out hbl (Nat.le_refl _)).2 with h|⟨b',o',ha',hb',hc'⟩
   ·omega
   have hck:=hc' k (by omega);have hbd:=HXB.out k;have HV:Hid (k≠s->-(lx[k]?.getD 0)=f k):=fun h=>(HFN.out k h).symm;clear hc';generalize lx[k]?.getD 0=x at *;have hwn:wrap64 (-x)=-x:=IntWalk.wrap64_in _ (by omega);have hkI:(k:Int) < (cl:Int)+(rl:Int):=by omega
   subst ha';by_cases hks:k=s
   ·have ag0:((k:Int) == (s:Int))=true:=beq_iff_eq.2 (by omega);have ZY:Hid _:=hks;clear hks;go_wp2_with fail;go_roundw
    case rel=>exact ⟨k+1,hlt,by go_num,by rw [<-Num.gJ _ _ _ dx hlt (by rw [ZY.out];exact U3.out.symm)];have:=Own.store (Own.store Ev.out k (-x)) k dx;rw [List.set_set] at this;exact this,aV (aV hbl (by omega) _) (by omega) _⟩
    case measure=>simp [intOf];omega
   ·have ag0:((k:Int) == (s:Int))=false:=beq_eq_false_iff_ne.2 (by omega);go_wp2_with fail;go_roundw
    case rel=>exact ⟨k+1,hlt,by go_num,by rw [<-Num.gJ _ _ _ (-x) hlt (HV.out hks)];exact Own.store Ev.out k (-x),aV hbl (by omega) _⟩
    case measure=>simp [intOf];omega
  ·have hke:k=cl:=by omega
   subst hke;have hg:=hO.lt.2;clear hO;go_wp2_with fail;refine bodyPost_ret (v:=.agg #[.slice (some ⟨b1+1,0,none⟩) k k,.int .i64 1]) (by simp [results,Tryz.results87,go_sem,k2,k3]) rfl ⟨_,rfl,by omega,?_,?_⟩
   ·rw [HF.out,<-Num.iN];exact Ints.jU (Ints.jU (Own.ints Ev.out) (by omega) _) (by omega) _
   ·exact aV (aV hB (by omega) _) (by omega) _
open Go.RowKit
def Num.ax (s k:Nat) : List Int:=((List.range k).filter fun j=>s / 2 ^ j % 2 == 1).map fun (j:Nat)=>(j:Int)
theorem Num.qB (s k:Nat) : Num.ax s (k+1)=if s / 2 ^ k % 2 == 1 then Num.ax s k ++ [(k:Int)] else Num.ax s k:=by
 unfold Num.ax;rw [List.range_succ,List.filter_append,List.map_append];split
 ·rename_i h;rw [List.filter_cons,if_pos h];rfl
 ·rename_i h;rw [List.filter_cons,if_neg h];simp
theorem Num.M6:∀s:Fin 256,(bits BinOp.and IntKind.i64 ((s.val:Nat) : Int) 1 == 1)=(s.val % 2 == 1):=by decide +kernel
theorem Num.FW (s k:Nat) (hk:k<=8) (h:s / 2 ^ k=0) : Num.ax s 8=Num.ax s k:=by
 have key:∀d,Num.ax s (k+d)=Num.ax s k:=by
  intro d
  induction d with
  | zero=>rfl
  | succ d ih =>
   rw [<-Nat.add_assoc,Num.qB,if_neg,ih];have:s / 2 ^ (k+d)=0:=by rw [Nat.pow_add,<-Nat.div_div_eq_div_mul,h,Nat.zero_div]
   rw [this];decide
 have:=key (8 - k);rw [show k+(8 - k)=8 by omega] at this;exact this
theorem FX (s:Nat) (hs:s < 256) (w:World) :
  Calls Tryz.prog 86 #[.int .i64 s] w fun e w'=>∃a n c,e=.returned (.slice a n c)/\Ints w' a n (Num.ax s 8)/\(n=0\/∃g,a=some ⟨g,0,none⟩/\w.heap.size<=g)/\n<=8/\Below w.heap.size w w':=by
 obtain ⟨i0,hif,hz0,hz1,hz2⟩:=info_parts Tryz.mV;go_enter Tryz.func86,Tryz.ntmps86;go_wp2_with fail;go_loopw [3,4] (fun v i wr=>∃k:Nat,k<=8/\i=.int .i64 k/\wr.ownsRow w.heap.size 3 1 v (Num.ax s k).length ((Num.ax s k).map (Value.int .i64))/\Below w.heap.size w wr) (fun _ i _=>8 - (intOf i).toNat)
 case atStart=>exact ⟨0,Nat.zero_le _,rfl,World.ownsRow_nil _ _ _ _,Below.refl _ _⟩
 case round =>
  obtain ⟨k,hk,rfl,hO,hbl⟩:=hrel;obtain ⟨va,vc,hv⟩:=dW hO;subst hv;have HO:Hid (wr.ownsRow w.heap.size 3 1 (.slice va (Num.ax s k).length vc) (Num.ax s k).length ((Num.ax s k).map (Value.int .i64))):=hO;have hlen:(Num.ax s k).length<=k:=by unfold Num.ax;rw [List.length_map];exact Nat.le_trans (List.length_filter_le _ _) (by simp)
  obtain ⟨sj,hsj⟩ : ∃sj:Nat,sj=s / 2 ^ k:=⟨_,rfl⟩;have hsh:((s:Int) / 2 ^ k)=(sj:Int):=by rw [hsj];simp
  have hsd:(s:Int) / 2 ^ min k 64=(sj:Int):=by rw [Nat.min_eq_left (by omega)];exact hsh
  have U4:sj < 256:=by rw [hsj];exact Nat.lt_of_le_of_lt (Nat.div_le_self _ _) hs
  have YN:Hid (sj=s / 2 ^ k):=hsj;have hbit:=Num.M6 ⟨sj,U4⟩;dsimp only at hbit;clear hO hsj U4;by_cases h0:sj=0
  ·have h0':((sj:Int) == 0)=true:=by rw [h0];rfl
   have HE:Hid (Num.ax s 8=Num.ax s k):=Num.FW s k hk (by rw [<-YN.out];exact h0);clear hbit;go_wp2_with fail;obtain ⟨a',c',hv,hints,ku⟩:=Ints.jr HO.out rfl;go_ret;refine ⟨va,_,vc,rfl,?_,?_,by omega,hbl⟩
   ·rw [HE.out];injection hv with h1 h2 h3;rw [h1];exact hints
   ·injection hv with h1 h2 h3;rw [h1];exact ku
  ·have h0':((sj:Int) == 0)=false:=by simpa using h0
   have aF5:((sj:Int) != 0)=true:=by simp [bne,h0']
   have hk8:k < 8:=by
    rcases Nat.lt_or_ge k 8 with h|h
    ·exact h
    ·exfalso;apply h0;rw [YN.out];exact Nat.div_eq_of_lt (Nat.lt_of_lt_of_le hs (Nat.le_trans (by decide:256<=2 ^ 8) (Nat.pow_le_pow_right (by omega) h)))
   have HN:Hid (Num.ax s (k+1)=if sj % 2 == 1 then Num.ax s k ++ [(k:Int)] else Num.ax s k):=by rw [YN.out];exact Num.qB s k
   cases hb2:(sj % 2 == 1) with
   | true =>
    have hbt:(bits BinOp.and IntKind.i64 (sj:Int) 1 == 1)=true:=hbit.trans hb2;have G6:Hid (Num.ax s (k+1)=Num.ax s k ++ [(k:Int)]):=by rw [HN.out,hb2];rfl
    clear hbit hb2 HN YN;generalize Num.ax s k=l at *;have hsz:=hbl.size;go_wp2_with (at_builtin;refine wpList_append_own _ rfl (.tmp 16) (.tmp 18) 62 rfl w.heap.size 3 i0 (.int .i64 0) 1 8 Tryz.underlying62 hif hz0 hz1 hz2 rfl (by decide) _ _ _ rfl (by exact World.ownsRow.alloc HO.out _) ⟨wr.heap.size,0,none⟩ 1 1 [.int .i64 k] rfl rfl ?Sk ?Sl ?Sm ?Sn ?Sr ?_)
    case Sk=>first|exact eu rfl _ _|exact dQ rfl _ _
    case Sl=>first|rfl|(intro u hu;simp at hu;subst hu;rfl)
    case Sm=>unfold maxLen;omega
    case Sn=>omega
    case Sr=>first|omega|(simp;omega)
    intro v' w1 hown' hgrow _;have hB:Below w.heap.size w w1:=Below.grown (ai hbl (af _ _)) hgrow (by simp;omega) (fun j hj=>(World.ownsRow.lt HO.out j hj).1);obtain ⟨a',c',hv'⟩:=dW hown';subst hv';have HW:Hid (w1.ownsRow w.heap.size 3 1 (.slice a' (l.length+1) c') (l.length+1) (l.map (Value.int .i64) ++ [.int .i64 k])):=hown';clear hown' hgrow;go_wp2_with fail;go_roundw
    case rel =>refine ⟨k+1,by omega,by go_num,?_,hB⟩;rw [G6.out,List.length_append,List.map_append];exact HW.out
    case measure=>simp [intOf];omega
   | false =>
    have hbt:(bits BinOp.and IntKind.i64 (sj:Int) 1 == 1)=false:=hbit.trans hb2;have G6:Hid (Num.ax s (k+1)=Num.ax s k):=by rw [HN.out,hb2];rfl
    clear hbit hb2 HN YN;go_wp2_with fail;go_roundw
    case rel=>exact ⟨k+1,by omega,by go_num,by rw [G6.out];exact HO.out,hbl⟩
    case measure=>simp [intOf];omega
namespace Num
theorem La (p:Lp) (at':List Int) (m n:Nat) (au:p.may=true) (hm:m=p.rows.length) (hn:n=p.costs.length) (hg:Good p at' m n) (h:cz p at'=([],2,0)) :
  ∃s:Nat,eT (look p at').g (look p at').g.length=s/\s < n+m/\gK at' m s=false/\0 < aT p at' m*(aO p at' m (n+m))[s]?.getD 0/\∀k,k < m->aT p at' m*(cu p at' m s)[k]?.getD 0<=0:=by
 obtain ⟨e1,e2⟩:=(iY p at' m n au hm hn).2 hg;obtain ⟨l1,l2,l3,l4,_⟩:=vE p at' m n au hm hn hg;obtain ⟨_,_,_,_,_,gx,gg,Di,Ia,hx,_,hgn⟩:=bK p at' m n au hm hn hg.right hg.den;unfold cz at h;rw [if_neg (by omega),if_neg (by rw [e2];decide),l1,l2] at h;rw [l1];rcases l5 (look p at').g (n+m) with ⟨f1,f2⟩|⟨s,f1,f2,f3,f4⟩
 ·rw [f1,if_pos (by omega)] at h;simp at h
 ·rw [f2,if_neg (by omega),Int.toNat_natCast] at h;have hsb:=Dk p at' m n au hm hn hg s f3;obtain ⟨_,_,_,gv,Xu,hv⟩:=lJ p at' m n s au hm hn hg;rcases vD at' (look p at').x (look (dh p s) at').x m with ⟨o1,o2⟩|⟨o,o1,o2,o3,o4⟩
  ·refine ⟨s,f2,f1,hsb,?_,fun k hk=>?_⟩
   ·rw [hgn s];exact (gu _ _ Ia).2 f3
   ·rw [hv k hk];exact Int.mul_nonpos_of_nonneg_of_nonpos (Int.le_of_lt Xu) (o2 k hk)
  ·rw [o2,if_neg (by omega)] at h;simp at h
theorem WB (p:Lp) (at':List Int) (m:Nat) : aT p at' m≠0:=by unfold aT;split<;>omega
def bH (p:Lp) (at':List Int) : List Int×Int×Int:=pt ((look p at').x.take p.costs.length) (look p at').xd
theorem Lb (p:Lp) (at':List Int) (m n:Nat) (au:p.may=true) (hm:m=p.rows.length) (hn:n=p.costs.length) (hg:Good p at' m n) :
  (bH p at').2.2=0/\(bH p at').1.length=n/\dn (bH p at').2.1 (bH p at').1=true/\∀j,j < n->(xL p at' m (n+m))[j]?.getD 0*(bH p at').2.1=(bH p at').1[j]?.getD 0*aF p at' m:=by
 have NR:=(p.aj au).1.2;obtain ⟨_,l1,_,d1,b1,gx,gg,Di,Ia,hx,hd,_⟩:=bK p at' m n au hm hn hg.right hg.den;obtain ⟨x,xd,x1,x2,x3,x4⟩:=Io ((look p at').x.take n) (look p at').xd (by omega) (by omega) (fun j=>by
  have:=b1 j;rw [List.getElem?_take];split
  ·omega
  ·simp) (by simp;omega)
 unfold bH;rw [<-hn,x1];refine ⟨rfl,by rw [x2,List.length_take];omega,x3,fun j hj=>?_⟩;have h1:=x4 j;rw [List.getElem?_take,if_pos hj] at h1;have h2:=hx j;refine Int.eq_of_mul_eq_mul_left (WB p at' m) ?_;show aT p at' m*((xL p at' m (n+m))[j]?.getD 0*xd)=aT p at' m*(x[j]?.getD 0*aF p at' m);have e1:aT p at' m*((xL p at' m (n+m))[j]?.getD 0*xd)=gx*((look p at').x[j]?.getD 0*xd):=by
  have:aT p at' m*((xL p at' m (n+m))[j]?.getD 0*xd)=aT p at' m*(xL p at' m (n+m))[j]?.getD 0*xd:=by grind
  rw [this,h2];grind
 have e2:aT p at' m*(x[j]?.getD 0*aF p at' m)=gx*(x[j]?.getD 0*(look p at').xd):=by
  have:aT p at' m*(x[j]?.getD 0*aF p at' m)=aT p at' m*aF p at' m*x[j]?.getD 0:=by grind
  rw [this,hd];grind
 rw [e1,e2,h1]
def lD (p:Lp) (at':List Int) (k:Int) : pK :=
 if k=2 then ⟨2,(bH p at').1,(bH p at').2.1,[],0,vQ p at' (eT (look p at').g (look p at').g.length).toNat,1,0,0⟩
 else ⟨k,(bH p at').1,(bH p at').2.1,(look p at').y,(look p at').yd,[],0,(worth p (bH p at').1 (bH p at').2.1).1,(worth p (bH p at').1 (bH p at').2.1).2.1⟩
theorem WC (p:Lp) (at':List Int) (m n:Nat) (au:p.may=true) (hm:m=p.rows.length) (hn:n=p.costs.length) (hg:Good p at' m n) :
  (look p at').y.length=m/\dn (look p at').yd (look p at').y=true/\∀i:Nat,(av p at' m)[i]?.getD 0*(look p at').yd=(look p at').y[i]?.getD 0*aF p at' m:=by
 have h1:1<=m:=by have:=(p.aj au).2.2.1.1;omega
 have h4:m<=4:=by have:=(p.aj au).2.2.1.2;omega
 have hb:=jA p at' m au h1 h4;have pb:=qR p at' m au hm;obtain ⟨y,yd,y1,y2,y3,y4⟩:=Io (av p at' m) (aF p at' m) hg.den (by omega) (fun j=>by have:=pb j;omega) (by unfold av aL;simp;omega);have hy:(look p at').y=y/\(look p at').yd=yd:=by unfold look;rw [if_neg (by simp [au]),if_neg (by rw [<-hm,<-hn,hg.right];decide),if_neg (by rw [<-hm];exact hg.den),<-hm];exact ⟨by show (pt (av p at' m) (aF p at' m)).1=y;rw [y1],by show (pt (av p at' m) (aF p at' m)).2.1=yd;rw [y1]⟩
 rw [hy.1,hy.2];exact ⟨by rw [y2];unfold av aL;simp,y3,y4⟩
theorem DJ (p:Lp) (at':List Int) (m n:Nat) (au:p.may=true) (hm:m=p.rows.length) (hn:n=p.costs.length) (hg:Good p at' m n) (k:Int) (hk:cz p at'=([],k,0)) (hk0:k≠0) : (k=1\/k=2)/\holds p (lD p at' k)=true:=by
 have h1:1<=m:=by have:=(p.aj au).2.2.1.1;omega
 have h4:m<=4:=by have:=(p.aj au).2.2.1.2;omega
 have NR:=(p.aj au).1;obtain ⟨v1,v2,v3,v4⟩:=Lb p at' m n au hm hn hg;have hgo:=Bz p at' m n au hm hn hg _ _ v2 v3 v4;rcases qW p at' m n au hm hn hg with ⟨e,ht⟩|⟨e,_⟩|⟨nx,e,_⟩
 ·rw [hk] at e;simp only [Prod.mk.injEq,and_true,true_and] at e;subst e;refine ⟨Or.inl rfl,?_⟩;have hT:Ii p at' m n:=⟨hg,ht⟩;obtain ⟨y1,y2,y3⟩:=WC p at' m n au hm hn hg;have hb:=jA p at' m au h1 h4;have b1:=jq p.costs (xL p at' m (n+m)) 400 497664 (aJ _ _ (p.aj au).2.1 (by omega)) (We p at' m (n+m) au hm) n;obtain ⟨w1,_⟩:=uC p at' m n au hm hn hg.right hg.den _ _ _ _ v4 (fun i _=>y3 i);obtain ⟨hfit,_,hxd,Xq,_⟩:=nK p _ _ hgo;have b2:=jq p.costs (bH p at').1 400 1073741824 (aJ _ _ (p.aj au).2.1 (by omega)) (aJ _ _ Xq (by omega)) n;have hs:=xI (dotN p.costs (bH p at').1 n) (bH p at').2.1 (dotN p.costs (xL p at' m (n+m)) n) (aF p at' m) w1 (by omega) hg.den (by omega) (by omega) (by omega) (by omega);obtain ⟨l,ld,l1,l2,_,_⟩:=Io [dotN p.costs (xL p at' m (n+m)) n] (aF p at' m) hg.den (by omega) (fun j=>by
   match j with
   | 0=>simp;omega
   | j+1=>simp) (by simp)
  have hmk:(mk (dotN p.costs (xL p at' m (n+m)) n) (aF p at' m)).2.2=0:=by refine Classical.byContradiction fun hz=>?_;have:=(rT _ _ _ _ _ rfl hz).1;rw [l1] at this;simp only [Prod.mk.injEq] at this;exact hz this.2.2.symm
  have hw:worth p (bH p at').1 (bH p at').2.1=mk (dotN p.costs (bH p at').1 n) (bH p at').2.1:=by
   unfold worth;have hf:p.fits (bH p at').1 (bH p at').2.1=true:=by unfold Lp.goes at hgo;simp only [Bool.and_eq_true] at hgo;exact hgo.1.1
   rw [if_pos hf,v2]
  unfold lD;rw [if_neg (by omega),lY p _ au rfl];simp only [Bool.and_eq_true];refine ⟨?_,PH p at' m n au hm hn hT _ v2 v3 v4 y1 y2 (fun i _=>y3 i) ?_⟩
  ·rfl
  ·show mk (dotN p.costs (bH p at').1 n) (bH p at').2.1=(_,_,0);rw [hw,hs,<-hmk]
 ·rw [hk] at e;simp only [Prod.mk.injEq,and_true,true_and] at e;subst e;refine ⟨Or.inr rfl,?_⟩;obtain ⟨s,s1,s2,s3,s4,s5⟩:=La p at' m n au hm hn hg hk;have hR:=Dm p at' m n s au hm hg s2 s3 s4 s5;obtain ⟨_,l1,_,d1,b1,gx,_,Di,_,hx,hd,_⟩:=bK (dh p s) at' m n (Ko p s au) (by rw [Dj];exact hm) hn hg.right (by rw [xD p s at' m hm];exact hg.den);rw [Kq p s at' m hm] at hx hd;rw [xD p s at' m hm] at hd;have hr:∀j,j < n->(vQ p at' s)[j]?.getD 0=if j=s then (look (dh p s) at').xd else -((look (dh p s) at').x[j]?.getD 0):=fun j hj=>by
   unfold vQ;rw [aA,if_pos (by omega)]
  unfold lD;rw [if_pos rfl,rE p _ au rfl,s1,Int.toNat_natCast];simp only [Bool.and_eq_true];refine ⟨?_,Fw p m n au hm hn _ hR _ hgo rfl (by show (vQ p at' s).length=n;unfold vQ;simp;omega) (fun j hj=>?_) 1 gx (by omega) Di fun j hj=>?_⟩
  ·exact ⟨rfl,rfl⟩
  ·show (vQ p at' s)[j]?.getD 0<=_;rw [hr j hj];have:=b1 j;split<;>omega
  ·show aT p at' m*bA p at' m (n+m) s j*1=(vQ p at' s)[j]?.getD 0*gx;rw [hr j hj];by_cases hjs:j=s
   ·subst hjs;rw [if_pos rfl];unfold bA;rw [if_pos rfl,hd];grind
   ·rw [if_neg hjs];have hxj:=hx j;cases hb:gK at' m j with
    | false =>
     rw [iD p at' m (n+m) s j hb hjs];rw [yG (dh p s) at' m (n+m) j hb] at hxj;have:(look (dh p s) at').x[j]?.getD 0=0:=by
      have h0:gx*(look (dh p s) at').x[j]?.getD 0=0:=by rw [<-hxj];omega
      rcases Int.mul_eq_zero.1 h0 with h|h
      ·omega
      ·exact h
     rw [this];omega
    | true =>obtain ⟨i,hi,rfl⟩:=(bD at' m j).1 hb;rw [lZ p at' m (n+m) s i hg.right hi s3];rw [UQ p s at' m (n+m) hm,lI (n+m) at' _ m hg.right m (Nat.le_refl _) i hi] at hxj;rw [Int.mul_neg,hxj];grind
 ·rw [hk] at e;simp only [Prod.mk.injEq] at e;exact absurd e.2.1 hk0
def setOf (at':List Int) : Nat:=(at'.map fun x=>2 ^ x.toNat).foldl (· + ·) 0
theorem Qt:∀n m:Fin 4,(Av (m+1) (n+1+(m+1))).all (fun l=>decide (0 < setOf l) && decide (setOf l < 2 ^ (n.val+1+(m.val+1))) && (ax (setOf l) 8 == l))=true:=by decide +kernel
theorem vR (at':List Int) (m n:Nat) (h1:1<=m) (h4:m<=4) (hn1:1<=n) (NR:n<=4) (hr:aH at' m (n+m)=true) : ∃q,0 < q/\q < 2 ^ (n+m)/\ax q 8=at':=by have hmem:=FE at' m n h1 h4 hn1 NR hr;obtain ⟨m,rfl⟩ : ∃k,m=k+1:=⟨m - 1,by omega⟩;obtain ⟨n,rfl⟩ : ∃k,n=k+1:=⟨n - 1,by omega⟩;have h:=Qt ⟨n,by omega⟩ ⟨m,by omega⟩;rw [List.all_eq_true] at h;have:=h at' hmem;simp only [Bool.and_eq_true,decide_eq_true_eq,beq_iff_eq] at this;exact ⟨setOf at',this.1.1,this.1.2,this.2⟩
def Tried (p:Lp) (m q:Nat) : Prop:=(look p (ax q 8)).err=0->bO (look p (ax q 8)).x=true/\∀k,k < m->(look p (ax q 8)).x[aZ (ax q 8) k]?.getD 0 < 0->holds p (qo p (ax q 8) (aZ (ax q 8) k))=false
theorem M7 (p:Lp) (m n:Nat) (au:p.may=true) (hm:m=p.rows.length) (hn:n=p.costs.length) : ¬ ∀q,0 < q->q < 2 ^ (n+m)->Tried p m q:=by
 intro h;have h1:1<=m:=by have:=(p.aj au).2.2.1.1;omega
 have h4:m<=4:=by have:=(p.aj au).2.2.1.2;omega
 have NR:=(p.aj au).1;rcases xg p m n au hm hn with ⟨g,hg⟩|⟨at',c,y,D,hR⟩
 ·obtain ⟨q,q1,q2,q3⟩:=vR g m n h1 h4 (by omega) (by omega) hg.right;have ht:=h q q1 q2;unfold Tried at ht;rw [q3] at ht;obtain ⟨e1,e2⟩:=(iY p g m n au hm hn).2 hg;have:=(ht e1).1;rw [e2] at this;exact absurd this (by decide)
 ·obtain ⟨q,q1,q2,q3⟩:=vR at' m n h1 h4 (by omega) (by omega) hR.right;have ht:=h q q1 q2;unfold Tried at ht;rw [q3] at ht;obtain ⟨e0,_,_,_,_,gx,gg,Di,_,hx,_⟩:=bK p at' m n au hm hn hR.right hR.den;obtain ⟨k,hk,hkc⟩:=(bD at' m c).1 hR.col;have hneg:(look p at').x[aZ at' k]?.getD 0 < 0:=by rw [hkc];have hb:=hR.below;rw [hx c] at hb;refine Int.not_le.1 fun h0=>?_;have:=Int.mul_nonneg (Int.le_of_lt Di) h0;omega
  have:=(ht e0).2 k hk hneg;rw [hkc,Ar p at' m n c y D au hm hn hR] at this;exact absurd this (by decide)
theorem FY (p:Lp) (at':List Int) (m n:Nat) (hm:m=p.rows.length) (hn:n=p.costs.length) (h:(look p at').err=0) : aH at' m (n+m)=true/\aF p at' m≠0:=by
 unfold look at h;split at h
 ·simp [iH] at h
 ·split at h
  ·simp [iH] at h
  ·split at h
   ·simp [iH] at h
   ·rename_i h2 h3;rw [<-hm,<-hn] at h2;rw [<-hm] at h3;exact ⟨by simpa using h2,h3⟩
end Num
end Go.Proofs.YtipcbhodlgoflabGreatDoor
