/- Package drive: look. -/
import Derived.Test.YtipcbhodlgoflabGreatDoorDrvM
import Derived.Test.YtipcbhodlgoflabGreatDoorSwpB
import Derived.Test.YtipcbhodlgoflabGreatDoorRowA
import Derived.Deep.RegionLaw
set_option maxHeartbeats 3200000
set_option maxRecDepth 8000
namespace Go.Proofs.YtipcbhodlgoflabGreatDoor
open Go.RowKit
theorem GK {w:World} {b:Nat} {a0 a1:Value} (c0:w.cell? ⟨b,0,none⟩=some a0) (c1:w.cell? ⟨b,1,none⟩=some a1) (u v:Value) :
  ((w.setCell ⟨b,0,none⟩ u).setCell ⟨b,1,none⟩ v).cell? ⟨b,0,none⟩=some u/\((w.setCell ⟨b,0,none⟩ u).setCell ⟨b,1,none⟩ v).cell? ⟨b,1,none⟩=some v :=
 ⟨by rw [ag (by decide)];exact aN c0,aN (by rw [ag (by decide)];exact c1)⟩
theorem ND (P:Nat) (ca:Option Addr) (cl cc:Nat) (ra:Option Addr) (rl rc:Nat) (p:Num.Lp) (w:World) (h:Has P w ca cl cc ra rl rc p) (hL:Laid w) (na:Option Addr) (nl nc:Nat) (m:List Int) (hm:Ints w na nl m) (h5:nl<=5) :
  Calls Tryz.prog 79 #[.pointer (some ⟨P,0,none⟩),.slice na nl nc] w fun e w'=>e=.returned (.string (B8 (Num.jD p m)))/\Below w.heap.size w w':=by
 have HH:Hid (Has P w ca cl cc ra rl rc p):=h;have HT:Hid (Laid w):=hL;have HM:Hid (Ints w na nl m):=hm;have kZ:Hid (cl=p.costs.length):=h.costs.1;have q0:∀w',Below w.heap.size w w'->w'.cell? ⟨P,0,none⟩=some (.slice ca cl cc):=fun w' k=>carry k HH.out.c0;have q1:∀w',Below w.heap.size w w'->w'.cell? ⟨P,1,none⟩=some (.slice ra rl rc):=fun w' k=>carry k HH.out.c1;have R7:Hid (P < w.heap.size):=World.block_lt_of_cell? w _ h.c0;have Uo:Hid (Num.jD p m=if (Num.look p m).err≠0 then Num.dC Num.iK (Num.look p m).err
   else (if Num.bO (Num.look p m).x=true then Num.Nu else Num.BU) ++ 32 :: Num.bg (Num.mk (Num.dotN p.costs (Num.look p m).x cl) (Num.look p m).xd).1 (Num.mk (Num.dotN p.costs (Num.look p m).x cl) (Num.look p m).xd).2.1):=show _=_ by rw [kZ.out];rfl
 have xA:=Num.BZ p m h.may;have Zo:=Num.uR p m;have KC:Hid (∀w',Below w.heap.size w w'->Calls Tryz.prog 116 #[.slice na nl nc] w' fun e w''=>∃g,e=.returned (.slice (some ⟨g,0,none⟩) nl nl)/\Ints w'' (some ⟨g,0,none⟩) nl m/\Below w.heap.size w w''/\Below w'.heap.size w' w''):=by intro w' k;refine (uQ na nl nc m w' (HM.out.below k (Nat.le_refl _)) h5).mono ?_;rintro e w'' ⟨g,rfl,hi,hb⟩;exact ⟨g,rfl,hi,ai k hb,hb⟩
 have KL:Hid (∀w' g,Below w.heap.size w w'->Ints w' (some ⟨g,0,none⟩) nl m->Calls Tryz.prog 23 #[.agg #[.slice ca cl cc,.slice ra rl rc],.slice (some ⟨g,0,none⟩) nl nl] w' fun e w''=>∃xa xl xc ya yl yc ga gl gc uy ug,e=.returned (.tuple #[.agg #[.slice xa xl xc,.int .i64 (Num.look p m).xd,.slice ya yl yc,.int .i64 uy,.slice ga gl gc,.int .i64 ug],.int .i64 (Num.look p m).err])/\Below w.heap.size w w''/\(Ints w'' xa xl (Num.look p m).x/\xl<=xc/\xl<=8)/\Below w'.heap.size w' w''):=by intro w' g k hi;have h':=HH.out.later k;refine (lU ca cl cc ra rl rc p w' h'.costs (by have:=h'.NW;omega) h'.rows (by have:=h'.Jt;omega) _ nl nl m hi (by omega)).mono ?_;rintro e w'' ⟨xa,xl,xc,ya,yl,yc,ga,gl,gc,rfl,hx,_,_,TS,_,_,hb,⟨Ot,_,_⟩,_⟩;exact ⟨xa,xl,xc,ya,yl,yc,ga,gl,gc,_,_,rfl,ai k hb,⟨hx,Ot,TS⟩,hb⟩
 obtain ⟨u,v,ez,hmk⟩ : ∃u v ez,Num.mk (Num.dotN p.costs (Num.look p m).x cl) (Num.look p m).xd=(u,v,ez):=⟨_,_,_,rfl⟩;have NU:Hid (Num.mk (Num.dotN p.costs (Num.look p m).x cl) (Num.look p m).xd=(u,v,ez)):=hmk;have hsm:=Num.zN (Num.dotN p.costs (Num.look p m).x cl) (Num.look p m).xd;rw [hmk] at hsm;obtain ⟨hu,hv⟩:=hsm;dsimp only at hu hv;rw [hmk] at Uo;clear h hL hm hmk;generalize Num.look p m=L at *;obtain ⟨er,lx,dx,ly,dy,lg,dg⟩:=L;dsimp only at *;have ak9:Hid (lx.length=0\/2<=lx.length):=show _\/_ by
  rcases xA with ⟨_,h⟩|⟨_,h,_⟩
  ·left;rw [h];rfl
  ·right;have:=HH.out.rows.1;have:=HH.out.Jt;have:=(p.aj HH.out.may).1;omega
 have Zp:Hid ((er≠0/\lx=[])\/(er=0/\lx.length=p.costs.length+p.rows.length/\(∀j:Nat,-1073741824<=lx[j]?.getD 0/\lx[j]?.getD 0<=1073741824))):=xA;clear xA;go_enter Tryz.func79,Tryz.ntmps79;go_upto_region 1 with fail;go_cut [5,6] from 9 to 18 (fun s5 s6 wx=>∃bb:Nat,s5=.pointer (some ⟨bb,0,none⟩)/\s6=.int .i64 er/\(∃xa xl xc,Hid (CB bb xa xl xc dx lx wx/\xl<=8))/\Below w.heap.size w wx)
 case first =>
  go_region_held3 (fun w'=>Below w.heap.size w w') (first|(with_reducible assumption)|(with_reducible exact (Below.refl _ _).drew)|(with_reducible exact ((Below.refl _ _).alloc (Nat.le_refl _) _).drew)|(with_reducible refine Below.alloc ?_ ?_ _<;>first|(with_reducible assumption)|(apply Below.size;with_reducible assumption))|(with_reducible refine iO ?_ ?_ _ _ _ _ _ _<;>first|(with_reducible assumption)|(with_reducible exact Nat.le_refl _)|(apply Below.size;with_reducible assumption)))
   (first|(go_at_call 116;refine (KC.out _ ?_).mono ?_;with_reducible assumption;rintro e v1 ⟨g1,rfl,hI1,hb1,hk1⟩;(first|(with_reducible have hz2:=BI hk1)|(with_reducible have hz2:=zk hk1)|skip))
             | (go_at_call 23;(first|(with_reducible refine (KL.out _ _ ?_ hI1).mono ?_)|(with_reducible refine (KL.out _ _ ?_ (Ints.below hI1 (af _ _) (Nat.le_refl _))).mono ?_));with_reducible assumption;rintro e v3 ⟨xa,xl,xc,ya,yl,yc,ga,gl,gc,uy,ug,rfl,hb3,CK,hk3⟩;(first|(with_reducible have hz2:=ZC.step hz2 hk3)|(with_reducible have hz2:=BI hk3)|(with_reducible have hz2:=zk hk3)|skip)))
  ·rename_i hfin;have V4:Hid (CB v3.heap.size xa xl xc dx lx (v3.alloc (.cells #[.slice xa xl xc,.int .i64 dx,.slice ya yl yc,.int .i64 uy,.slice ga gl gc,.int .i64 ug] 75))/\xl<=8):=⟨CB.new v3 xa xl xc dx lx _ _ _ _ CK.1 CK.2.1,CK.2.2⟩;have jB:Hid (Below w.heap.size w (v3.alloc (.cells #[.slice xa xl xc,.int .i64 dx,.slice ya yl yc,.int .i64 uy,.slice ga gl gc,.int .i64 ug] 75))):=hfin;clear q0 q1 KC KL hI1 CK hfin;go_wp2_with fail;go_meet;exact ⟨v3.heap.size,rfl,rfl,⟨xa,xl,xc,V4⟩,jB.out⟩
  all_goals
   rename_i hfin;have jB:Hid _:=hfin;have V4:Hid _:=CB.late hz2 xa xl xc dx lx (.slice ya yl yc) (.int .i64 uy) (.slice ga gl gc) (.int .i64 ug) CK.1 CK.2.1 ak9.out _ rfl;have HX8:Hid (xl<=8):=CK.2.2;clear q0 q1 KC KL hI1 CK hfin hz2;go_wp2_with fail;go_meet;exact ⟨_,rfl,rfl,⟨xa,xl,xc,V4.out,HX8.out⟩,jB.out⟩
 case rest =>
  obtain ⟨bb,rfl,rfl,⟨xa,xl,xc,hcb⟩,hbw⟩:=hcut;generalize wc=W at *;obtain ⟨⟨⟨x0,x1⟩,hix,Ot⟩,TS⟩:=hcb.out;have kQ:Hid (Ints W xa xl lx):=hix;have hbb:bb < W.heap.size:=World.block_lt_of_cell? W _ x0;clear KC KL hcb hix;by_cases h0:er=0
  ·subst h0;have hxl:cl<=xl:=by
    rcases Zp.out with ⟨h,_⟩|⟨_,h,_⟩
    ·exact absurd rfl h
    ·have:=kQ.out.1;have:=kZ.out;omega
   have HXB:Hid (∀j:Nat,-1073741824<=lx[j]?.getD 0/\lx[j]?.getD 0<=1073741824):=by
    rcases Zp.out with ⟨h,_⟩|⟨_,_,h⟩
    ·exact absurd rfl h
    ·exact h
   have c0:=q0 W hbw;go_upto_region 4 with fail;clear q0 q1;go_cut [7,8] from 19 to 38 (fun s7 s8 wx=>∃b1:Nat,s7=.pointer (some ⟨b1,0,none⟩)/\s8=.int .i64 ez/\Hid (wx.cell? ⟨b1,0,none⟩=some (.int .i64 u)/\wx.cell? ⟨b1,1,none⟩=some (.int .i64 v))/\Below W.heap.size W wx)
   case first =>
    have q0:∀w',Below W.heap.size W w'->w'.cell? ⟨P,0,none⟩=some (.slice ca cl cc):=fun w' k=>carry k c0;have q1:∀w',Below W.heap.size W w'->w'.cell? ⟨bb,0,none⟩=some (.slice xa xl xc):=fun w' k=>carry k x0;have q2:∀w',Below W.heap.size W w'->w'.cell? ⟨bb,1,none⟩=some (.int .i64 dx):=fun w' k=>carry k x1;have KD:Hid (∀w',Below W.heap.size W w'->Calls Tryz.prog 99 #[.slice ca cl cc,.slice xa xl xc] w' fun e w''=>e=.returned (.int .i64 (Num.dotN p.costs lx cl))/\Below W.heap.size W w''/\Below w'.heap.size w' w''):=by intro w' k;exact (fE (wT ca xa cl cc xl xc p.costs lx w' 400 1073741824 (HH.out.costs.below (hbw.trans (k.mono hbw.size)) (Nat.le_refl _)) (kQ.out.below k (Nat.le_refl _)) hxl (by omega) (Num.aJ _ _ (p.aj HH.out.may).2.1 (by omega)) HXB.out (by have:=HH.out.NW;omega))).mono fun _ _ j=>⟨j.1,ai k j.2,j.2⟩
    have KM:Hid (∀w',Below W.heap.size W w'->Calls Tryz.prog 117 #[.int .i64 (Num.dotN p.costs lx cl),.int .i64 dx] w' fun e w''=>e=.returned (.tuple #[.agg #[.int .i64 u,.int .i64 v],.int .i64 ez])/\Below W.heap.size W w''/\Below w'.heap.size w' w''):=by intro w' k;exact (jv _ _ w' _ _ _ NU.out).mono fun _ _ j=>⟨j.1,ai k j.2,j.2⟩
    clear c0 x0 x1;generalize Num.dotN p.costs lx cl=D at KD KM;go_region_held3 (fun w'=>Below W.heap.size W w') (first|(with_reducible assumption)|(with_reducible exact (Below.refl _ _).drew)|(with_reducible exact ((Below.refl _ _).alloc (Nat.le_refl _) _).drew)|(with_reducible refine Below.alloc ?_ ?_ _<;>first|(with_reducible assumption)|(apply Below.size;with_reducible assumption))|(with_reducible refine Below.setCell (Below.setCell ?_ ?_ _) ?_ _<;>first|(with_reducible assumption)|(with_reducible exact Nat.le_refl _)|(apply Below.size;with_reducible assumption)))
     (first|(go_at_call 99;refine (KD.out _ ?_).mono ?_;with_reducible assumption;rintro e v1 ⟨rfl,hb1,hk1⟩;(try (have hz2:=lQ hk1)))
                 | (go_at_call 117;refine (KM.out _ ?_).mono ?_;with_reducible assumption;rintro e v2 ⟨rfl,hb2,hk2⟩;(first|(have hz2:=uY hk2 hz2)|(have hz2:=fO hk2)|(have hz2:=lQ hk2)|skip)))
    ·rename_i hfin;have HZ0:Hid _:=aU (w:=v2) rfl (.int .i64 u) (.int .i64 v) 66;have HG:Hid _:=hfin;clear q0 q1 q2 KD KM hfin;go_wp2_with fail;go_meet;exact ⟨_,rfl,rfl,HZ0.out,HG.out⟩
    all_goals
     rename_i hfin;have HG:Hid _:=hfin;obtain ⟨⟨z0,z1⟩,zr⟩:=hz2;have HZ0:Hid _:=GK z0 z1 (.int .i64 u) (.int .i64 v);clear q0 q1 q2 KD KM hfin zr;go_wp2_with fail;go_meet;exact ⟨_,rfl,rfl,HZ0.out,HG.out⟩
   case rest =>
    obtain ⟨b1,rfl,rfl,hz,hbx⟩:=hcut;obtain ⟨z0,z1⟩:=hz.out;have x0':=carry hbx x0;have W9:Hid (Ints wc xa xl lx):=kQ.out.below hbx (Nat.le_refl _);have hb1:b1 < wc.heap.size:=World.block_lt_of_cell? wc _ z0;have hBW:Below w.heap.size w wc:=hbw.trans (hbx.mono hbw.size);have hfl:=Num.gL u v hu hv;clear hz c0 x0 x1 hbb Ot;go_wp2_with fail;refine (lF xa xl xc lx wc W9.out (by omega)).mono ?_;rintro e w2 ⟨rfl,rfl⟩;cases hneg:Num.bO lx with
    | true =>
     have HE:Hid (B8 (Num.Nu ++ 32 :: Num.bg u v)=B8 (Num.jD p m)):=show _=_ by rw [Uo.out,if_neg (by omega),if_pos hneg]
     clear hneg;go_wp2_with fail;refine (nU u v hu hv _ (cO HT.out.tab hBW)).mono ?_;rintro e w3 ⟨rfl,hb3⟩;go_wp2_with fail;refine (mD _ Num.Nu (Num.bg u v) w3 rfl (by decide) (by omega)).mono ?_;rintro e w4 ⟨rfl,hb4⟩;go_wp2_with fail;go_ret;exact ⟨by rw [<-HE.out];rfl,ai (ai hBW hb3) hb4⟩
    | false =>
     have HE:Hid (B8 (Num.BU ++ 32 :: Num.bg u v)=B8 (Num.jD p m)):=show _=_ by rw [Uo.out,if_neg (by omega),if_neg (by rw [hneg];decide)]
     clear hneg;go_wp2_with fail;refine (nU u v hu hv _ (cO HT.out.tab hBW)).mono ?_;rintro e w3 ⟨rfl,hb3⟩;go_wp2_with fail;refine (mD _ Num.BU (Num.bg u v) w3 rfl (by decide) (by omega)).mono ?_;rintro e w4 ⟨rfl,hb4⟩;go_wp2_with fail;go_ret;exact ⟨by rw [<-HE.out];rfl,ai (ai hBW hb3) hb4⟩
  ·have h0':(er != 0)=true:=by simpa using h0
   have HE:Hid (B8 (Num.dC Num.iK er)=B8 (Num.jD p m)):=show _=_ by rw [Uo.out,if_pos h0]
   clear q0 q1 x0 x1;go_wp2_with fail;refine (uP er (by omega) (by omega) _ (cO HT.out.tab hbw)).mono ?_;rintro e w3 ⟨rfl,hb3⟩;go_wp2_with fail;go_ret;exact ⟨by rw [<-HE.out];rfl,ai hbw hb3⟩
open Go.RowKit
def fD (l:List Num.Pc) : List (List UInt8):=l.flatMap fun y=>[Num.bg y.bn y.bd,Num.bg y.sn y.sd]
theorem wY (x:List UInt8) (ws:List (List UInt8)) : Num.joinW 32 (x :: ws)=x ++ ws.flatMap (fun y=>32 :: y):=by
 induction ws generalizing x with
 | nil=>simp [Num.joinW]
 | cons y ws ih =>show x ++ 32 :: Num.joinW 32 (y :: ws)=_;rw [ih y];simp
theorem Ca (l:List Num.Pc) : (fD l).flatMap (fun y=>32 :: y)=Num.qL l:=by
 induction l with
 | nil=>rfl
 | cons y l ih =>show (([Num.bg y.bn y.bd,Num.bg y.sn y.sd] ++ fD l).flatMap fun y=>32 :: y)=_;rw [List.flatMap_append,ih];simp [Num.qL]
theorem Jv (l:List Num.Pc) (k:Nat) (y:Num.Pc) (h:l[k]? = some y) : fD (l.take (k+1))=fD (l.take k) ++ [Num.bg y.bn y.bd,Num.bg y.sn y.sd]:=by have hk:k < l.length:=(List.getElem?_eq_some_iff.1 h).1;have e:l[k]=y:=(List.getElem?_eq_some_iff.1 h).2;unfold fD;rw [List.take_succ_eq_append_getElem hk,List.flatMap_append,e];simp
theorem Ls (l:List Num.Pc) (h:∀y∈l,(Num.bg y.bn y.bd).length<=23/\(Num.bg y.sn y.sd).length<=23) : (Num.qL l).length<=48*l.length:=by
 induction l with
 | nil=>exact Nat.le_refl _
 | cons y l ih =>have h1:=h y (by simp);have h2:=ih (fun z hz=>h z (by simp [hz]));unfold Num.qL;rw [List.length_cons,List.length_append,List.length_cons,List.length_append,List.length_cons];omega
def SC (b:Nat) (V:World) (rb:Nat) (cs:Array Value) (w:World) : Prop:=Below b V w/\b<=V.heap.size/\w.heap[rb]? = some (.cells cs 90 (0,0))
theorem SC.drew {b rb:Nat} {V w:World} {cs:Array Value} (h:SC b V rb cs w) : SC b V rb cs w.drew:=⟨h.1.drew,h.2.1,h.2.2⟩
theorem SC.alloc {b rb:Nat} {V w:World} {cs:Array Value} (h:SC b V rb cs w) (o:Obj) : SC b V rb cs (w.alloc o) :=
 ⟨h.1.alloc (Nat.le_trans h.2.1 h.1.size) o,h.2.1,by rw [Lib.alloc_old w o rb (Array.getElem?_eq_some_iff.1 h.2.2).1];exact h.2.2⟩
theorem SC.below {b rb:Nat} {V w w':World} {cs:Array Value} (h:SC b V rb cs w) (hb:Below w.heap.size w w') : SC b V rb cs w' :=
 ⟨h.1.trans (hb.mono (Nat.le_trans h.2.1 h.1.size)),h.2.1,by rw [hb.block rb (Array.getElem?_eq_some_iff.1 h.2.2).1];exact h.2.2⟩
theorem SC.cell {b rb:Nat} {V w:World} {cs:Array Value} (h:SC b V rb cs w) (j:Nat) : w.cell? ⟨rb,j,none⟩=cs[j]? := Lib.cell_of_heap h.2.2 j
theorem DW {w:World} {k:Nat} (hk:k=w.heap.size) (x:List UInt8) {B:Nat} (hB:B<=k) : (w.alloc (.cells #[.string (B8 x)] 9)).ownsRow B 9 1 (.slice (some ⟨k,0,none⟩) 1 1) 1 (strs [x]) :=
 ⟨rfl,Or.inr ⟨k,1,#[.string (B8 x)],rfl,hB,fM hk _,Nat.le_refl _,by unfold maxLen;omega,rfl,rfl⟩⟩
theorem Jw (P:Nat) (ca:Option Addr) (cl cc:Nat) (ra:Option Addr) (rl rc:Nat) (p:Num.Lp) (w:World) (h:Has P w ca cl cc ra rl rc p) (hL:Laid w) (na:Option Addr) (nl nc:Nat) (m:List Int) (hm:Ints w na nl m) (h5:nl<=5) :
  Calls Tryz.prog 81 #[.pointer (some ⟨P,0,none⟩),.slice na nl nc] w fun e w'=>e=.returned (.string (B8 (Num.eH p m)))/\Below w.heap.size w w':=by
 have HH:Hid (Has P w ca cl cc ra rl rc p):=h;have HT:Hid (Laid w):=hL;have HM:Hid (Ints w na nl m):=hm;have kZ:Hid (cl=p.costs.length):=h.costs.1;have kz:Hid (rl=p.rows.length):=h.rows.1;have c0:=h.c0;have c1:=h.c1;clear h hL hm;obtain ⟨i0,hif,hz0,hz1,hz2⟩:=info_parts Tryz.xB;go_enter Tryz.func81,Tryz.ntmps81;go_wp2_with fail;refine (zJ ca cl cc ra rl rc p w HH.out.costs (by have:=HH.out.NW;omega) HH.out.rows (by have:=HH.out.Jt;omega) na nl nc m HM.out (by omega)).mono ?_;clear c0 c1;rintro e w1 ⟨hb1,⟨au,_⟩|⟨_,ny,rfl⟩|⟨_,ny,V9,rfl⟩|⟨_,ny,hyg,a,c,rfl,hpc⟩⟩
 ·exact absurd (HH.out.may.symm.trans au) (by decide)
 ·have HE:Hid (B8 (Num.dC Num.iK 1)=B8 (Num.eH p m)):=show _=_ by unfold Num.eH;rw [if_pos ny]
  clear ny;go_wp2_with fail;refine (uP 1 (by omega) (by omega) _ (cO HT.out.tab hb1)).mono ?_;rintro e w2 ⟨rfl,hb2⟩;go_wp2_with fail;go_ret;exact ⟨by rw [<-HE.out];rfl,ai hb1 hb2⟩
 ·have HE:Hid (B8 (Num.dC Num.iK 4)=B8 (Num.eH p m)):=show _=_ by unfold Num.eH;rw [if_neg (by rw [ny];decide),if_pos (by rw [<-kz.out,<-kZ.out];exact V9)]
  clear ny V9;go_wp2_with fail;refine (uP 4 (by omega) (by omega) _ (cO HT.out.tab hb1)).mono ?_;rintro e w2 ⟨rfl,hb2⟩;go_wp2_with fail;go_ret;exact ⟨by rw [<-HE.out];rfl,ai hb1 hb2⟩
 ·have Re:Hid (Num.nC p m rl cl=Num.eG p m):=show _=_ by rw [kz.out,kZ.out];rfl
  rw [Re.out] at hpc ⊢;have hsmall:=fun y hy=>Num.oK p m HH.out.may ny y hy;have hlen:(Num.eG p m).length<=1000:=by
   have hbl:m.length=cl:=by have h1:=(p.aj HH.out.may).2.2;have h2:=((Num.aD p m).aj ny).2.2;have h0:0 < p.rows.length:=h1.1.1;have r1:=List.all_eq_true.1 h1.2 p.rows[0] (List.getElem_mem _);have r2:=List.all_eq_true.1 h2.2 p.rows[0] (List.getElem_mem _);unfold Num.iL at r1 r2;simp only [Bool.and_eq_true,beq_iff_eq] at r1 r2;rw [kZ.out];exact r2.1.1.symm.trans r1.1.1
   have:=Num.sW p m rl cl ⟨kz.out,kZ.out,hbl,HH.out.may,ny⟩;rw [Re.out] at this;exact this
  have HE:Hid (B8 (Num.joinW 32 (Num.aR (Num.eG p m).length :: fD (Num.eG p m)))=B8 (Num.eH p m)):=show _=_ by unfold Num.eH;rw [if_neg (by rw [ny];decide),if_neg (by rw [<-kz.out,<-kZ.out];exact fun h=>h hyg),wY,Ca]
  clear ny hyg Re;generalize Num.eG p m=L at *;have Le:Hid (∀y∈L,((-1073741824<=y.bn/\y.bn<=1073741824)/\(-1073741824<=y.bd/\y.bd<=1073741824))/\((-1073741824<=y.sn/\y.sn<=1073741824)/\(-1073741824<=y.sd/\y.sd<=1073741824))):=hsmall;have HJL:Hid ((Num.joinW 32 (Num.aR L.length :: fD L)).length<=1000000):=by show _<=_;rw [wY,Ca,List.length_append];have h1:=ed (L.length:Int) (by omega) (by omega);have h2:=Ls L (fun y hy=>by obtain ⟨⟨a1,a2⟩,a3,a4⟩:=Le.out y hy;exact ⟨Num.gL _ _ a1 a2,Num.gL _ _ a3 a4⟩);omega
  have Uh:Hid (rP w1 a L.length L):=hpc;clear hsmall hpc;generalize hn:L.length=n at *;have HN:Hid (L.length=n):=hn;clear hn;go_wp2_with fail;refine (nT n (by omega) (by omega) _ (cO HT.out.tab hb1)).mono ?_;rintro e w2 ⟨rfl,hb2⟩;have HO0:Hid ((w2.alloc (.cells #[.string (B8 (Num.aR n))] 9)).ownsRow w1.heap.size 9 1 (.slice (some ⟨w2.heap.size,0,none⟩) 1 1) 1 (strs [Num.aR n])):=DW rfl _ hb2.size;have Zq:Below w1.heap.size w1 (w2.alloc (.cells #[.string (B8 (Num.aR n))] 9)):=hb2.alloc hb2.size _;clear hb2;go_wp2_with fail;go_loopw [7,29] (fun vv i wr=>∃(k:Nat) (g wc:Nat),k<=n/\i=.int .i64 k/\vv=.slice (some ⟨g,0,none⟩) (1+2*k) wc/\wr.ownsRow w1.heap.size 9 1 (.slice (some ⟨g,0,none⟩) (1+2*k) wc) (1+2*k) (strs (Num.aR n :: fD (L.take k)))/\Below w1.heap.size w1 wr) (fun _ i _=>n - (intOf i).toNat)
  case atStart=>exact ⟨0,w2.heap.size,1,Nat.zero_le _,rfl,rfl,HO0.out,Zq⟩
  case round =>
   obtain ⟨k,g,vc,hk,rfl,rfl,hown,hbl⟩:=hrel;have HO:Hid (wr.ownsRow w1.heap.size 9 1 (.slice (some ⟨g,0,none⟩) (1+2*k) vc) (1+2*k) (strs (Num.aR n :: fD (L.take k)))):=hown;clear hown HO0 Zq;by_cases hlt:k < n
   ·have hkl:k < L.length:=by have:=HN.out;omega
    obtain ⟨ga,rfl,hga,hho⟩ : ∃ga,a=some ⟨ga,0,none⟩/\ga < w1.heap.size/\dE w1 ga L:=by
     rcases Uh.out.2 with h|h
     ·omega
     ·exact h
    have hy:L[k]? = some L[k]:=List.getElem?_eq_getElem hkl;have Rf:=Le.out L[k] (List.getElem_mem hkl);have Xa:Hid (fD (L.take (k+1))=fD (L.take k) ++ [Num.bg L[k].bn L[k].bd,Num.bg L[k].sn L[k].sd]):=Jv L k _ hy;generalize L[k]=y at hy Rf Xa;obtain ⟨⟨fo,fn,fd⟩,⟨tt,tn,td⟩,bn,bd,sn,sd⟩:=y;obtain ⟨⟨hs1,hs2⟩,hs3,hs4⟩:=Rf;dsimp only at hs1 hs2 hs3 hs4 Xa;have hob:dE wr ga L:=by intro j z hz i v hv;obtain ⟨h1,h2⟩:=hho j z hz i v hv;exact ⟨by rw [hbl.cell (p:=⟨ga,j*10+i,none⟩) hga];exact h1,by rw [hbl.frozen (p:=⟨ga,j*10+i,none⟩) hga];exact h2⟩
    obtain ⟨p0,p1,p2,p3,p4,p5,p6,p7,p8,p9⟩:=hob.ten hy;have hkr:k*10+9 < 10000:=by omega
    have hgr:ga < wr.heap.size:=by have:=hbl.size;omega
    clear hob hho hy;have vw:=af wr (.cells #[.bool fo,.int .i64 fn,.int .i64 fd,.bool tt,.int .i64 tn,.int .i64 td,.int .i64 bn,.int .i64 bd,.int .i64 sn,.int .i64 sd] 90);have hq0:(wr.alloc (.cells #[.bool fo,.int .i64 fn,.int .i64 fd,.bool tt,.int .i64 tn,.int .i64 td,.int .i64 bn,.int .i64 bd,.int .i64 sn,.int .i64 sd] 90)).heap[wr.heap.size]? = some (.cells #[.bool fo,.int .i64 fn,.int .i64 fd,.bool tt,.int .i64 tn,.int .i64 td,.int .i64 bn,.int .i64 bd,.int .i64 sn,.int .i64 sd] 90 (0,0)):=fM rfl _;go_upto_region 8 with fail;generalize wr.alloc (.cells #[.bool fo,.int .i64 fn,.int .i64 fd,.bool tt,.int .i64 tn,.int .i64 td,.int .i64 bn,.int .i64 bd,.int .i64 sn,.int .i64 sd] 90)=V at *;have hwl:=hbl.size;have hg1:w1.heap.size<=g/\g < wr.heap.size:=World.ownsRow.lt HO.out g rfl;have hSC:SC w1.heap.size w1 wr.heap.size #[.bool fo,.int .i64 fn,.int .i64 fd,.bool tt,.int .i64 tn,.int .i64 td,.int .i64 bn,.int .i64 bd,.int .i64 sn,.int .i64 sd] V:=⟨hbl.trans (vw.mono hwl),Nat.le_refl _,hq0⟩;have hVV:Below V.heap.size V V.drew:=(Below.refl _ _).drew;have q6:∀w',SC w1.heap.size w1 wr.heap.size #[.bool fo,.int .i64 fn,.int .i64 fd,.bool tt,.int .i64 tn,.int .i64 td,.int .i64 bn,.int .i64 bd,.int .i64 sn,.int .i64 sd] w'->w'.cell? ⟨wr.heap.size,6,none⟩=some (.int .i64 bn):=fun w' h=>h.cell 6;have q7:∀w',SC w1.heap.size w1 wr.heap.size #[.bool fo,.int .i64 fn,.int .i64 fd,.bool tt,.int .i64 tn,.int .i64 td,.int .i64 bn,.int .i64 bd,.int .i64 sn,.int .i64 sd] w'->w'.cell? ⟨wr.heap.size,7,none⟩=some (.int .i64 bd):=fun w' h=>h.cell 7;have q8:∀w',SC w1.heap.size w1 wr.heap.size #[.bool fo,.int .i64 fn,.int .i64 fd,.bool tt,.int .i64 tn,.int .i64 td,.int .i64 bn,.int .i64 bd,.int .i64 sn,.int .i64 sd] w'->w'.cell? ⟨wr.heap.size,8,none⟩=some (.int .i64 sn):=fun w' h=>h.cell 8;have q9:∀w',SC w1.heap.size w1 wr.heap.size #[.bool fo,.int .i64 fn,.int .i64 fd,.bool tt,.int .i64 tn,.int .i64 td,.int .i64 bn,.int .i64 bd,.int .i64 sn,.int .i64 sd] w'->w'.cell? ⟨wr.heap.size,9,none⟩=some (.int .i64 sd):=fun w' h=>h.cell 9;have XE:Hid (∀w',SC w1.heap.size w1 wr.heap.size #[.bool fo,.int .i64 fn,.int .i64 fd,.bool tt,.int .i64 tn,.int .i64 td,.int .i64 bn,.int .i64 bd,.int .i64 sn,.int .i64 sd] w'->Below V.heap.size V w'->Calls Tryz.prog 78 #[.agg #[.int .i64 bn,.int .i64 bd]] w' fun e w''=>e=.returned (.string (B8 (Num.bg bn bd)))/\SC w1.heap.size w1 wr.heap.size #[.bool fo,.int .i64 fn,.int .i64 fd,.bool tt,.int .i64 tn,.int .i64 td,.int .i64 bn,.int .i64 bd,.int .i64 sn,.int .i64 sd] w''/\Below V.heap.size V w''):=fun w' h h'=>(nU bn bd hs1 hs2 w' (cO HT.out.tab (hb1.trans (h.1.mono hb1.size)))).mono fun e w'' j=>⟨j.1,h.below j.2,ai h' j.2⟩;have XF:Hid (∀w',SC w1.heap.size w1 wr.heap.size #[.bool fo,.int .i64 fn,.int .i64 fd,.bool tt,.int .i64 tn,.int .i64 td,.int .i64 bn,.int .i64 bd,.int .i64 sn,.int .i64 sd] w'->Below V.heap.size V w'->Calls Tryz.prog 78 #[.agg #[.int .i64 sn,.int .i64 sd]] w' fun e w''=>e=.returned (.string (B8 (Num.bg sn sd)))/\SC w1.heap.size w1 wr.heap.size #[.bool fo,.int .i64 fn,.int .i64 fd,.bool tt,.int .i64 tn,.int .i64 td,.int .i64 bn,.int .i64 bd,.int .i64 sn,.int .i64 sd] w''/\Below V.heap.size V w''):=fun w' h h'=>(nU sn sd hs3 hs4 w' (cO HT.out.tab (hb1.trans (h.1.mono hb1.size)))).mono fun e w'' j=>⟨j.1,h.below j.2,ai h' j.2⟩;have Dh:Hid (∀W,Below V.heap.size V W->W.ownsRow w1.heap.size 9 1 (.slice (some ⟨g,0,none⟩) (1+2*k) vc) (1+2*k) (strs (Num.aR n :: fD (L.take k)))):=fun W h=>gN (gN HO.out vw) h;have ER:Hid (∀u∈[Value.string (B8 (Num.bg bn bd)),Value.string (B8 (Num.bg sn sd))],u.oneCell'=true):=by intro u hu;simp at hu;rcases hu with rfl|rfl<;>rfl
    have HW:Hid (∀W w5,Below V.heap.size V W->W.grownBy w5 (Value.slice (some ⟨g,0,none⟩) (1+2*k) vc).ownBlock->SC w1.heap.size w1 wr.heap.size #[.bool fo,.int .i64 fn,.int .i64 fd,.bool tt,.int .i64 tn,.int .i64 td,.int .i64 bn,.int .i64 bd,.int .i64 sn,.int .i64 sd] w5):=by
     intro W w5 hW hg;have hWS:=hSC.below hW;have hWs:=hW.size;have hVs:=vw.size;refine ⟨Below.grown hWS.1 hg (by omega) (fun j hj=>?_),Nat.le_refl _,?_⟩
     ·have:g=j:=by simpa [Value.ownBlock] using hj
      omega
     ·have hne:some wr.heap.size≠(Value.slice (some ⟨g,0,none⟩) (1+2*k) vc).ownBlock:=by
       intro e;have:wr.heap.size=g:=by simpa [Value.ownBlock] using e
       omega
      rw [hg.block wr.heap.size (Array.getElem?_eq_some_iff.1 hWS.2.2).1 hne];exact hWS.2.2
    have R1:Hid (∀(g2 cap:Nat) (w5:World),w5.ownsRow w1.heap.size 9 1 (.slice (some ⟨g2,0,none⟩) (1+2*k+2) cap) (1+2*k+2) (strs (Num.aR n :: fD (L.take k)) ++ [.string (B8 (Num.bg bn bd)),.string (B8 (Num.bg sn sd))])->w5.ownsRow w1.heap.size 9 1 (.slice (some ⟨g2,0,none⟩) (1+2*(k+1)) cap) (1+2*(k+1)) (strs (Num.aR n :: fD (L.take (k+1))))):=by intro g2 cap w5 ho;rw [Xa.out,<-List.cons_append,ky];exact ho
    have hcap:(1+2*k+2)*16<=140737488355328:=by omega
    have He:1+2*k+2<=maxLen:=by unfold maxLen;omega
    have hsz1:w1.heap.size<=V.heap.size:=by have:=vw.size;omega
    clear hq0 p0 p1 p2 p3 p4 p5 p6 p7 p8 p9;generalize B8 (Num.bg bn bd)=S1 at *;generalize B8 (Num.bg sn sd)=S2 at *;go_region_held3 (fun w'=>SC w1.heap.size w1 wr.heap.size #[.bool fo,.int .i64 fn,.int .i64 fd,.bool tt,.int .i64 tn,.int .i64 td,.int .i64 bn,.int .i64 bd,.int .i64 sn,.int .i64 sd] w') (first|(with_reducible assumption)|(with_reducible exact SC.drew hSC)|(with_reducible refine SC.alloc ?_ _<;>with_reducible assumption))
     (first
            | (go_at_call_of 78 (Value.agg #[.int .i64 bn,.int .i64 bd]);refine (XE.out _ (by first|(with_reducible assumption)|exact SC.drew hSC) (by with_reducible assumption)).mono ?_;rintro e v1 ⟨rfl,hS1,hV1⟩)
            | (go_at_call_of 78 (Value.agg #[.int .i64 sn,.int .i64 sd]);refine (XF.out _ (by first|(with_reducible assumption)|exact SC.drew hSC) (by with_reducible assumption)).mono ?_;rintro e v2 ⟨rfl,hS2,hV2⟩)
            | (refine step_append_lies _ (by rfl) (.tmp 33) (.tmp 40) 22 (by rfl) w1.heap.size 9 i0 (.string ⟨#[]⟩) 1 16 Tryz.underlying22 hif hz0 hz1 hz2 (by rfl) (by decide) (.slice (some ⟨g,0,none⟩) (1+2*k) vc) (1+2*k) (strs (Num.aR n :: fD (L.take k))) (by rfl) (Dh.out _ (Below.alloc hV2 hV2.size _)) ⟨v2.heap.size,0,none⟩ 2 2 [.string S1,.string S2] (by rfl) (by rfl) zQ ER.out (by decide) He hcap (by have:=hV2.size;simp;omega) (v2.heap.size+1) (by simp) ?_;intro g2 cap w5 Bf hg5 yu Tj;have hS5:=HW.out _ w5 (Below.alloc hV2 hV2.size _) hg5;have R2:=Lib.hid (R1.out g2 cap w5 Bf);clear Bf hg5 yu)
            | (refine step_append_lies _ (by rfl) (.tmp 33) (.tmp 40) 22 (by rfl) w1.heap.size 9 i0 (.string ⟨#[]⟩) 1 16 Tryz.underlying22 hif hz0 hz1 hz2 (by rfl) (by decide) (.slice (some ⟨g,0,none⟩) (1+2*k) vc) (1+2*k) (strs (Num.aR n :: fD (L.take k))) (by rfl) (Dh.out _ (Below.alloc hV1 hV1.size _)) ⟨v1.heap.size,0,none⟩ 2 2 [.string S1,.string S2] (by rfl) (by rfl) zQ ER.out (by decide) He hcap (by have:=hV1.size;simp;omega) (v1.heap.size+1) (by simp) ?_;intro g2 cap w5 Bf hg5 yu Tj;have hS5:=HW.out _ w5 (Below.alloc hV1 hV1.size _) hg5;have R2:=Lib.hid (R1.out g2 cap w5 Bf);clear Bf hg5 yu))
    all_goals (clear q6 q7 q8 q9 XE XF Dh HW R1)
    all_goals go_wp2_with fail
    all_goals go_roundw
    all_goals first
          | (simp [intOf];omega)
          | exact ⟨k+1,g2,cap,by omega,by go_num,rfl,R2.out,hS5.1⟩
   ·have hke:k=n:=by omega
    subst hke;have Ew:Hid (wr.ownsRow w1.heap.size 9 1 (.slice (some ⟨g,0,none⟩) (1+2*k) vc) (1+2*k) (strs (Num.aR k :: fD L))):=by have:=HO.out;rw [List.take_of_length_le (by have:=HN.out;omega)] at this;exact this
    go_wp2_with fail;refine (GJ g vc (1+2*k) _ w1.heap.size wr Ew.out (by omega) (by omega) HJL.out).mono ?_;rintro e w4 ⟨rfl,hb4⟩;go_wp2_with fail;go_ret;exact ⟨by rw [<-HE.out];rfl,ai (hb1.trans (hbl.mono hb1.size)) hb4⟩
end Go.Proofs.YtipcbhodlgoflabGreatDoor
