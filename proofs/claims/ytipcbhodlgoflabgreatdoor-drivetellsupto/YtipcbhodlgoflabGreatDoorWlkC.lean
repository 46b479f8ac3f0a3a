/- What walk.exchanged and walk.Next do. -/
import Derived.Test.YtipcbhodlgoflabGreatDoorWlkAB
import Derived.Test.YtipcbhodlgoflabGreatDoorSrtL
set_option maxHeartbeats 3200000
set_option maxRecDepth 4000
namespace Go.Proofs.YtipcbhodlgoflabGreatDoor
open Go.RowKit
theorem Az (aa:Option Addr) (al ac:Nat) (at':List Int) (w:World) (ha:Ints w aa al at') (h1:1<=al) (h4:al<=4) (N o s:Nat) (hr:Num.aH at' al N=true) (ho:o < al) (hs:s < N) (hsb:Num.gK at' al s=false) :
  Calls Tryz.prog 103 #[.slice aa al ac,.int .i64 o,.int .i64 s] w fun e w'=>∃g c,e=.returned (.slice (some ⟨g,0,none⟩) al c)/\w.heap.size<=g/\al<=c/\Ints w' (some ⟨g,0,none⟩) al (Num.rG at' (at'[o]?.getD 0) s al)/\Below w.heap.size w w':=by
 have HA:Hid (Ints w aa al at'):=ha;have HS:Hid (∀r:List Int,r.Perm (at'.set o s)->r.Pairwise (·<=·)->r=Num.rG at' (at'[o]?.getD 0) s al):=fun r hp hw=>Num.Ig at' r o s al N hr ho hs hsb hp hw;clear ha hr hsb;go_enter Tryz.func103,Tryz.ntmps103;go_wp2_with fail;refine (sP aa al ac at' _ HA.out h1 h4).mono ?_;rintro e w1 ⟨g,c,rfl,hg,hc,hO,hb⟩;have HO:Hid (fJ w1 w.heap.size g al c at'):=hO;obtain ⟨c0,f0⟩:=hO.cell o ho;have hgl:=hO.lt.2;have u1:(o:Int) < (al:Int):=by omega
 clear hO;go_wp2_with fail;refine (Qe w.heap.size g al c (at'.set o s) _ (fJ.store HO.out o s) h1 h4).mono ?_;rintro e w2 ⟨rfl,r,hO2,hP,hW,hb2⟩;have hre:=HS.out r hP hW;subst hre;have Ew:Hid _:=hO2;have hB:Below w.heap.size w w2:=(aV hb hg _).trans (hb2.mono hg);clear hO2 hP hW hb2;go_wp2_with fail;go_ret;exact ⟨g,c,rfl,hg,hc,fJ.ints Ew.out,hB⟩
theorem Num.FP (p:Num.Lp) (at':List Int) (e:Int) (h:(Num.look p at').err=e) (h0:e≠0) : Num.cz p at'=([],0,e):=by unfold Num.cz;rw [h,if_pos h0]
theorem Num.Qg (p:Num.Lp) (at':List Int) (h:(Num.look p at').err=0) (h2:Num.bO (Num.look p at').x=true) : Num.cz p at'=([],0,3):=by unfold Num.cz;rw [if_neg (by omega),if_pos h2]
theorem Num.M4 (p:Num.Lp) (at':List Int) (h:(Num.look p at').err=0) (h2:Num.bO (Num.look p at').x=false) (h3:Num.eT (Num.look p at').g (Num.look p at').g.length < 0) : Num.cz p at'=([],1,0):=by unfold Num.cz;rw [if_neg (by omega),if_neg (by rw [h2];decide),if_pos h3]
theorem Num.Qh (p:Num.Lp) (at':List Int) (s:Nat) (h:(Num.look p at').err=0) (h2:Num.bO (Num.look p at').x=false) (h3:Num.eT (Num.look p at').g (Num.look p at').g.length=s) (h4:Num.l6 at' (Num.look p at').x (Num.look (Num.dh p s) at').x at'.length < 0) : Num.cz p at'=([],2,0):=by unfold Num.cz;rw [if_neg (by omega),if_neg (by rw [h2];decide),h3,if_neg (by omega),Int.toNat_natCast,if_pos h4]
theorem Num.M5 (p:Num.Lp) (at':List Int) (s o:Nat) (h:(Num.look p at').err=0) (h2:Num.bO (Num.look p at').x=false) (h3:Num.eT (Num.look p at').g (Num.look p at').g.length=s) (h4:Num.l6 at' (Num.look p at').x (Num.look (Num.dh p s) at').x at'.length=o) :
  Num.cz p at'=(Num.rG at' (at'[o]?.getD 0) s at'.length,0,0):=by
 unfold Num.cz;rw [if_neg (by omega),if_neg (by rw [h2];decide),h3,if_neg (by omega),Int.toNat_natCast,h4,if_neg (by omega),Int.toNat_natCast]
theorem Num.Qi (p:Num.Lp) (at':List Int) (h:(Num.look p at').err=0) : p.may=true:=by
 cases hm:p.may with
 | true=>rfl
 | false=>rw [Num.nI p at' hm] at h;simp [Num.iH] at h
theorem Qj (ca:Option Addr) (cl cc:Nat) (ra:Option Addr) (rl rc:Nat) (p:Num.Lp) (w:World) (hc:Ints w ca cl p.costs) (hcl:cl<=9223372036854775807) (hr:ay w ra rl p.rows) (hrl:rl<=9223372036854775807)
  (aa:Option Addr) (al ac:Nat) (at':List Int) (ha:Ints w aa al at') (hal:al<=9223372036854775807) :
  Calls Tryz.prog 64 #[.agg #[.slice ca cl cc,.slice ra rl rc],.slice aa al ac] w fun e w'=>∃na nl nc,e=.returned (.tuple #[.slice na nl nc,.int .i64 (Num.cz p at').2.1,.int .i64 (Num.cz p at').2.2])/\Ints w' na nl (Num.cz p at').1/\(nl=0\/∃g,na=some ⟨g,0,none⟩/\w.heap.size<=g)/\nl<=nc/\Below w.heap.size w w':=by
 have HC:Hid (Ints w ca cl p.costs):=hc;have HR:Hid (ay w ra rl p.rows):=hr;have HA:Hid (Ints w aa al at'):=ha;have kZ:Hid (cl=p.costs.length):=hc.1;have kz:Hid (rl=p.rows.length):=hr.1;have ZV:Hid (al=at'.length):=ha.1;clear hc hr ha;have IM:Hid ((Num.look p at').err=0->p.may=true):=Num.Qi p at';have YB:Hid (p.may=true->(Num.look p at').err=0->Num.bO (Num.look p at').x=false->Num.Good p at' rl cl):=fun h1 h2 h3=>(Num.iY p at' rl cl h1 kz.out kZ.out).1 ⟨h2,h3⟩;have HXB:Hid (p.may=true->Num.Good p at' rl cl->∀j:Nat,-497664<=(Num.look p at').x[j]?.getD 0/\(Num.look p at').x[j]?.getD 0<=497664):=fun h1 h2=>(Num.bK p at' rl cl h1 kz.out kZ.out h2.right h2.den).2.2.2.2.1;have xA:Hid (p.may=true->Num.Good p at' rl cl->(Num.look p at').x.length=cl+rl/\(Num.look p at').g.length=cl+rl):=fun h1 h2=>⟨(Num.bK p at' rl cl h1 kz.out kZ.out h2.right h2.den).2.1,(Num.bK p at' rl cl h1 kz.out kZ.out h2.right h2.den).2.2.1⟩;have Wy:Hid (p.may=true->Num.Good p at' rl cl->∀s:Nat,0 < (Num.look p at').g[s]?.getD 0->Num.gK at' rl s=false):=fun h1 h2 s h3=>Num.Dk p at' rl cl h1 kz.out kZ.out h2 s h3;have HE:=Num.FP p at';have HG:=Num.Qg p at';have HB:=Num.M4 p at';have HN:=Num.Qh p at';have HS:=Num.M5 p at';have KL:=fun (w':World) (hb:Below w.heap.size w w')=>yo ca cl cc ra rl rc p w' (Ints.below HC.out hb (Nat.le_refl _)) hcl (ay.below HR.out hb (Nat.le_refl _)) hrl aa al ac at' (Ints.below HA.out hb (Nat.le_refl _)) hal;generalize Num.look p at'=L at *;generalize hnx:Num.cz p at'=NX at *;obtain ⟨er,lx,dx,ly,dy,lg,dg⟩:=L;dsimp only at *;have HHE:Hid _:=HE;have HHG:Hid _:=HG;have HHB:Hid _:=HB;have HHN:Hid _:=HN;have HHS:Hid _:=HS;have YC:Hid _:=KL;clear hnx HE HG HB HN HS KL;have hmf:∀(fn:Fn) (first cap:Array Value) (w:World),(Instr.makeFunc fn first cap).run Tryz.prog w=.ok (.func fn first cap) w:=fun _ _ _ _=>rfl;go_enter Tryz.func64,Tryz.ntmps64;go_wp2_with fail;refine (YC.out _ (af _ _)).mono ?_;rintro e w1 ⟨xa,xl,xc,ya,yl,yc,ga,gl,gc,rfl,hix,G5,hig,TS,hy8,YE,hb1⟩;have kQ:Hid (Ints w1 xa xl lx):=hix;have yn:Hid (Ints w1 ga gl lg):=hig;obtain ⟨⟨c0,c1⟩,_⟩:=fO hb1;have hz1:w.heap.size < w1.heap.size:=by have:=hb1.size;simp at this;omega
 have hB1:Below w.heap.size w w1:=dN hb1;clear hix G5 hig YC;by_cases her:er=0
 ·subst her;have au:=IM.out rfl;go_wp2_with fail;have hs1:=H5.new w1 (.slice xa xl xc) (.int .i64 dx) (.slice ya yl yc) (.int .i64 dy) (.slice ga gl gc) (.int .i64 dg) 75;generalize hW:w1.alloc (.cells #[.slice xa xl xc,.int .i64 dx,.slice ya yl yc,.int .i64 dy,.slice ga gl gc,.int .i64 dg] 75)=W at *;have z0:=hs1.c0;have z1:=hs1.c1;have z2:=hs1.c2;have z3:=hs1.c3;have z4:=hs1.c4;have z5:=hs1.c5;have zl:=hs1.hi;have hbW:Below w1.heap.size w1 W:=hs1.dS;have FQ:Hid (Ints W xa xl lx):=Ints.below kQ.out hbW (Nat.le_refl _);have Qk:Hid (Ints W ga gl lg):=Ints.below yn.out hbW (Nat.le_refl _);have hB2:Below w.heap.size w W:=ai hB1 hbW;have d0:=carry hbW c0;have d1:=carry hbW c1;generalize w1.heap.size=b at *;clear hW hbW hs1 kQ yn c0 c1 hb1 hB1;refine (lF xa xl xc lx _ FQ.out (by omega)).mono ?_;rintro e w2 ⟨rfl,rfl⟩;cases hneg:Num.bO lx with
  | true =>have hnx:=HHG.out (by first|rfl|trivial) hneg;subst hnx;go_wp2_with fail;go_ret3;exact ⟨none,0,0,rfl,Ints.empty _,Or.inl rfl,Nat.le_refl _,hB2⟩
  | false =>
   have U2:Hid (Num.Good p at' rl cl):=YB.out au (by first|rfl|trivial) hneg;have HGL:Hid (gl=lg.length):=Qk.out.1;go_wp2_with fail;refine (wP xa ya ga xl xc yl yc gl gc dx dy dg lg _ Qk.out YE).mono ?_;rintro e w3 ⟨rfl,hb3⟩;replace hB2:Below w.heap.size w w3:=ai hB2 hb3;replace d0:=carry hb3 d0;replace d1:=carry hb3 d1;replace z0:=carry hb3 z0;have Ql:Hid (Ints w3 xa xl lx):=Ints.below FQ.out hb3 (Nat.le_refl _);have YF:Hid (Ints w3 ga gl lg):=Ints.below Qk.out hb3 (Nat.le_refl _);clear z1 z2 z3 z4 z5 hb3 FQ Qk;have FQ:Hid (Ints w3 xa xl lx):=Ql.out;have Qk:Hid (Ints w3 ga gl lg):=YF.out;clear Ql YF;rcases Num.l5 lg gl with ⟨f1,f2⟩|⟨s,f1,f2,f3,f4⟩
   ·have hnx:=HHB.out (by first|rfl|trivial) hneg (by rw [<-HGL.out,f1];omega);subst hnx;rw [f1];go_wp2_with fail;go_ret3;exact ⟨none,0,0,rfl,Ints.empty _,Or.inl rfl,Nat.le_refl _,hB2⟩
   ·rw [f2];have hsb:=Wy.out au U2.out s f3;obtain ⟨FR,YG⟩:=xA.out au U2.out;have hxl:xl=cl+rl:=by have:=FQ.out.1;omega
    have hsN:s < cl+rl:=by have:=HGL.out;omega
    have hc4:cl<=4/\1<=cl:=by have:=kZ.out;have:=(p.aj au).1;omega
    have hr4:rl<=4/\1<=rl:=by have:=kz.out;have:=(p.aj au).2.2.1;omega
    have Xw:Hid (al=rl):=by show al=rl;have:=ZV.out;have:=(Num.bf at' rl _ U2.out.right).1;omega
    have HSB:Hid _:=hsb;have YH:Hid _:=hneg;have HF2:Hid (Num.eT lg lg.length=s):=by rw [<-HGL.out];exact f2
    have YI:Hid _:=au;clear hsb f2 f3 f4 hneg au FR YG;have hsd:decide ((s:Int) < 0)=false:=decide_eq_false (by omega);subst hxl;obtain ⟨_,hvl,hvb,_⟩:=Num.lJ p at' rl cl s YI.out kz.out kZ.out U2.out;have HVL:Hid _:=hvl;have U1:Hid _:=hvb;have Qm:Hid _:=HXB.out YI.out U2.out;have TT:Hid (Num.l6 at' lx (Num.look (Num.dh p s) at').x at'.length < 0->NX=([],2,0)):=HHN.out s (by first|rfl|trivial) YH.out HF2.out;have HNS:Hid (∀o:Nat,Num.l6 at' lx (Num.look (Num.dh p s) at').x at'.length=o->NX=(Num.rG at' (at'[o]?.getD 0) s at'.length,0,0)):=fun o=>HHS.out s o (by first|rfl|trivial) YH.out HF2.out;have KF:Hid (∀w',Below w3.heap.size w3 w'->Calls Tryz.prog 102 #[.agg #[.slice ca cl cc,.slice ra rl rc],.slice aa al ac,.int .i64 s] w' fun e w''=>∃va vc,e=.returned (.agg #[.slice va (cl+rl) vc,.int .i64 (Num.look (Num.dh p s) at').xd])/\Below w3.heap.size w3 w''/\Ints w'' va (cl+rl) (Num.look (Num.dh p s) at').x/\Below w'.heap.size w' w''):=by intro w' h;have hB:=ai hB2 h;refine (BJ ca cl cc ra rl rc p w' (Ints.below HC.out hB (Nat.le_refl _)) (ay.below HR.out hB (Nat.le_refl _)) YI.out aa al ac at' (Ints.below HA.out hB (Nat.le_refl _)) U2.out s hsN).mono ?_;rintro e w'' ⟨va,vc,rfl,hi,hb⟩;exact ⟨va,vc,rfl,ai h hb,hi,hb⟩
    have KG:Hid (∀w' va vc,Below w3.heap.size w3 w'->Ints w' va (cl+rl) (Num.look (Num.dh p s) at').x->Calls Tryz.prog 101 #[.slice aa al ac,.slice xa (cl+rl) xc,.slice va (cl+rl) vc] w' fun e w''=>e=.returned (.int .i64 (Num.l6 at' lx (Num.look (Num.dh p s) at').x al))/\Below w3.heap.size w3 w''):=by intro w' va vc h hi;have hB:=ai hB2 h;refine (FM aa xa va al ac (cl+rl) xc (cl+rl) vc at' lx _ w' (Ints.below HA.out hB (Nat.le_refl _)) (Ints.below FQ.out h (Nat.le_refl _)) hi TS rfl (by have:=Xw.out;omega) (by rw [Xw.out];exact (Num.bf at' rl _ U2.out.right).2) Qm.out U1.out).mono ?_;rintro e w'' ⟨rfl,n,rfl⟩;exact ⟨rfl,iZ h n⟩
    generalize Num.look (Num.dh p s) at'=LV at *;obtain ⟨_,lv,_,_,_,_,_⟩:=LV;dsimp only at HVL U1 TT HNS KF KG;have q0:∀w',Below w3.heap.size w3 w'->w'.cell? ⟨w.heap.size,0,none⟩=some (.slice ca cl cc):=fun w' h=>carry h d0;have q1:∀w',Below w3.heap.size w3 w'->w'.cell? ⟨w.heap.size,1,none⟩=some (.slice ra rl rc):=fun w' h=>carry h d1;have q2:∀w',Below w3.heap.size w3 w'->w'.cell? ⟨b,0,none⟩=some (.slice xa (cl+rl) xc):=fun w' h=>carry h z0;have BK:Hid (∀w',Below w3.heap.size w3 w'->Below w.heap.size w w'):=fun w' h=>ai hB2 h;have hfd:∀(a:Option Addr) (n c:Nat) (d:Int) (w:World),(Instr.field 64 (.agg #[.slice a n c,.int .i64 d]) 0).run Tryz.prog w=.ok (.slice a n c) w:=fun _ _ _ _ _=>by kernel_rfl
    go_wp2_with fail;clear d0 d1 z0 hB2;go_region_held3 (fun w'=>Below w3.heap.size w3 w') (first|(with_reducible assumption)|(with_reducible exact (Below.refl _ _).drew))
     (first|(go_at_call 102;refine (KF.out _ ?_).mono ?_;(with_reducible assumption);rintro e v1 ⟨va,vc,rfl,hb1,hI1,hk1⟩)
                 | (go_at_call 101;refine (KG.out _ _ _ ?_ hI1).mono ?_;(with_reducible assumption);rintro e v2 ⟨rfl,hb2⟩))
    have ZW:=BK.out v2 hb2;clear q0 q1 q2 KF KG hI1 hk1 hb1 BK;rcases Num.vD at' lx lv al with ⟨o1,_⟩|⟨o,o1,o2,_,_⟩
    ·have hnx:=TT.out (by rw [<-ZV.out,o1];omega);subst hnx;rw [o1];go_wp2_with fail;go_ret3;exact ⟨none,0,0,rfl,Ints.empty _,Or.inl rfl,Nat.le_refl _,ZW⟩
    ·have hnx:=HNS.out o (by rw [<-ZV.out];exact o2);rw [<-ZV.out] at hnx;subst hnx;rw [o2];have hod:decide ((o:Int) < 0)=false:=decide_eq_false (by omega);go_wp2_with fail;refine (Az aa al ac at' v2 (Ints.below HA.out ZW (Nat.le_refl _)) (by have:=Xw.out;omega) (by have:=Xw.out;omega) (cl+rl) o s (by rw [Xw.out];exact U2.out.right) o1 hsN (by rw [Xw.out];exact HSB.out)).mono ?_;rintro e v3 ⟨g,c,rfl,hg,hgc,hi,hb3⟩;have HI:Hid _:=hi;clear hi;go_wp2_with fail;go_ret3;exact ⟨_,al,c,rfl,HI.out,Or.inr ⟨g,rfl,by have:=ZW.size;omega⟩,hgc,ai ZW hb3⟩
 ·have hne:(er == 0)=false:=by simpa using her
  have hnx:=HHE.out er rfl her;subst hnx;go_wp2_with fail;go_ret3;exact ⟨none,0,0,rfl,Ints.empty _,Or.inl rfl,Nat.le_refl _,ai hB1 (af _ _)⟩
open Go.RowKit
theorem Num.Qn (p:Num.Lp) (at':List Int) (h:(Num.cz p at').2.2=0) : p.may=true:=by
 cases hm:p.may with
 | true=>rfl
 | false =>rw [Num.FP p at' 2 (by rw [Num.nI p at' hm];rfl) (by omega)] at h;simp at h
def Num.ik (p:Num.Lp) (at':List Int) (l:List (List Int)) (kind err:Int) : Prop :=
 (err≠0/\kind=0/\l=[]/\Num.cz p at'=([],0,err))\/(err=0/\p.may=true/\Num.oz p at' l kind)
theorem Num.round (p:Num.Lp) (at':List Int) (l:List (List Int)) (now:List Int) (h:Num.Path p at' l now) (hm:l=[]\/p.may=true) :
  (∃e,e≠0/\Num.cz p now=([],0,e)/\Num.ik p at' [] 0 e)\/
  (∃k,k≠0/\Num.cz p now=([],k,0)/\p.may=true/\Num.Good p now p.rows.length p.costs.length/\l.length < 4096/\Num.ik p at' (l ++ [now]) k 0)\/
  (∃nx,Num.cz p now=(nx,0,0)/\nx.length=p.rows.length/\p.may=true/\Num.Good p now p.rows.length p.costs.length/\l.length < 4096/\Num.Path p at' (l ++ [now]) nx):=by
 by_cases he:(Num.cz p now).2.2=0
 ·have au:=Num.Qn p now he;have hs:=Num.sD p.rows.length p.costs.length au rfl rfl h;rcases Num.jd p now p.rows.length p.costs.length au rfl rfl with ⟨e,he',h1,_⟩|⟨hg,⟨k,hk,_,h1⟩|⟨nx,s,k,h1,h2,h3,h4⟩⟩
  ·rw [h1] at he;exact absurd he he'
  ·exact Or.inr (Or.inl ⟨k,hk,h1,au,hg,hs,Or.inr ⟨rfl,au,h.ends h1 hk⟩⟩)
  ·exact Or.inr (Or.inr ⟨nx,h1,h2,au,hg,hs,h.push h1⟩)
 ·have hl:l=[]:=by
   rcases hm with hm|hm
   ·exact hm
   ·by_cases hl:l=[]
    ·exact hl
    ·have hg:=Num.Pq p.rows.length p.costs.length hm rfl rfl h hl;rcases Num.jd p now p.rows.length p.costs.length hm rfl rfl with ⟨e,_,_,hn⟩|⟨_,⟨k,_,_,h1⟩|⟨nx,s,k,h1,_⟩⟩
     ·exact absurd hg hn
     ·rw [h1] at he;exact absurd rfl he
     ·rw [h1] at he;exact absurd rfl he
  have Qo:now=at':=by have:=h.1;rw [hl] at this;simpa using this
  subst hl Qo;have hE:∃e,e≠0/\Num.cz p now=([],0,e):=by
   unfold Num.cz at he ⊢;split
   ·rename_i h0;exact ⟨_,h0,rfl⟩
   ·rename_i h0;rw [if_neg h0] at he;split
    ·exact ⟨3,by omega,rfl⟩
    ·rename_i h1;rw [if_neg h1] at he;split at he
     ·exact absurd rfl he
     ·split at he
      ·exact absurd rfl he
      ·exact absurd rfl he
  obtain ⟨e,he0,hne⟩:=hE;exact Or.inl ⟨e,he0,hne,Or.inl ⟨he0,rfl,rfl,hne⟩⟩
theorem zn (ca:Option Addr) (cl cc:Nat) (ra:Option Addr) (rl rc:Nat) (p:Num.Lp) (w:World) (hc:Ints w ca cl p.costs) (hcl:cl<=9223372036854775807) (hr:ay w ra rl p.rows) (hrl:rl<=9223372036854775807)
  (aa:Option Addr) (al ac:Nat) (at':List Int) (ha:Ints w aa al at') (hal:al<=9223372036854775807) :
  Calls Tryz.prog 27 #[.agg #[.slice ca cl cc,.slice ra rl rc],.slice aa al ac] w fun e w'=>∃la ll lc k er,e=.returned (.tuple #[.slice la ll lc,.int .i64 k,.int .i64 er])/\∃l,vP w' la ll l/\ll<=4096/\Num.ik p at' l k er/\Below w.heap.size w w':=by
 have HC:Hid (Ints w ca cl p.costs):=hc;have HR:Hid (ay w ra rl p.rows):=hr;have HA:Hid (Ints w aa al at'):=ha;have kz:Hid (rl=p.rows.length):=hr.1;clear hc hr ha;obtain ⟨i0,hif,hz0,hz1,hz2⟩:=info_parts Tryz.TQ;have w9:Hid (∀w',Below (w.alloc (.cells #[.slice ca cl cc,.slice ra rl rc] 28)).heap.size (w.alloc (.cells #[.slice ca cl cc,.slice ra rl rc] 28)) w'->(w'.cell? ⟨w.heap.size,0,none⟩=some (.slice ca cl cc)/\w'.cell? ⟨w.heap.size,1,none⟩=some (.slice ra rl rc))/\Below w.heap.size w w'/\w.heap.size < w'.heap.size):=fun w' h=>⟨(fO h).1,dN h,by have:=h.size;simp at this;omega⟩;go_enter Tryz.func27,Tryz.ntmps27;go_wp2_with fail;generalize hV:w.alloc (.cells #[.slice ca cl cc,.slice ra rl rc] 28)=V at *;have YJ:Hid (Ints V aa al at'):=by rw [<-hV];exact Ints.below HA.out (af _ _) (Nat.le_refl _)
 clear hV;go_loopw [1,7] (fun t v wr=>∃l now na nl nc,Num.Path p at' l now/\(l=[]\/p.may=true)/\t=.slice na nl nc/\nl<=9223372036854775807/\Ints wr na nl now/\fU wr V.heap.size v l/\Below V.heap.size V wr) (fun _ v _=>4096 - lenOf v)
 case atStart=>exact ⟨[],at',aa,al,ac,Num.Path.start p at',Or.inl rfl,rfl,hal,YJ.out,fU.nil _ _,Below.refl _ _⟩
 case round =>
  obtain ⟨l,now,na,nl,nc,Qp,hlm,rfl,hnl,hin,hlo,hbl⟩:=hrel;clear YJ;have ar5:Hid (Num.Path p at' l now):=Qp;have Wz:Hid _:=Num.round p at' l now Qp hlm;have Wy:Hid (Ints wr na nl now):=hin;have K9:Hid (fU wr V.heap.size _ l):=hlo;obtain ⟨⟨b0,b1⟩,hB,hz⟩:=w9.out wr hbl;clear Qp hlm hin;obtain ⟨va,vc,hv,_⟩:=hlo.lines;clear hlo;go_wp2_with fail;refine (Qj ca cl cc ra rl rc p wr (Ints.below HC.out hB (Nat.le_refl _)) hcl (ay.below HR.out hB (Nat.le_refl _)) hrl na nl nc now Wy.out hnl).mono ?_;rintro e w1 ⟨xa,xl,xc,rfl,hix,hfx,Ot,hb1⟩;have kP:=ai hbl hb1;clear b0 b1 hB hz hbl;obtain ⟨⟨b0,b1⟩,hB,hz⟩:=w9.out w1 kP;rcases Wz.out with ⟨er,he,hnx,hwk⟩|⟨k,hk,hnx,au,hgo,hsh,hwk⟩|⟨nx,hnx,ar6,au,hgo,hsh,hpt⟩
  ·rw [hnx] at hix;rw [hnx];have hne:(er == 0)=false:=by simpa using he
   have Xx:Hid (Num.ik p at' [] 0 er):=hwk;clear hwk;go_wp2_with fail;go_ret3;exact ⟨none,0,0,0,er,rfl,[],vP.nil _,by omega,Xx.out,hB⟩
  ·rw [hnx] at hix;rw [hnx];have Qo:nl=now.length:=Wy.out.1;have Qq:1<=nl/\nl<=4:=by have:=(Num.bf now _ _ hgo.right).1;have:=(p.aj au).2.2.1;omega
   clear Qo;have Xx:Hid (Num.ik p at' (l ++ [now]) k 0):=hwk;clear hwk hgo;have hxl:xl=0:=hix.1;subst hxl;go_wp2_with fail;refine (sP na nl nc now w1 (Ints.below Wy.out hb1 (Nat.le_refl _)) Qq.1 Qq.2).mono ?_;rintro e w2 ⟨g,c,rfl,hg,hgc,hO,hb2⟩;have jT:=ai kP hb2;have hb2':Below wr.heap.size wr w2:=ai hb1 hb2;have hL:fU (w2.alloc (.cells #[.slice (some ⟨g,0,none⟩) nl c] 62)) V.heap.size _ l:=fU.below K9.out (ai hb2' (af _ _));have YK:Hid (Ints (w2.alloc (.cells #[.slice (some ⟨g,0,none⟩) nl c] 62)) (some ⟨g,0,none⟩) nl now):=Ints.below hO.ints (af _ _) (Nat.le_refl _);obtain ⟨vs0,ho0,_⟩:=K9.out;have WA:Hid (Off (w2.alloc (.cells #[.slice (some ⟨g,0,none⟩) nl c] 62)) _ (some ⟨g,0,none⟩) nl):=Off.fresh ho0 (Or.inr ⟨g,rfl,by have:=hb1.size;omega⟩) YK.out;obtain ⟨vs,hov,FU⟩:=hL;have Dh:Hid _:=hov;have IP:Hid _:=FU;have hVs:V.heap.size<=w2.heap.size:=jT.size;have YL:V.heap.size<=(w2.alloc (.cells #[.slice (some ⟨g,0,none⟩) nl c] 62)).heap.size:=by simp;omega
   clear ho0 hov FU hO b0 b1 hB hz;subst hv;go_wp2_with (at_builtin;refine wpList_append_own_at _ rfl (.tmp 21) (.tmp 24) 81 rfl V.heap.size 62 i0 (.slice none 0 0) 1 24 Tryz.underlying81 hif hz0 hz1 hz2 rfl (by decide) _ l.length vs rfl Dh.out ⟨w2.heap.size,0,none⟩ 1 1 [.slice (some ⟨g,0,none⟩) nl c] rfl rfl ?p3 ?p4 ?p5 ?p6 YL ?_)
   case p3=>first|exact eu rfl _ _|exact dQ rfl _ _
   case p4=>first|rfl|(intro u hu;simp at hu;subst hu;rfl)
   case p5=>unfold maxLen;omega
   case p6=>omega
   intro v' w3 ho3 hg3 _ Qr;have ZX:Hid (fU w3 V.heap.size v' (l ++ [now])):=fU.push Dh.out IP.out YK.out WA.out ho3 hg3 (by simpa using Qr);have IQ:Below V.heap.size V w3:=Below.grown (ai jT (af _ _)) hg3 YL (fun j hj=>(IL Dh.out j hj).1);obtain ⟨la,lc,rfl,YM⟩:=ZX.out.lines;rw [List.length_append,List.length_singleton] at YM ⊢;have HLI:Hid (vP w3 la (l.length+1) (l ++ [now])):=YM;clear YM ho3 hg3 Qr Dh IP;go_wp2_with fail;go_ret3;exact ⟨la,_,lc,k,0,rfl,l ++ [now],HLI.out,by omega,Xx.out,(w9.out w3 IQ).2.1⟩
  ·rw [hnx] at hix;rw [hnx];have Qo:nl=now.length:=Wy.out.1;have Qq:1<=nl/\nl<=4:=by have:=(Num.bf now _ _ hgo.right).1;have:=(p.aj au).2.2.1;omega
   clear Qo;dsimp only at hix;have VP:Hid (Num.Path p at' (l ++ [now]) nx):=hpt;have kQ:Hid (Ints w1 xa xl nx):=hix;have hxl:1<=xl/\xl<=4:=by have:=hix.1;have:=(p.aj au).2.2.1;omega
   have GZ:Hid _:=hfx;clear hpt hgo hix hfx;go_wp2_with fail;refine (sP na nl nc now w1 (Ints.below Wy.out hb1 (Nat.le_refl _)) Qq.1 Qq.2).mono ?_;rintro e w2 ⟨g,c,rfl,hg,hgc,hO,hb2⟩;have jT:=ai kP hb2;have hb2':Below wr.heap.size wr w2:=ai hb1 hb2;have hL:fU (w2.alloc (.cells #[.slice (some ⟨g,0,none⟩) nl c] 62)) V.heap.size _ l:=fU.below K9.out (ai hb2' (af _ _));have YK:Hid (Ints (w2.alloc (.cells #[.slice (some ⟨g,0,none⟩) nl c] 62)) (some ⟨g,0,none⟩) nl now):=Ints.below hO.ints (af _ _) (Nat.le_refl _);obtain ⟨vs0,ho0,_⟩:=K9.out;have WA:Hid (Off (w2.alloc (.cells #[.slice (some ⟨g,0,none⟩) nl c] 62)) _ (some ⟨g,0,none⟩) nl):=Off.fresh ho0 (Or.inr ⟨g,rfl,by have:=hb1.size;omega⟩) YK.out;obtain ⟨vs,hov,FU⟩:=hL;have Dh:Hid _:=hov;have IP:Hid _:=FU;have hVs:V.heap.size<=w2.heap.size:=jT.size;have YL:V.heap.size<=(w2.alloc (.cells #[.slice (some ⟨g,0,none⟩) nl c] 62)).heap.size:=by simp;omega
   clear ho0 hov FU hO b0 b1 hB hz;subst hv;go_wp2_with (at_builtin;refine wpList_append_own_at _ rfl (.tmp 21) (.tmp 24) 81 rfl V.heap.size 62 i0 (.slice none 0 0) 1 24 Tryz.underlying81 hif hz0 hz1 hz2 rfl (by decide) _ l.length vs rfl Dh.out ⟨w2.heap.size,0,none⟩ 1 1 [.slice (some ⟨g,0,none⟩) nl c] rfl rfl ?p3 ?p4 ?p5 ?p6 YL ?_)
   case p3=>first|exact eu rfl _ _|exact dQ rfl _ _
   case p4=>first|rfl|(intro u hu;simp at hu;subst hu;rfl)
   case p5=>unfold maxLen;omega
   case p6=>omega
   intro v' w3 ho3 hg3 _ Qr;have ZX:Hid (fU w3 V.heap.size v' (l ++ [now])):=fU.push Dh.out IP.out YK.out WA.out ho3 hg3 (by simpa using Qr);have IQ:Below V.heap.size V w3:=Below.grown (ai jT (af _ _)) hg3 YL (fun j hj=>(IL Dh.out j hj).1);have HI3:Hid (Ints w3 xa xl nx):=by have h1:Ints (w2.alloc (.cells #[.slice (some ⟨g,0,none⟩) nl c] 62)) xa xl nx:=Ints.below kQ.out (ai hb2 (af _ _)) (Nat.le_refl _);obtain ⟨vs1,ho1,_⟩:=K9.out;exact h1.grown (Off.fresh ho1 GZ.out h1) hg3
   obtain ⟨la,lc,rfl,YM⟩:=ZX.out.lines;clear YM ho3 hg3 Qr Dh IP;have hxd:((xl:Int) == 0)=false:=by simp;omega
   go_wp2_with fail;go_roundw
   case rel=>exact ⟨l ++ [now],nx,xa,xl,xc,VP.out,Or.inr au,rfl,by omega,HI3.out,ZX.out,IQ⟩
   case measure=>simp [lenOf];omega
theorem Num.IU {p:Num.Lp} {at':List Int} {l1 l2:List (List Int)} {k1 k2 e1 e2:Int} (h1:Num.ik p at' l1 k1 e1) (h2:Num.ik p at' l2 k2 e2) : l1=l2/\k1=k2/\e1=e2:=by
 have key:∀{l:List (List Int)} {k e:Int},Num.oz p at' l k->Num.cz p at'=([],0,e)->e≠0->False:=by
  intro l k e hw hn he;obtain ⟨K,a1,a2,a3,a4,a5⟩:=hw;by_cases hK:K=0
  ·subst hK;rw [a2,hn] at a4;simp only [Prod.mk.injEq] at a4;exact he a4.2.2
  ·have:=a3 0 (by omega);rw [a2,hn] at this;simp only [Prod.mk.injEq] at this;exact he this.2.2
 rcases h1 with ⟨a1,a2,a3,a4⟩|⟨a1,a2,a3⟩
 ·rcases h2 with ⟨b1,b2,b3,b4⟩|⟨b1,b2,b3⟩
  ·rw [a4] at b4;simp only [Prod.mk.injEq,true_and] at b4;exact ⟨by rw [a3,b3],by rw [a2,b2],b4⟩
  ·exact absurd (key b3 a4 a1) id
 ·rcases h2 with ⟨b1,b2,b3,b4⟩|⟨b1,b2,b3⟩
  ·exact absurd (key a3 b4 b1) id
  ·obtain ⟨c1,c2⟩:=Num.Ff a3 b3;exact ⟨c1,c2,by rw [a1,b1]⟩
end Go.Proofs.YtipcbhodlgoflabGreatDoor
