/- The statement's own player: one line. -/
import Derived.Test.YtipcbhodlgoflabGreatDoorDrlN
import Derived.Test.YtipcbhodlgoflabGreatDoorDrvW
import Derived.Test.YtipcbhodlgoflabGreatDoorTxO
import Derived.Deep.CutRange
set_option maxHeartbeats 6400000
set_option maxRecDepth 8000
namespace Go.Proofs.YtipcbhodlgoflabGreatDoor
open Go.RowKit
structure LS (w0:World) (Q:Nat) (g:Num.Pl) (ca:Option Addr) (cl cc:Nat) (ra:Option Addr) (rl rc:Nat) (B E:Nat) (w:World) : Prop where
 laid:Laid w0
 base:Below w0.heap.size w0 w
 UB:w0.heap.size<=Q
 heap:w.heap[Q]? = some (.cells #[.slice ca cl cc,.slice ra rl rc,.string (B8 g.text),.bool g.prog.isSome] 30 (0,0))
 mF:∀q,g.prog=some q->q.may=true/\Af B E w ca cl ra rl q
 hi:E<=w.heap.size
 away:∀k,B<=k->k < E->k≠Q
def Cg (w0:World) (Q:Nat) (g:Num.Pl) (w:World) : Prop:=∃ca cl cc ra rl rc B E,LS w0 Q g ca cl cc ra rl rc B E w
theorem LS.lt {w0:World} {Q:Nat} {g:Num.Pl} {ca:Option Addr} {cl cc:Nat} {ra:Option Addr} {rl rc:Nat} {B E:Nat} {w:World} (h:LS w0 Q g ca cl cc ra rl rc B E w) : Q < w.heap.size:=(Array.getElem?_eq_some_iff.1 h.heap).1
theorem LS.later {w0:World} {Q:Nat} {g:Num.Pl} {ca:Option Addr} {cl cc:Nat} {ra:Option Addr} {rl rc:Nat} {B E:Nat} {w w':World} (h:LS w0 Q g ca cl cc ra rl rc B E w) (hb:Below w.heap.size w w') : LS w0 Q g ca cl cc ra rl rc B E w' where
 laid:=h.laid
 base:=h.base.trans (hb.mono h.base.size)
 UB:=h.UB
 heap:=by rw [hb.block Q h.lt];exact h.heap
 mF:=fun q hq=>⟨(h.mF q hq).1,(h.mF q hq).2.same fun k _ hk=>hb.block k (Nat.lt_of_lt_of_le hk h.hi)⟩
 hi:=Nat.le_trans h.hi hb.size
 away:=h.away
theorem LS.iF {w0:World} {Q:Nat} {g:Num.Pl} {ca:Option Addr} {cl cc:Nat} {ra:Option Addr} {rl rc:Nat} {B E:Nat} {w:World} (h:LS w0 Q g ca cl cc ra rl rc B E w) : Laid w:=h.laid.later h.base
theorem LS.c (i:Nat) {w0:World} {Q:Nat} {g:Num.Pl} {ca:Option Addr} {cl cc:Nat} {ra:Option Addr} {rl rc:Nat} {B E:Nat} {w:World} (h:LS w0 Q g ca cl cc ra rl rc B E w) : w.cell? ⟨Q,i,none⟩=(#[.slice ca cl cc,.slice ra rl rc,.string (B8 g.text),.bool g.prog.isSome] : Array Value)[i]? := Lib.cell_of_heap h.heap i
theorem LS.f (i:Nat) {w0:World} {Q:Nat} {g:Num.Pl} {ca:Option Addr} {cl cc:Nat} {ra:Option Addr} {rl rc:Nat} {B E:Nat} {w:World} (h:LS w0 Q g ca cl cc ra rl rc B E w) : w.frozen? ⟨Q,i,none⟩=false:=Lib.frozen_of_heap h.heap i
theorem LS.has {w0:World} {Q:Nat} {g:Num.Pl} {ca:Option Addr} {cl cc:Nat} {ra:Option Addr} {rl rc:Nat} {B E:Nat} {w:World} (h:LS w0 Q g ca cl cc ra rl rc B E w) {p:Num.Lp} (hp:g.prog=some p) : Has Q w ca cl cc ra rl rc p:=by obtain ⟨hm,rC⟩:=h.mF p hp;obtain ⟨hi,hr⟩:=rC w h.hi (fun _ _ _=>rfl);exact ⟨h.c 0,h.c 1,hi,hr,hm⟩
theorem LS.text {w0:World} {Q:Nat} {g:Num.Pl} {ca:Option Addr} {cl cc:Nat} {ra:Option Addr} {rl rc:Nat} {B E:Nat} {w:World} (h:LS w0 Q g ca cl cc ra rl rc B E w) (t:List UInt8) :
  LS w0 Q ⟨t,g.prog⟩ ca cl cc ra rl rc B E (w.setCell ⟨Q,2,none⟩ (.string (B8 t)))/\Kp (fun k=>k=Q) w (w.setCell ⟨Q,2,none⟩ (.string (B8 t))):=by
 have k:Kp (fun k=>k=Q) w (w.setCell ⟨Q,2,none⟩ (.string (B8 t))):=Kp.set (Kp.refl (fun k=>k=Q) w) ⟨Q,2,none⟩ rfl _;exact ⟨{
  laid:=h.laid
  base:=k.base h.base (fun j hj=>by rw [hj];exact h.UB)
  UB:=h.UB
  heap:=heap_set h.heap 2 _
  mF:=fun q hq=>⟨(h.mF q hq).1,(h.mF q hq).2.same fun j hj hj'=>k.block j (Nat.lt_of_lt_of_le hj' h.hi) (h.away j hj hj')⟩
  hi:=Nat.le_trans h.hi k.size
  away:=h.away },k⟩
theorem LS.put {w0:World} {Q:Nat} {g:Num.Pl} {ca:Option Addr} {cl cc:Nat} {ra:Option Addr} {rl rc:Nat} {B E:Nat} {w:World} (h:LS w0 Q g ca cl cc ra rl rc B E w) {xa:Option Addr} {xl xc:Nat} {ya:Option Addr} {yl yc:Nat} {p:Num.Lp} {B' E':Nat}
  (hp:Af B' E' w xa xl ya yl p) (hm:p.may=true) (hE:E'<=w.heap.size) (ha:∀k,B'<=k->k < E'->k≠Q) :
  LS w0 Q ⟨g.text,some p⟩ xa xl xc ya yl yc B' E' (((w.setCell ⟨Q,0,none⟩ (.slice xa xl xc)).setCell ⟨Q,1,none⟩ (.slice ya yl yc)).setCell ⟨Q,3,none⟩ (.bool true))/\Kp (fun k=>k=Q) w (((w.setCell ⟨Q,0,none⟩ (.slice xa xl xc)).setCell ⟨Q,1,none⟩ (.slice ya yl yc)).setCell ⟨Q,3,none⟩ (.bool true)):=by
 have k:Kp (fun k=>k=Q) w (((w.setCell ⟨Q,0,none⟩ (.slice xa xl xc)).setCell ⟨Q,1,none⟩ (.slice ya yl yc)).setCell ⟨Q,3,none⟩ (.bool true)):=Kp.set (Kp.set (Kp.set (Kp.refl (fun k=>k=Q) w) ⟨Q,0,none⟩ rfl _) ⟨Q,1,none⟩ rfl _) ⟨Q,3,none⟩ rfl _;exact ⟨{
  laid:=h.laid
  base:=k.base h.base (fun j hj=>by rw [hj];exact h.UB)
  UB:=h.UB
  heap:=heap_set (heap_set (heap_set h.heap 0 _) 1 _) 3 _
  mF:=fun q hq=>by
   cases hq;exact ⟨hm,hp.same fun j hj hj'=>k.block j (by omega) (ha j hj hj')⟩
  hi:=Nat.le_trans hE k.size
  away:=ha },k⟩
def nW (w0:World) (Q:Nat) (w:World) (g':Num.Pl) (t:List UInt8) (e:Ending) (w':World) : Prop:=e=.returned (.string (B8 t))/\Cg w0 Q g' w'/\Kp (fun k=>k=Q) w w'
theorem nW.of {w0:World} {Q:Nat} {g:Num.Pl} {w:World} (h:Cg w0 Q g w) {t:List UInt8} {e:Ending} {w':World} (he:e=.returned (.string (B8 t))) (hb:Below w.heap.size w w') : nW w0 Q w g t e w':=by obtain ⟨ca,cl,cc,ra,rl,rc,B,E,h⟩:=h;exact ⟨he,⟨ca,cl,cc,ra,rl,rc,B,E,h.later hb⟩,Kp.of hb⟩
theorem NL (w0:World) (Q:Nat) (g:Num.Pl) (more:List UInt8) (w:World) (h:Cg w0 Q g w) (hlen:g.text.length+more.length+1<=100000000) :
  Calls Tryz.prog 6 #[.pointer (some ⟨Q,0,none⟩),.string (B8 (61 :: 32 :: more))] w (nW w0 Q w ⟨g.text ++ more ++ [10],g.prog⟩ (Num.dC Num.xu (g.text ++ more ++ [10]).length)):=by
 obtain ⟨ca,cl,cc,ra,rl,rc,B,E,h⟩:=h;have HH:Hid (LS w0 Q g ca cl cc ra rl rc B E w):=h;have c2:w.cell? ⟨Q,2,none⟩=some (.string (B8 g.text)):=h.c 2;have f2:w.frozen? ⟨Q,2,none⟩=false:=h.f 2;have HN:Hid (∀n:Nat,(g.text ++ more ++ [10]).length=n->n<=100000000):=fun n hn=>by rw [<-hn,List.length_append,List.length_append,List.length_singleton];exact hlen
 have hl2:(2:Int)<=((B8 (61 :: 32 :: more)).size:Int):=by rw [aQ];simp;omega
 have e1:(B8 (61 :: 32 :: more)).extract 0 2=B8 [61,32]:=by rw [lT];rfl
 have e2:(B8 (61 :: 32 :: more)).extract 2 (B8 (61 :: 32 :: more)).size=B8 more:=by rw [gI];rfl
 have e3:((B8 [61,32]).toList == [61,32])=true:=(str_eq rfl).1;have E1:B8 g.text ++ B8 more=B8 (g.text ++ more):=bL _ _;have E2:B8 (g.text ++ more) ++ ⟨#[10]⟩=B8 (g.text ++ more ++ [10]):=show B8 (g.text ++ more) ++ B8 [10]=_ from bL _ _;have z1:(B8 g.text).size<=100000000:=by rw [aQ];omega
 have z2:(B8 more).size<=100000000:=by rw [aQ];omega
 have z3:(B8 (g.text ++ more)).size<=100000000:=by rw [aQ,List.length_append];omega
 have z4:(B8 (g.text ++ more ++ [10])).size=(g.text ++ more ++ [10]).length:=aQ _;obtain ⟨hls,hkp⟩:=h.text (g.text ++ more ++ [10]);have JK:Hid (LS w0 Q ⟨g.text ++ more ++ [10],g.prog⟩ ca cl cc ra rl rc B E (w.setCell ⟨Q,2,none⟩ (.string (B8 (g.text ++ more ++ [10]))))):=hls;have HKP:Hid (Kp (fun k=>k=Q) w (w.setCell ⟨Q,2,none⟩ (.string (B8 (g.text ++ more ++ [10]))))):=hkp;have d2:(w.setCell ⟨Q,2,none⟩ (.string (B8 (g.text ++ more ++ [10])))).cell? ⟨Q,2,none⟩=some (.string (B8 (g.text ++ more ++ [10]))):=hls.c 2;clear h hls hkp hlen;generalize (⟨g.text ++ more ++ [10],g.prog⟩ : Num.Pl)=g' at *;generalize (g.text ++ more ++ [10]).length=N at *;have hN:=HN.out N rfl;have K:Hid (∀w',Calls Tryz.prog 8 #[.string (B8 Num.xu),.int .i64 N] w' fun e w''=>e=.returned (.string (B8 (Num.dC Num.xu N)))/\Below w'.heap.size w' w''):=fun w'=>iE Num.xu N (by decide) (by omega) w';generalize B8 (g.text ++ more ++ [10])=T2 at *;generalize B8 (g.text ++ more)=T1 at *;generalize B8 more=SM at *;generalize B8 g.text=T0 at *;generalize hOK:B8 [61,32]=SE at *;clear hOK;go_enter Tryz.func6,Tryz.ntmps6;generalize B8 (61 :: 32 :: more)=S at *;go_upto_region 2 with fail;go_region;go_wp2_with fail;refine (K.out _).mono ?_;rintro e w1 ⟨rfl,hb1⟩;have hb:Below (w.setCell ⟨Q,2,none⟩ (.string T2)).heap.size (w.setCell ⟨Q,2,none⟩ (.string T2)) w1:=((Below.refl _ _).drew).trans hb1;clear hb1;go_wp2_with fail;go_ret;exact ⟨rfl,⟨ca,cl,cc,ra,rl,rc,B,E,JK.out.later hb⟩,HKP.out.below hb⟩
theorem zY {s:List UInt8} (h:s.take 2≠[61,32]) : ((2:Int)<=((B8 s).size:Int))->((B8 s).extract 0 2).toList=s.take 2/\(((B8 s).extract 0 2).toList == [61,32])=false:=by
 intro _;have e:(B8 s).extract 0 2=B8 (s.take 2):=by rw [lT];rfl
 rw [e,dX];exact ⟨rfl,by simpa using h⟩
theorem GV (w0:World) (Q:Nat) (g:Num.Pl) (w:World) (h:Cg w0 Q g w) :
  Calls Tryz.prog 6 #[.pointer (some ⟨Q,0,none⟩),.string (B8 Num.iw)] w (nW w0 Q w ⟨[],g.prog⟩ Num.xu):=by
 obtain ⟨ca,cl,cc,ra,rl,rc,B,E,h⟩:=h;have HH:Hid (LS w0 Q g ca cl cc ra rl rc B E w):=h;have c2:w.cell? ⟨Q,2,none⟩=some (.string (B8 g.text)):=h.c 2;have f2:w.frozen? ⟨Q,2,none⟩=false:=h.f 2;have hl2:(2:Int)<=((B8 Num.iw).size:Int):=by decide
 have e1:=(zY (s:=Num.iw) (by decide) hl2).2;have e2:((B8 Num.iw).toList == [102,114,101,115,104])=true:=(str_eq rfl).1;obtain ⟨hls,hkp⟩:=h.text [];have JK:Hid (LS w0 Q ⟨[],g.prog⟩ ca cl cc ra rl rc B E (w.setCell ⟨Q,2,none⟩ (.string (B8 [])))):=hls;have HKP:Hid (Kp (fun k=>k=Q) w (w.setCell ⟨Q,2,none⟩ (.string (B8 [])))):=hkp;clear h hls hkp;go_enter Tryz.func6,Tryz.ntmps6;generalize B8 Num.iw=S at *;generalize (⟨[],g.prog⟩ : Num.Pl)=g' at *;go_wp2_with fail;go_ret;exact ⟨rfl,⟨ca,cl,cc,ra,rl,rc,B,E,JK.out⟩,HKP.out⟩
theorem JL (w0:World) (Q:Nat) (g:Num.Pl) (w:World) (h:Cg w0 Q g w) (hlen:g.text.length<=100000000) :
  Calls Tryz.prog 6 #[.pointer (some ⟨Q,0,none⟩),.string (B8 Num.jL)] w (nW w0 Q w (jF g).1 (jF g).2):=by
 obtain ⟨ca,cl,cc,ra,rl,rc,B,E,h⟩:=h;have HH:Hid (LS w0 Q g ca cl cc ra rl rc B E w):=h;have c2:w.cell? ⟨Q,2,none⟩=some (.string (B8 g.text)):=h.c 2;have f2:w.frozen? ⟨Q,2,none⟩=false:=h.f 2;have hl2:(2:Int)<=((B8 Num.jL).size:Int):=by decide
 have e1:=(zY (s:=Num.jL) (by decide) hl2).2;have e2:((B8 Num.jL).toList == [116,97,107,101])=true:=(str_eq rfl).1;have a1:((B8 Num.jL).toList == [102,114,101,115,104])=false:=(eY (by decide)).1;clear h;go_enter Tryz.func6,Tryz.ntmps6;generalize B8 Num.jL=S at *;go_wp2_with fail;refine (Cb g.text (by omega) w HH.out.iF).mono ?_;rintro e w2 ⟨xa,xl,xc,ya,yl,yc,rfl,rC,⟨_,hxl⟩,⟨hrw,hyl⟩,hb2⟩;have Xf:Hid (Af w.heap.size w2.heap.size w2 xa xl ya yl (jO g.text)):=rC;have Ay:Hid (LS w0 Q g ca cl cc ra rl rc B E w2):=HH.out.later hb2;have HQ:Hid (Q < w.heap.size):=HH.out.lt;have UH:Hid (Kp (fun k=>k=Q) w w2):=Kp.of hb2;clear rC hb2 c2 f2;cases hr:Num.mK g.text with
 | error k =>
  have E1:jN g.text=2:=by unfold jN;rw [hr]
  have E2:atR g.text=k:=by unfold atR;rw [hr]
  have HE:Hid ((jF g).1=g/\(jF g).2=Num.dC Num.iK k):=by unfold jF;rw [hr];exact ⟨rfl,rfl⟩
  have hk:(k:Int)<=100000001:=by have:=D6 g.text k hr;omega
  rw [E1,E2];clear E1 E2 hr;have hb3:=ai (af w2 (.cells #[.slice xa xl xc,.slice ya yl yc] 28)) (af _ (.cells #[.int .i64 2,.int .i64 k] 37));go_wp2_with fail;refine (iE Num.iK k (by decide) (by omega) _).mono ?_;rintro e w4 ⟨rfl,hb4⟩;have hb:Below w2.heap.size w2 w4:=ai hb3 hb4;clear hb3 hb4;go_wp2_with fail;go_ret;rw [HE.out.1,HE.out.2];exact ⟨rfl,⟨ca,cl,cc,ra,rl,rc,B,E,Ay.out.later hb⟩,UH.out.below hb⟩
 | ok p =>
  have E1:jN g.text=0:=by unfold jN;rw [hr]
  have E2:atR g.text=0:=by unfold atR;rw [hr]
  have E3:jO g.text=p:=by unfold jO;rw [hr]
  have HE:Hid ((jF g).1=⟨g.text,some p⟩/\(jF g).2=Num.dC Num.xu p.rows.length):=by unfold jF;rw [hr];exact ⟨rfl,rfl⟩
  have IM:Hid (p.may=true):=(Num.rV g.text p hr).1;rw [E3] at Xf hrw;rw [E1,E2];have Qu:Hid (yl=p.rows.length):=hrw.1;clear E1 E2 E3 hr hrw;have hb3:=ai (af w2 (.cells #[.slice xa xl xc,.slice ya yl yc] 28)) (af _ (.cells #[.int .i64 0,.int .i64 0] 37));have DY:Hid (LS w0 Q g ca cl cc ra rl rc B E ((w2.alloc (.cells #[.slice xa xl xc,.slice ya yl yc] 28)).alloc (.cells #[.int .i64 0,.int .i64 0] 37))):=Ay.out.later hb3;have hlt:Q < w2.heap.size:=Ay.out.lt;have z0:((w2.alloc (.cells #[.slice xa xl xc,.slice ya yl yc] 28)).alloc (.cells #[.int .i64 0,.int .i64 0] 37)).cell? ⟨w2.heap.size,0,none⟩=some (.slice xa xl xc):=carry (af _ _) (aU rfl _ _ _).1;have z1:((w2.alloc (.cells #[.slice xa xl xc,.slice ya yl yc] 28)).alloc (.cells #[.int .i64 0,.int .i64 0] 37)).cell? ⟨w2.heap.size,1,none⟩=some (.slice ya yl yc):=carry (af _ _) (aU rfl _ _ _).2;have Rp:Hid (Af w.heap.size w2.heap.size ((w2.alloc (.cells #[.slice xa xl xc,.slice ya yl yc] 28)).alloc (.cells #[.int .i64 0,.int .i64 0] 37)) xa xl ya yl p):=Xf.out.same fun k _ hk=>hb3.block k hk;go_upto_region 11 with fail;generalize (w2.alloc (.cells #[.slice xa xl xc,.slice ya yl yc] 28)).alloc (.cells #[.int .i64 0,.int .i64 0] 37)=W at *;generalize hbx:w2.heap.size=bx at z0 z1 hlt ⊢;have iy:Hid (w2.heap.size=bx):=hbx;clear hbx;have c0:W.cell? ⟨Q,0,none⟩=some (.slice ca cl cc):=DY.out.c 0;have c1:W.cell? ⟨Q,1,none⟩=some (.slice ra rl rc):=DY.out.c 1;have c3:W.cell? ⟨Q,3,none⟩=some (.bool g.prog.isSome):=DY.out.c 3;have f0:W.frozen? ⟨Q,0,none⟩=false:=DY.out.f 0;have f1:W.frozen? ⟨Q,1,none⟩=false:=DY.out.f 1;have f3:W.frozen? ⟨Q,3,none⟩=false:=DY.out.f 3;have TN:Hid (LS w0 Q ⟨g.text,some p⟩ xa xl xc ya yl yc w.heap.size bx (((W.setCell ⟨Q,0,none⟩ (.slice xa xl xc)).setCell ⟨Q,1,none⟩ (.slice ya yl yc)).setCell ⟨Q,3,none⟩ (.bool true))/\Kp (fun k=>k=Q) w (((W.setCell ⟨Q,0,none⟩ (.slice xa xl xc)).setCell ⟨Q,1,none⟩ (.slice ya yl yc)).setCell ⟨Q,3,none⟩ (.bool true))):=by rw [<-iy.out];obtain ⟨h1,h2⟩:=LS.put DY.out (xc:=xc) (yc:=yc) Rp.out IM.out hb3.size (fun k hk hk'=>by have:=HQ.out;omega);exact ⟨h1,(UH.out.below hb3).trans h2 (fun _ _ x=>x) (fun _ _ x=>x)⟩
  have hne:¬ bx=Q:=by omega
  have x1:(((W.setCell ⟨Q,0,none⟩ (.slice xa xl xc)).setCell ⟨Q,1,none⟩ (.slice ya yl yc)).setCell ⟨Q,3,none⟩ (.bool true)).cell? ⟨bx,1,none⟩=some (.slice ya yl yc):=by rw [World.cell?_setCell_other _ _ _ _ (fun e=>hne (congrArg Addr.block e).symm),World.cell?_setCell_other _ _ _ _ (fun e=>hne (congrArg Addr.block e).symm),World.cell?_setCell_other _ _ _ _ (fun e=>hne (congrArg Addr.block e).symm)];exact z1
  clear Xf Rp Ay DY UH;go_wp2_with fail;generalize ((W.setCell ⟨Q,0,none⟩ (.slice xa xl xc)).setCell ⟨Q,1,none⟩ (.slice ya yl yc)).setCell ⟨Q,3,none⟩ (.bool true)=X at *;refine (iE Num.xu yl (by decide) (by omega) _).mono ?_;rintro e w4 ⟨rfl,hb4⟩;go_wp2_with fail;go_ret;rw [HE.out.1,HE.out.2,<-Qu.out];exact ⟨rfl,⟨xa,xl,xc,ya,yl,yc,_,_,TN.out.1.later hb4⟩,TN.out.2.below hb4⟩
open Go.RowKit
theorem NM (Q:Nat) (ca:Option Addr) (cl cc:Nat) (ra:Option Addr) (rl rc:Nat) (p:Num.Lp) (w:World) (h:Has Q w ca cl cc ra rl rc p) (hL:Laid w) (la:Option Addr) (n lc:Nat) (l:List Int) (hl:Ints w la n l) (hn:n<=100000000) (word:List UInt8) :
  Calls Tryz.prog 11 #[.pointer (some ⟨Q,0,none⟩),.string (B8 word),.slice la n lc] w fun e w'=>e=.returned (.string (B8 (Num.iU p word l)))/\Below w.heap.size w w':=by
 unfold Num.iU;by_cases h1:word=Num.eX
 ·subst h1;rw [if_pos rfl];exact GR Q ca cl cc ra rl rc p w h hL la n lc l hl hn
 rw [if_neg h1];by_cases h2:word=Num.gW
 ·subst h2;rw [if_pos rfl];exact JF Q ca cl cc ra rl rc p w h hL la n lc l hl hn
 rw [if_neg h2];by_cases h3:word=Num.lookW
 ·subst h3;rw [if_pos rfl];exact JJ Q ca cl cc ra rl rc p w h hL la n lc l hl hn
 rw [if_neg h3];by_cases h4:word=Num.fZ
 ·subst h4;rw [if_pos rfl];exact JG Q ca cl cc ra rl rc p w h hL la n lc l hl hn
 rw [if_neg h4];exact GU Q ca cl cc ra rl rc p w h hL la n lc l hl hn word h1 h2 h3 h4
theorem GX (l c:List UInt8) : ((B8 l).toList == c)=decide (l=c):=by
 rw [dX];by_cases h:l=c
 ·simp [h]
 ·simp [h]
theorem zZ (c:UInt8) : ∀(s x:List UInt8),x∈Num.splitW c s->x.length<=s.length:=by
 intro s
 induction s with
 | nil =>intro x hx;have:Num.splitW c []=[[]]:=rfl;rw [this] at hx;simp at hx;rw [hx];exact Nat.le_refl _
 | cons a s ih =>
  intro x hx;rw [List.length_cons];unfold Num.splitW at hx;split at hx
  ·rcases List.mem_cons.1 hx with h|h
   ·rw [h];exact Nat.zero_le _
   ·have:=ih x h;omega
  ·split at hx
   ·simp at hx;rw [hx];simp
   ·rename_i w r e;rw [e] at ih;rcases List.mem_cons.1 hx with h|h
    ·have:=ih w (by simp);rw [h,List.length_cons];omega
    ·have:=ih x (by simp [h]);omega
def Ch (s word:List UInt8) : Bool := !decide (s=Num.eX) && (!decide (s=Num.gW) && (!decide (word=Num.lookW) && (!decide (word=Num.fZ) && !decide (word=Num.gH))))
theorem JM (g:Num.Pl) (s:List UInt8) (h0:s.take 2≠[61,32]) (h1:s≠Num.iw) (h2:s≠Num.jL) : (Num.aS Num.bC g s).1=g/\
  (Num.numsW ((Num.splitW 32 s).drop 1)=none->(Num.aS Num.bC g s).2=[63])/\
  (∀l,Num.numsW ((Num.splitW 32 s).drop 1)=some l->(Num.aS Num.bC g s).2=if Ch s ((Num.splitW 32 s)[0]?.getD [])=true then [63] else match g.prog with|none=>Num.kJ|some p=>Num.iU p ((Num.splitW 32 s)[0]?.getD []) l):=by
 unfold Num.aS;rw [if_neg h0,if_neg h1,if_neg h2];cases hn:Num.numsW ((Num.splitW 32 s).drop 1) with
 | none=>exact ⟨rfl,fun _=>rfl,fun l h=>by cases h⟩
 | some l =>
  dsimp only;have e:(Ch s ((Num.splitW 32 s)[0]?.getD [])=true)<->(s≠Num.eX/\s≠Num.gW/\(Num.splitW 32 s)[0]?.getD []≠Num.lookW/\(Num.splitW 32 s)[0]?.getD []≠Num.fZ/\(Num.splitW 32 s)[0]?.getD []≠Num.gH):=by unfold Ch;simp only [Bool.and_eq_true,Bool.not_eq_true',decide_eq_false_iff_not]
  by_cases hb:Ch s ((Num.splitW 32 s)[0]?.getD [])=true
  ·rw [if_pos (e.1 hb)];exact ⟨rfl,fun h=>(by cases h),fun m hm=>by rw [if_pos hb]⟩
  ·rw [if_neg (fun h=>hb (e.2 h))];cases hp:g.prog with
   | none=>exact ⟨rfl,fun h=>(by cases h),fun m hm=>by rw [if_neg hb]⟩
   | some p=>exact ⟨rfl,fun h=>(by cases h),fun m hm=>by cases hm;rw [if_neg hb];rfl⟩
theorem JN (w0:World) (Q:Nat) (g:Num.Pl) (s:List UInt8) (w:World) (h:Cg w0 Q g w) (hs:s.length<=2000000) (h0:s.take 2≠[61,32]) (h1:s≠Num.iw) (h2:s≠Num.jL) :
  Calls Tryz.prog 6 #[.pointer (some ⟨Q,0,none⟩),.string (B8 s)] w (nW w0 Q w (Num.aS Num.bC g s).1 (Num.aS Num.bC g s).2):=by
 obtain ⟨hg',hno,hye⟩:=JM g s h0 h1 h2;rw [hg'];have HX:Hid (Cg w0 Q g w):=h;obtain ⟨ca,cl,cc,ra,rl,rc,B,E,h⟩:=h;have HH:Hid (LS w0 Q g ca cl cc ra rl rc B E w):=h;have NV:=zY h0;have a1:((B8 s).toList == [102,114,101,115,104])=false:=(eY h1).1;have a2:((B8 s).toList == [116,97,107,101])=false:=(eY h2).1;have b1:((B8 s).toList == [115,111,108,118,101])=decide (s=Num.eX):=GX s _;have b2:((B8 s).toList == [115,104,111,119])=decide (s=Num.gW):=GX s _;have hne:=Num.jw 32 s;have hwl:∀x∈Num.splitW 32 s,x.length<=2000000:=fun x hx=>by
  have:=zZ 32 s x hx;omega
 have K8:Hid (∀w',Calls Tryz.prog 5 #[.string (B8 s),.int .u8 32] w' fun e w''=>∃a n k,e=.returned (.slice a n k)/\w''.ownsRow w'.heap.size 9 1 (.slice a n k) n (strs (Num.splitW 32 s))/\Below w'.heap.size w' w''):=fun w'=>zW 32 32 rfl s hs w';have HSL:Hid ((Num.splitW 32 s).length<=2000001):=by have:=wo 32 s;show _<=_;omega
 obtain ⟨t,ht⟩ : ∃t,(Num.aS Num.bC g s).2=t:=⟨_,rfl⟩;rw [ht] at hno hye ⊢;generalize Num.splitW 32 s=ws at *;have Ec:Hid (Num.numsW (ws.drop 1)=none->t=[63]):=hno;generalize hbb:Ch s (ws[0]?.getD [])=bb at hye;have WY:Hid (Ch s (ws[0]?.getD [])=bb):=hbb;have HYE:Hid (∀l,Num.numsW (ws.drop 1)=some l->t=if bb=true then [63] else match g.prog with|none=>Num.kJ|some p=>Num.iU p (ws[0]?.getD []) l):=hye;have JY:Hid (∀x∈ws,x.length<=2000000):=hwl;have VW:Hid (ws≠[]):=hne;clear h h0 h1 h2 hg' hno hye hbb hwl hne ht;obtain ⟨i0,hif,hz0,hz1,hz2⟩:=info_parts Tryz.ja;go_enter Tryz.func6,Tryz.ntmps6;generalize hD1:decide (s=Num.eX)=d1 at b1;generalize hD2:decide (s=Num.gW)=d2 at b2;have HD1:Hid (decide (s=Num.eX)=d1):=hD1;have HD2:Hid (decide (s=Num.gW)=d2):=hD2;clear hD1 hD2;generalize B8 s=S at *;go_upto_region 1 with fail;go_cut [19] from 12 to 18 (fun s19 wx=>s19=.bool false/\wx=w)
 case first =>
  by_cases h2:(2:Int)<=(S.size:Int)
  ·have e1:=(NV h2).2;clear NV;go_wp2_with fail;go_meet;exact ⟨rfl,rfl⟩
  ·clear NV;have h2':decide ((2:Int)<=(S.size:Int))=false:=by simpa using h2
   go_wp2_with fail;go_meet;exact ⟨rfl,rfl⟩
 case rest =>
  obtain ⟨rfl,rfl⟩:=hcut;clear NV;go_wp2_with fail;refine (K8.out wc).mono ?_;rintro e w1 ⟨a,n,c,rfl,hown,hb1⟩;obtain ⟨Aa,ku⟩:=Strs.Ef hown;have HN:Hid (n=ws.length):=Aa.1;have hn1:1<=n:=by have h:=List.length_pos_iff.2 VW.out;have:=HN.out;omega
  have hn2:n<=2000001:=by have:=HSL.out;have:=HN.out;omega
  obtain ⟨gb,rfl,hgb⟩ : ∃gb,a=some ⟨gb,0,none⟩/\∀j,j < n->w1.cell? ⟨gb,j,none⟩=some (.string (B8 (ws[j]?.getD []))):=by
   rcases ku with h|⟨g',rfl,_,_⟩
   ·omega
   ·rcases Aa.2 with h|⟨b,off,e,_,hc⟩
    ·omega
    ·simp only [Option.some.injEq,Addr.mk.injEq,and_true] at e;obtain ⟨rfl,rfl⟩:=e;exact ⟨_,rfl,fun j hj=>by have:=hc j hj;rw [Nat.zero_add] at this;exact this⟩
  have VA:Hid (∀j,j < n->w1.cell? ⟨gb,j,none⟩=some (.string (B8 (ws[j]?.getD [])))):=hgb;have hgl:gb < w1.heap.size:=World.block_lt_of_cell? w1 _ (hgb 0 (by omega));have ZZ:Hid (LS w0 Q g ca cl cc ra rl rc B E w1):=HH.out.later hb1;have hBw1:Below wc.heap.size wc w1:=hb1;clear hown Aa ku hgb hb1 K8;go_wp2_with fail;go_loopw [8,9] (fun vv iv wr=>∃(k:Nat) (done:List Int) (xa:Option Addr) (xc:Nat),k+1<=n/\iv=.int .i64 ((k+1:Nat) : Int)/\vv=.slice xa k xc/\Num.numsW ((ws.drop 1).take k)=some done/\done.length=k/\wr.ownsRow w1.heap.size 2 1 (.slice xa k xc) k (done.map (Value.int .i64))/\Below w1.heap.size w1 wr) (fun _ iv _=>n - (intOf iv).toNat)
  case atStart=>exact ⟨0,[],none,0,by omega,rfl,rfl,rfl,rfl,World.ownsRow_nil _ _ _ _,Below.refl _ _⟩
  case round =>
   obtain ⟨k,done,xa,xc,hk,rfl,rfl,hnm,hdl,hown,hbl⟩:=hrel;have HNM:Hid (Num.numsW ((ws.drop 1).take k)=some done):=hnm;have UF:Hid (done.length=k):=hdl;have HO:Hid (wr.ownsRow w1.heap.size 2 1 (.slice xa k xc) k (done.map (Value.int .i64))):=hown;clear hnm hdl hown;generalize hk1:k+1=k1 at *;have RD:Hid (k+1=k1):=hk1;clear hk1;by_cases hlt:k1 < n
   ·have hkw:k < (ws.drop 1).length:=by rw [List.length_drop];have:=HN.out;have:=RD.out;omega
    have hkk:ws[k1]?.getD []=(ws.drop 1)[k]?.getD []:=by rw [List.getElem?_drop,<-RD.out,Nat.add_comm 1 k]
    have ck:wr.cell? ⟨gb,k1,none⟩=some (.string (B8 ((ws.drop 1)[k]?.getD []))):=by rw [hbl.cell (p:=⟨gb,k1,none⟩) hgl,<-hkk];exact VA.out k1 hlt
    have hgr:gb < wr.heap.size:=by have:=hbl.size;omega
    have hmem:(ws.drop 1)[k]?.getD []∈ws.drop 1:=by rw [List.getElem?_eq_getElem hkw];exact List.getElem_mem _
    have ZU:Hid (((ws.drop 1)[k]?.getD []).length<=2000000):=JY.out _ (List.mem_of_mem_drop hmem);have D9:Hid (Num.bQ ((ws.drop 1)[k]?.getD [])=none->t=[63]):=fun h=>Ec.out (L6 _ _ hmem h);have HYY:Hid (∀m,Num.bQ ((ws.drop 1)[k]?.getD [])=some m->Num.numsW ((ws.drop 1).take (k+1))=some (done ++ [m])):=by intro m hm;rw [List.take_succ_eq_append_getElem hkw,LZ,HNM.out];rw [List.getElem?_eq_getElem hkw,Option.getD_some] at hm;rw [hm];rfl
    generalize (ws.drop 1)[k]?.getD []=x at ck ZU D9 HYY;clear hmem hkk;go_wp2_with fail;refine (Ho x ZU.out wr).mono ?_;rintro e w2 ⟨rfl,rfl⟩;cases hx:Num.bQ x with
    | none =>have ET:Hid (t=[63]):=D9.out hx;clear hx;simp only [Option.getD_none,Option.isSome_none];go_wp2_with fail;go_ret;rw [ET.out];exact nW.of HX.out rfl (hBw1.trans (hbl.mono hBw1.size))
    | some m =>
     have HY2:Hid (Num.numsW ((ws.drop 1).take (k+1))=some (done ++ [m])):=HYY.out m hx;clear hx;simp only [Option.getD_some,Option.isSome_some];go_wp2_with (at_builtin;refine wpList_append_own _ rfl (.tmp 87) (.tmp 89) 25 rfl w1.heap.size 2 i0 (.int .i64 0) 1 8 Tryz.underlying25 hif hz0 hz1 hz2 rfl (by decide) _ _ _ rfl (by exact World.ownsRow.alloc HO.out _) ⟨w2.heap.size,0,none⟩ 1 1 [.int .i64 m] rfl rfl ?Sk ?Sl ?Sm ?Sn ?Sr ?_)
     case Sk=>first|exact eu rfl _ _|exact dQ rfl _ _
     case Sl=>first|rfl|(intro u hu;simp at hu;subst hu;rfl)
     case Sm=>unfold maxLen;have:=RD.out;omega
     case Sn=>have:=RD.out;omega
     case Sr=>have:=hbl.size;simp;omega
     intro v' w3 hown' hgrow _;obtain ⟨a',c',hv'⟩:=dW hown';subst hv';have hB:Below w1.heap.size w1 w3:=Below.grown (by exact hbl.alloc hbl.size _) hgrow (by have:=hbl.size;simp;omega) (fun j hj=>(World.ownsRow.lt HO.out j hj).1);have R:Hid (w3.ownsRow w1.heap.size 2 1 (.slice a' (k+1) c') (k+1) ((done ++ [m]).map (Value.int .i64))):=by show w3.ownsRow _ _ _ _ _ _;rw [List.map_append];exact hown'
     clear hown' hgrow;go_wp2_with fail;go_roundw
     case rel=>exact ⟨k+1,done ++ [m],a',c',by have:=RD.out;omega,by rw [<-RD.out];go_num,rfl,HY2.out,by rw [List.length_append,List.length_singleton,UF.out],R.out,hB⟩
     case measure=>simp [intOf];omega
   ·have hke:k1=n:=by omega
    have Zd:Hid (Num.numsW (ws.drop 1)=some done):=by have h1:=HNM.out;rw [List.take_of_length_le (by rw [List.length_drop];have:=HN.out;have:=RD.out;omega)] at h1;exact h1
    have HT:Hid (t=if bb=true then [63] else match g.prog with|none=>Num.kJ|some p=>Num.iU p (ws[0]?.getD []) done):=HYE.out done Zd.out;have HID:Hid (Ints wr xa k done):=by obtain ⟨a',c',hv,hi,_⟩:=Ints.jr HO.out UF.out.symm;simp only [Value.slice.injEq] at hv;obtain ⟨rfl,_,_⟩:=hv;exact hi
    have jH:Hid (LS w0 Q g ca cl cc ra rl rc B E wr):=ZZ.out.later hbl;have c0:wr.cell? ⟨gb,0,none⟩=some (.string (B8 (ws[0]?.getD []))):=by rw [hbl.cell (p:=⟨gb,0,none⟩) hgl];exact VA.out 0 (by omega)
    have hgr:gb < wr.heap.size:=by have:=hbl.size;omega
    have hBW:Below wc.heap.size wc wr:=hBw1.trans (hbl.mono hBw1.size);have hkn:k<=2000001:=by have:=RD.out;omega
    have b3:((B8 (ws[0]?.getD [])).toList == [108,111,111,107])=decide (ws[0]?.getD []=Num.lookW):=GX _ _;have b4:((B8 (ws[0]?.getD [])).toList == [119,97,108,107])=decide (ws[0]?.getD []=Num.fZ):=GX _ _;have b5:((B8 (ws[0]?.getD [])).toList == [115,119,101,101,112])=decide (ws[0]?.getD []=Num.gH):=GX _ _;have HB:Hid ((!d1 && (!d2 && (!decide (ws[0]?.getD []=Num.lookW) && (!decide (ws[0]?.getD []=Num.fZ) && !decide (ws[0]?.getD []=Num.gH)))))=bb):=show _=_ by rw [<-WY.out,<-HD1.out,<-HD2.out];rfl
    have HAS:Hid (∀p,g.prog=some p->Calls Tryz.prog 11 #[.pointer (some ⟨Q,0,none⟩),.string (B8 (ws[0]?.getD [])),.slice xa k xc] wr fun e w'=>e=.returned (.string (B8 (Num.iU p (ws[0]?.getD []) done)))/\Below wr.heap.size wr w'):=fun p hp=>NM Q ca cl cc ra rl rc p wr (jH.out.has hp) jH.out.iF xa k xc done HID.out (by omega) _;have hcp:wr.cell? ⟨Q,3,none⟩=some (.bool g.prog.isSome):=jH.out.c 3;generalize decide (ws[0]?.getD []=Num.lookW)=d3 at b3 HB;generalize decide (ws[0]?.getD []=Num.fZ)=d4 at b4 HB;generalize decide (ws[0]?.getD []=Num.gH)=d5 at b5 HB;generalize ws[0]?.getD []=wd at *;generalize B8 wd=SW at *;subst hke;clear HO VA JY VW Ec HYE HNM;go_upto_region 23 with fail;go_cut [114] from 71 to 113 (fun an3 wx=>an3=.bool bb/\wx=wr)
    case first =>
     clear hcp;cases d1 with
     | true=>(go_wp2_with fail;go_meet;exact ⟨by rw [<-HB.out];rfl,rfl⟩)
     | false=>cases d2 with
      | true=>(go_wp2_with fail;go_meet;exact ⟨by rw [<-HB.out];rfl,rfl⟩)
      | false=>cases d3 with
       | true=>(go_wp2_with fail;go_meet;exact ⟨by rw [<-HB.out];rfl,rfl⟩)
       | false=>cases d4 with
        | true=>(go_wp2_with fail;go_meet;exact ⟨by rw [<-HB.out];rfl,rfl⟩)
        | false=>cases d5 with
         | true=>(go_wp2_with fail;go_meet;exact ⟨by rw [<-HB.out];rfl,rfl⟩)
         | false=>(go_wp2_with fail;go_meet;exact ⟨by rw [<-HB.out];rfl,rfl⟩)
    case rest =>
     obtain ⟨rfl,rfl⟩:=hcut;clear b1 b2 b3 b4 b5;cases bb with
     | true =>
      have ET:Hid (t=[63]):=by have:=HT.out;rw [if_pos rfl] at this;exact this
      go_wp2_with fail;go_ret;rw [ET.out];exact nW.of HX.out rfl hBW
     | false =>
      have ET:=HT.out;rw [if_neg (by decide)] at ET;cases hp:g.prog with
      | none =>rw [hp] at ET hcp;have ET2:Hid (t=Num.kJ):=ET;simp only [Option.isSome_none] at hcp;clear ET hp;go_wp2_with fail;go_ret;rw [ET2.out];exact nW.of HX.out rfl hBW
      | some p =>rw [hp] at ET hcp;have ET2:Hid (t=Num.iU p wd done):=ET;have KA:=HAS.out p hp;rw [<-ET2.out] at KA;have HKA:Hid (Calls Tryz.prog 11 #[.pointer (some ⟨Q,0,none⟩),.string SW,.slice xa k xc] wc fun e w'=>e=.returned (.string (B8 t))/\Below wc.heap.size wc w'):=KA;simp only [Option.isSome_some] at hcp;clear ET hp KA;go_wp2_with fail;refine HKA.out.mono ?_;rintro e w5 ⟨rfl,hb5⟩;have ZH:=ai hBW hb5;go_wp2_with fail;go_ret;exact nW.of HX.out rfl ZH
theorem Ci (w0:World) (Q:Nat) (g:Num.Pl) (s:List UInt8) (w:World) (h:Cg w0 Q g w) (hs:s.length<=2000000) (hlen:g.text.length+s.length+1<=100000000) :
  Calls Tryz.prog 6 #[.pointer (some ⟨Q,0,none⟩),.string (B8 s)] w (nW w0 Q w (Num.aS Num.bC g s).1 (Num.aS Num.bC g s).2):=by
 by_cases hpre:∃more,s=61 :: 32 :: more
 ·obtain ⟨more,rfl⟩:=hpre;rw [Num.GI];exact NL w0 Q g more w h (by rw [List.length_cons,List.length_cons] at hlen;omega)
 ·obtain ⟨h0,_⟩:=Vx hpre;by_cases h1:s=Num.iw
  ·subst h1;rw [Num.zP];exact GV w0 Q g w h
  by_cases h2:s=Num.jL
  ·subst h2;rw [Ce];exact JL w0 Q g w h (by omega)
  exact JN w0 Q g s w h hs h0 h1 h2
open Go.RowKit
theorem Rw (s:List UInt8) : (∃last,(Num.splitW 10 s)[(Num.splitW 10 s).length - 1]?.getD []=last/\(last=[]->Num.dR s=(Num.splitW 10 s).take ((Num.splitW 10 s).length - 1))/\(last≠[]->Num.dR s=Num.splitW 10 s)):=by
 have hne:=Num.jw 10 s;refine ⟨_,rfl,?_⟩;have e:(Num.splitW 10 s).getLast? = (Num.splitW 10 s)[(Num.splitW 10 s).length - 1]? := List.getLast?_eq_getElem?;have hlt:(Num.splitW 10 s).length - 1 < (Num.splitW 10 s).length:=by have:=List.length_pos_iff.2 hne;omega
 unfold Num.dR;rw [e,List.getElem?_eq_getElem hlt,Option.getD_some];constructor
 ·intro h;rw [if_pos (by rw [h]),List.dropLast_eq_take]
 ·intro h;rw [if_neg (fun h'=>h (Option.some.inj h'))]
theorem Cg.first (w:World) (hL:Laid w) : Cg w w.heap.size ⟨[],none⟩ (w.alloc (.cells #[.slice none 0 0,.slice none 0 0,.string ⟨#[]⟩,.bool false] 30)) :=
 ⟨none,0,0,none,0,0,0,0,{
  laid:=hL
  base:=af _ _
  UB:=Nat.le_refl _
  heap:=fM rfl _
  mF:=fun q h=>by cases h
  hi:=Nat.zero_le _
  away:=fun k h1 h2=>by omega }⟩
theorem Cg.iF {w0:World} {Q:Nat} {g:Num.Pl} {w:World} (h:Cg w0 Q g w) : Laid w/\Below w0.heap.size w0 w/\∀q,g.prog=some q->q.may=true:=by obtain ⟨ca,cl,cc,ra,rl,rc,B,E,h⟩:=h;exact ⟨h.iF,h.base,fun q hq=>(h.mF q hq).1⟩
theorem xy (s:List UInt8) (hs:s.length<=1100000) (w:World) (hL:Laid w) :
  Calls Tryz.prog 3 #[.string (B8 s)] w fun e w'=>e=.returned (.bool true)/\Below w.heap.size w w':=by
 have HL:Hid (Laid w):=hL;have K8:Hid (∀w',Calls Tryz.prog 5 #[.string (B8 s),.int .u8 10] w' fun e w''=>∃a n k,e=.returned (.slice a n k)/\w''.ownsRow w'.heap.size 9 1 (.slice a n k) n (strs (Num.splitW 10 s))/\Below w'.heap.size w' w''):=fun w'=>zW 10 10 rfl s (by omega) w';have HPY:Hid (∀w',Laid w'->Calls Tryz.prog 7 #[.string (B8 s)] w' fun e w''=>e=.returned (.string (B8 (Num.jM Num.bC s)))/\Below w'.heap.size w' w''):=fun w' h=>uT s (by omega) w' h;have HSL:Hid ((Num.splitW 10 s).length<=1100001):=by have:=wo 10 s;show _<=_;omega
 have VW:Hid (Num.splitW 10 s≠[]):=Num.jw 10 s;have JY:Hid (∀x∈Num.splitW 10 s,x.length<=1100000):=fun x hx=>by have:=zZ 10 s x hx;omega
 obtain ⟨last,hlast,hl1,hl2⟩:=Rw s;have HLA:Hid ((Num.splitW 10 s)[(Num.splitW 10 s).length - 1]?.getD []=last):=hlast;have XA:Hid (last=[]->Num.dR s=(Num.splitW 10 s).take ((Num.splitW 10 s).length - 1)):=hl1;have HL2:Hid (last≠[]->Num.dR s=Num.splitW 10 s):=hl2;have VP:Hid (Num.jM Num.bC s=Num.gX Num.bC ⟨[],none⟩ ((Num.dR s).take 60)):=rfl;clear hlast hl1 hl2 hL;go_enter Tryz.func3,Tryz.ntmps3;generalize B8 s=S at *;generalize Num.splitW 10 s=ws at *;generalize Num.dR s=ls at *;generalize Num.jM Num.bC s=X at *;go_wp2_with fail;refine (K8.out w).mono ?_;rintro e w1 ⟨a,n,c,rfl,hown,hb1⟩;obtain ⟨Aa,ku⟩:=Strs.Ef hown;have HN:Hid (n=ws.length):=Aa.1;have hn1:1<=n:=by have h:=List.length_pos_iff.2 VW.out;have:=HN.out;omega
 have hn2:n<=1100001:=by have:=HSL.out;have:=HN.out;omega
 obtain ⟨gb,rfl,hgb,hcap⟩ : ∃gb,a=some ⟨gb,0,none⟩/\(∀j,j < n->w1.cell? ⟨gb,j,none⟩=some (.string (B8 (ws[j]?.getD []))))/\n<=c:=by
  rcases ku with h|⟨g',rfl,_,hcp⟩
  ·omega
  ·rcases Aa.2 with h|⟨b,off,e,_,hc⟩
   ·omega
   ·simp only [Option.some.injEq,Addr.mk.injEq,and_true] at e;obtain ⟨rfl,rfl⟩:=e;exact ⟨_,rfl,fun j hj=>by have:=hc j hj;rw [Nat.zero_add] at this;exact this,hcp⟩
 have VA:Hid (∀j,j < n->w1.cell? ⟨gb,j,none⟩=some (.string (B8 (ws[j]?.getD [])))):=hgb;have hgl:gb < w1.heap.size:=World.block_lt_of_cell? w1 _ (hgb 0 (by omega));have an5:Hid (Laid w1):=HL.out.later hb1;have hBw1:Below w.heap.size w w1:=hb1;clear hown Aa ku hgb hb1 K8;obtain ⟨n',hn'⟩ : ∃n',n - 1=n':=⟨_,rfl⟩;have ck:w1.cell? ⟨gb,n',none⟩=some (.string (B8 last)):=by have:=VA.out n' (by omega);rw [<-HLA.out,<-HN.out,hn'];exact this
 have hw1:wrap64 ((n:Int) - 1)=(n':Int):=by rw [IntWalk.wrap64_in _ (by omega)];omega
 have hw2:(n:Int) - 1=(n':Int):=by omega
 have HMM:Hid (∃m,m<=n/\m=ls.length/\(last=[]->m=n')/\(last≠[]->m=n)/\∀j,j < m->w1.cell? ⟨gb,j,none⟩=some (.string (B8 (ls[j]?.getD [])))/\(ls[j]?.getD []).length<=1100000):=by
  have hin:∀j,j < n->(ws[j]?.getD []).length<=1100000:=fun j hj=>JY.out _ (by rw [List.getElem?_eq_getElem (by have:=HN.out;omega)];exact List.getElem_mem _);by_cases hz:last=[]
  ·have e:=XA.out hz;refine ⟨n',by omega,by rw [e,List.length_take];have:=HN.out;omega,fun _=>rfl,fun h=>absurd hz h,fun j hj=>?_⟩;rw [e,List.getElem?_take_of_lt (by have:=HN.out;omega)];exact ⟨VA.out j (by omega),hin j (by omega)⟩
  ·have e:=HL2.out hz;refine ⟨n,Nat.le_refl _,by rw [e];exact HN.out,fun h=>absurd h hz,fun _=>rfl,fun j hj=>?_⟩;rw [e];exact ⟨VA.out j hj,hin j hj⟩
 obtain ⟨m,hmn,He,hm1,hm2,hmc⟩:=HMM.out;have XI:Hid (m=ls.length):=He;have Xp:Hid (∀j,j < m->w1.cell? ⟨gb,j,none⟩=some (.string (B8 (ls[j]?.getD [])))/\(ls[j]?.getD []).length<=1100000):=hmc;clear HMM He hmc VA JY HLA XA HL2 HSL VW;have HF:Hid (Cg w1 w1.heap.size ⟨[],none⟩ (w1.alloc (.cells #[.slice none 0 0,.slice none 0 0,.string ⟨#[]⟩,.bool false] 30))):=Cg.first w1 an5.out;have hcase:(last=[]/\m=n')\/(last≠[]/\m=n):=by
  by_cases hz:last=[]
  ·exact Or.inl ⟨hz,hm1 hz⟩
  ·exact Or.inr ⟨hz,hm2 hz⟩
 clear hm1 hm2;rcases hcase with ⟨hz,hmm⟩|⟨hz,hmm⟩
 ·rw [hmm] at XI Xp;clear hmm hmn;have hq:(B8 last).toList.isEmpty=true:=by rw [hz,dX];rfl
  generalize hS0:B8 last=S0 at ck hq;clear hS0 hz;have hnc:(n':Int)<=(c:Int):=by omega
  go_wp2_with fail;generalize w1.alloc (.cells #[.slice none 0 0,.slice none 0 0,.string ⟨#[]⟩,.bool false] 30)=V at *;go_loopw [5,6] (fun sv iv wr=>∃(k:Nat) (g:Num.Pl) (out:List UInt8),k<=n'/\k<=60/\iv=.int .i64 k/\sv=.string (B8 out)/\g.text.length<=1100000*k/\out.length<=100001*k/\X=out ++ Num.gX Num.bC g ((ls.drop k).take (60 - k))/\Cg w1 w1.heap.size g wr) (fun _ iv _=>60 - (intOf iv).toNat)
  case atStart=>exact ⟨0,⟨[],none⟩,[],Nat.zero_le _,by omega,rfl,rfl,by simp,by simp,VP.out,HF.out⟩
  case round =>
   obtain ⟨k,g,out,hk,Zw,rfl,rfl,hgt,hout,hx,hls⟩:=hrel;have JK:Hid (Cg w1 w1.heap.size g wr):=hls;have Qm:Hid (X=out ++ Num.gX Num.bC g ((ls.drop k).take (60 - k))):=hx;have uX:Hid (g.text.length<=1100000*k/\out.length<=100001*k):=⟨hgt,hout⟩;clear HF hls hx hgt hout;have hbw:=JK.out.iF.2.1;by_cases hlt:k < n'
   ·by_cases h60:k < 60
    ·obtain ⟨hc,hlen⟩:=Xp.out k hlt;have ck:wr.cell? ⟨gb,k,none⟩=some (.string (B8 (ls[k]?.getD []))):=by rw [hbw.cell (p:=⟨gb,k,none⟩) hgl];exact hc
     have hgr:gb < wr.heap.size:=by have:=hbw.size;omega
     have HST:Hid (∀g',Num.gX Num.bC g' ((ls.drop k).take (60 - k))=(Num.aS Num.bC g' (ls[k]?.getD [])).2 ++ 10 :: Num.gX Num.bC (Num.aS Num.bC g' (ls[k]?.getD [])).1 ((ls.drop (k+1)).take (60 - (k+1)))):=by
      intro g';have hkl:k < ls.length:=by have:=XI.out;omega
      rw [List.drop_eq_getElem_cons hkl,show 60 - k=(60 - (k+1))+1 by omega,List.take_succ_cons,List.getElem?_eq_getElem hkl];rfl
     generalize ls[k]?.getD []=line at ck hlen HST;have ng:Hid ((Num.aS Num.bC g line).2.length<=100000/\(Num.aS Num.bC g line).1.text.length<=g.text.length+line.length/\∀q,(Num.aS Num.bC g line).1.prog=some q->q.may=true):=Num.wy g line (by have:=uX.out;omega) JK.out.iF.2.2;have KL:Hid (Calls Tryz.prog 6 #[.pointer (some ⟨w1.heap.size,0,none⟩),.string (B8 line)] wr (nW w1 w1.heap.size wr (Num.aS Num.bC g line).1 (Num.aS Num.bC g line).2)):=Ci w1 w1.heap.size g line wr JK.out (by omega) (by have:=uX.out;omega);have GY:Hid (X=out ++ (Num.aS Num.bC g line).2 ++ [10] ++ Num.gX Num.bC (Num.aS Num.bC g line).1 ((ls.drop (k+1)).take (60 - (k+1)))):=show _=_ by rw [Qm.out,HST.out g];simp
     have J4:Hid (line.length<=1100000):=hlen;clear hc hlen HST Qm;generalize (Num.aS Num.bC g line).1=g' at *;generalize (Num.aS Num.bC g line).2=t at *;have E1:B8 out ++ B8 t=B8 (out ++ t):=bL _ _;have E2:B8 (out ++ t) ++ ⟨#[10]⟩=B8 (out ++ t ++ [10]):=show B8 (out ++ t) ++ B8 [10]=_ from bL _ _;have z1:(B8 out).size<=100000000:=by rw [aQ];have:=uX.out;omega
     have z2:(B8 t).size<=100000:=by rw [aQ];exact ng.out.1
     have z3:(B8 (out ++ t)).size<=200000000:=by rw [aQ,List.length_append];have:=uX.out;have:=ng.out.1;omega
     have Xi:Hid ((out ++ t ++ [10]).length<=100001*(k+1)):=by show _<=_;rw [List.length_append,List.length_append,List.length_singleton];have:=ng.out.1;have:=uX.out;omega
     have HGT:Hid (g'.text.length<=1100000*(k+1)):=by show _<=_;have:=ng.out.2.1;have:=uX.out;have:=J4.out;omega
     generalize hO3:out ++ t ++ [10]=Xj at E2 Xi GY;generalize hO2:B8 (out ++ t)=S2 at E1 E2 z3;generalize hO1:B8 out=S1 at E1 z1 ⊢;generalize hLS:B8 line=SL at ck KL;generalize ZB:B8 t=ST at E1 z2;have Y5:Hid (B8 t=ST):=ZB;clear hO3 hO2 hO1 hLS ZB;have i1:(k:Int) < 60:=by omega
     go_wp2_with fail;refine KL.out.mono ?_;rintro e w2 ⟨rfl,Rx,hk2⟩;have Xk:Hid (Cg w1 w1.heap.size g' w2):=Rx;rw [Y5.out];clear Rx hk2;go_wp2_with fail;go_roundw
     case rel=>exact ⟨k+1,g',Xj,by omega,by omega,by go_num,rfl,HGT.out,Xi.out,GY.out,Xk.out⟩
     case measure=>simp [intOf];omega
    ·have hke:k=60:=by omega
     subst hke;have Xl:Hid (X=out):=show _=_ by rw [Qm.out];show out ++ []=out;rw [List.append_nil]
     have hq:=Eu X out;rw [decide_eq_true Xl.out] at hq;have KP:Hid (Calls Tryz.prog 7 #[.string S] wr fun e w''=>e=.returned (.string (B8 X))/\Below wr.heap.size wr w''):=HPY.out wr JK.out.iF.1;generalize B8 X=SX at KP hq;generalize B8 out=SO at hq ⊢;go_wp2_with fail;refine KP.out.mono ?_;rintro e w2 ⟨rfl,hb2⟩;go_wp2_with fail;go_ret;exact ⟨rfl,ai (hBw1.trans (hbw.mono hBw1.size)) hb2⟩
   ·have hke:k=n':=by omega
    have Xl:Hid (X=out):=show _=_ by rw [Qm.out,List.drop_of_length_le (by have:=XI.out;omega),List.take_nil];show out ++ []=out;rw [List.append_nil]
    have hq:=Eu X out;rw [decide_eq_true Xl.out] at hq;have KP:Hid (Calls Tryz.prog 7 #[.string S] wr fun e w''=>e=.returned (.string (B8 X))/\Below wr.heap.size wr w''):=HPY.out wr JK.out.iF.1;generalize B8 X=SX at KP hq;generalize B8 out=SO at hq ⊢;go_wp2_with fail;refine KP.out.mono ?_;rintro e w2 ⟨rfl,hb2⟩;go_wp2_with fail;go_ret;exact ⟨rfl,ai (hBw1.trans (hbw.mono hBw1.size)) hb2⟩
 ·rw [hmm] at XI Xp;clear hmm hmn;have hq:(B8 last).toList.isEmpty=false:=by
   rw [dX];cases last with
   | nil=>exact absurd rfl hz
   | cons x r=>rfl
  generalize hS0:B8 last=S0 at ck hq;clear hS0 hz;go_wp2_with fail;generalize w1.alloc (.cells #[.slice none 0 0,.slice none 0 0,.string ⟨#[]⟩,.bool false] 30)=V at *;go_loopw [5,6] (fun sv iv wr=>∃(k:Nat) (g:Num.Pl) (out:List UInt8),k<=n/\k<=60/\iv=.int .i64 k/\sv=.string (B8 out)/\g.text.length<=1100000*k/\out.length<=100001*k/\X=out ++ Num.gX Num.bC g ((ls.drop k).take (60 - k))/\Cg w1 w1.heap.size g wr) (fun _ iv _=>60 - (intOf iv).toNat)
  case atStart=>exact ⟨0,⟨[],none⟩,[],Nat.zero_le _,by omega,rfl,rfl,by simp,by simp,VP.out,HF.out⟩
  case round =>
   obtain ⟨k,g,out,hk,Zw,rfl,rfl,hgt,hout,hx,hls⟩:=hrel;have JK:Hid (Cg w1 w1.heap.size g wr):=hls;have Qm:Hid (X=out ++ Num.gX Num.bC g ((ls.drop k).take (60 - k))):=hx;have uX:Hid (g.text.length<=1100000*k/\out.length<=100001*k):=⟨hgt,hout⟩;clear HF hls hx hgt hout;have hbw:=JK.out.iF.2.1;by_cases hlt:k < n
   ·by_cases h60:k < 60
    ·obtain ⟨hc,hlen⟩:=Xp.out k hlt;have ck:wr.cell? ⟨gb,k,none⟩=some (.string (B8 (ls[k]?.getD []))):=by rw [hbw.cell (p:=⟨gb,k,none⟩) hgl];exact hc
     have hgr:gb < wr.heap.size:=by have:=hbw.size;omega
     have HST:Hid (∀g',Num.gX Num.bC g' ((ls.drop k).take (60 - k))=(Num.aS Num.bC g' (ls[k]?.getD [])).2 ++ 10 :: Num.gX Num.bC (Num.aS Num.bC g' (ls[k]?.getD [])).1 ((ls.drop (k+1)).take (60 - (k+1)))):=by
      intro g';have hkl:k < ls.length:=by have:=XI.out;omega
      rw [List.drop_eq_getElem_cons hkl,show 60 - k=(60 - (k+1))+1 by omega,List.take_succ_cons,List.getElem?_eq_getElem hkl];rfl
     generalize ls[k]?.getD []=line at ck hlen HST;have ng:Hid ((Num.aS Num.bC g line).2.length<=100000/\(Num.aS Num.bC g line).1.text.length<=g.text.length+line.length/\∀q,(Num.aS Num.bC g line).1.prog=some q->q.may=true):=Num.wy g line (by have:=uX.out;omega) JK.out.iF.2.2;have KL:Hid (Calls Tryz.prog 6 #[.pointer (some ⟨w1.heap.size,0,none⟩),.string (B8 line)] wr (nW w1 w1.heap.size wr (Num.aS Num.bC g line).1 (Num.aS Num.bC g line).2)):=Ci w1 w1.heap.size g line wr JK.out (by omega) (by have:=uX.out;omega);have GY:Hid (X=out ++ (Num.aS Num.bC g line).2 ++ [10] ++ Num.gX Num.bC (Num.aS Num.bC g line).1 ((ls.drop (k+1)).take (60 - (k+1)))):=show _=_ by rw [Qm.out,HST.out g];simp
     have J4:Hid (line.length<=1100000):=hlen;clear hc hlen HST Qm;generalize (Num.aS Num.bC g line).1=g' at *;generalize (Num.aS Num.bC g line).2=t at *;have E1:B8 out ++ B8 t=B8 (out ++ t):=bL _ _;have E2:B8 (out ++ t) ++ ⟨#[10]⟩=B8 (out ++ t ++ [10]):=show B8 (out ++ t) ++ B8 [10]=_ from bL _ _;have z1:(B8 out).size<=100000000:=by rw [aQ];have:=uX.out;omega
     have z2:(B8 t).size<=100000:=by rw [aQ];exact ng.out.1
     have z3:(B8 (out ++ t)).size<=200000000:=by rw [aQ,List.length_append];have:=uX.out;have:=ng.out.1;omega
     have Xi:Hid ((out ++ t ++ [10]).length<=100001*(k+1)):=by show _<=_;rw [List.length_append,List.length_append,List.length_singleton];have:=ng.out.1;have:=uX.out;omega
     have HGT:Hid (g'.text.length<=1100000*(k+1)):=by show _<=_;have:=ng.out.2.1;have:=uX.out;have:=J4.out;omega
     generalize hO3:out ++ t ++ [10]=Xj at E2 Xi GY;generalize hO2:B8 (out ++ t)=S2 at E1 E2 z3;generalize hO1:B8 out=S1 at E1 z1 ⊢;generalize hLS:B8 line=SL at ck KL;generalize ZB:B8 t=ST at E1 z2;have Y5:Hid (B8 t=ST):=ZB;clear hO3 hO2 hO1 hLS ZB;have i1:(k:Int) < 60:=by omega
     go_wp2_with fail;refine KL.out.mono ?_;rintro e w2 ⟨rfl,Rx,hk2⟩;have Xk:Hid (Cg w1 w1.heap.size g' w2):=Rx;rw [Y5.out];clear Rx hk2;go_wp2_with fail;go_roundw
     case rel=>exact ⟨k+1,g',Xj,by omega,by omega,by go_num,rfl,HGT.out,Xi.out,GY.out,Xk.out⟩
     case measure=>simp [intOf];omega
    ·have hke:k=60:=by omega
     subst hke;have Xl:Hid (X=out):=show _=_ by rw [Qm.out];show out ++ []=out;rw [List.append_nil]
     have hq:=Eu X out;rw [decide_eq_true Xl.out] at hq;have KP:Hid (Calls Tryz.prog 7 #[.string S] wr fun e w''=>e=.returned (.string (B8 X))/\Below wr.heap.size wr w''):=HPY.out wr JK.out.iF.1;generalize B8 X=SX at KP hq;generalize B8 out=SO at hq ⊢;go_wp2_with fail;refine KP.out.mono ?_;rintro e w2 ⟨rfl,hb2⟩;go_wp2_with fail;go_ret;exact ⟨rfl,ai (hBw1.trans (hbw.mono hBw1.size)) hb2⟩
   ·have hke:k=n:=by omega
    have Xl:Hid (X=out):=show _=_ by rw [Qm.out,List.drop_of_length_le (by have:=XI.out;omega),List.take_nil];show out ++ []=out;rw [List.append_nil]
    have hq:=Eu X out;rw [decide_eq_true Xl.out] at hq;have KP:Hid (Calls Tryz.prog 7 #[.string S] wr fun e w''=>e=.returned (.string (B8 X))/\Below wr.heap.size wr w''):=HPY.out wr JK.out.iF.1;generalize B8 X=SX at KP hq;generalize B8 out=SO at hq ⊢;go_wp2_with fail;refine KP.out.mono ?_;rintro e w2 ⟨rfl,hb2⟩;go_wp2_with fail;go_ret;exact ⟨rfl,ai (hBw1.trans (hbw.mono hBw1.size)) hb2⟩
end Go.Proofs.YtipcbhodlgoflabGreatDoor
