/- What a region that draws its order, with calls and with a store of a result of two cells, keeps. -/
import Derived.Test.YtipcbhodlgoflabGreatDoorBaseA
import Derived.Deep.RegionHeld3
import Derived.Lib.SmallJoins
set_option maxHeartbeats 800000
namespace Go.Proofs.YtipcbhodlgoflabGreatDoor
open Go.RowKit
structure Held (B:Nat) (V:World) (r:Nat) (w:World) : Prop where
 dS:Below B V w
 two:∃a b t,w.heap[r]? = some (.cells #[a,b] t (0,0))
theorem fM {w:World} {k:Nat} (hk:k=w.heap.size) (o:Obj) : (w.alloc o).heap[k]? = some o:=by subst hk;show (w.heap.push o)[w.heap.size]? = some o;simp
theorem carry {w w':World} (k:Below w.heap.size w w') {p:Addr} {v:Value} (h:w.cell? p=some v) : w'.cell? p=some v:=by rw [k.cell (World.block_lt_of_cell? w p h)];exact h
theorem iG {w w':World} (k:Below w.heap.size w w') {p:Addr} {v:Value} (h:w.cell? p=some v) (hf:w.frozen? p=false) : w'.frozen? p=false:=by rw [k.frozen (World.block_lt_of_cell? w p h)];exact hf
theorem fO {w w':World} {a b:Value} {t:TypeId} (k:Below (w.alloc (.cells #[a,b] t)).heap.size (w.alloc (.cells #[a,b] t)) w') :
  (w'.cell? ⟨w.heap.size,0,none⟩=some a/\w'.cell? ⟨w.heap.size,1,none⟩=some b)/\(w'.frozen? ⟨w.heap.size,0,none⟩=false/\w'.frozen? ⟨w.heap.size,1,none⟩=false) :=
 ⟨⟨carry k (aU rfl a b t).1,carry k (aU rfl a b t).2⟩,iG k (aU rfl a b t).1 (by go_simp),iG k (aU rfl a b t).2 (by go_simp)⟩
theorem lQ {w w':World} {a b:Value} {t:TypeId} (k:Below (w.alloc (.cells #[a,b] t)).drew.heap.size (w.alloc (.cells #[a,b] t)).drew w') :
  (w'.cell? ⟨w.heap.size,0,none⟩=some a/\w'.cell? ⟨w.heap.size,1,none⟩=some b)/\(w'.frozen? ⟨w.heap.size,0,none⟩=false/\w'.frozen? ⟨w.heap.size,1,none⟩=false) :=
 fO (((Below.refl _ _).drew).trans k)
theorem uY {w w':World} (k:Below w.heap.size w w') {p q:Addr} {a b:Value} (h:(w.cell? p=some a/\w.cell? q=some b)/\(w.frozen? p=false/\w.frozen? q=false)) :
  (w'.cell? p=some a/\w'.cell? q=some b)/\(w'.frozen? p=false/\w'.frozen? q=false) :=
 ⟨⟨carry k h.1.1,carry k h.1.2⟩,iG k h.1.1 h.2.1,iG k h.1.2 h.2.2⟩
theorem Held.drew {B:Nat} {V:World} {r:Nat} {w:World} (h:Held B V r w) : Held B V r w.drew:=⟨h.dS.drew,h.two⟩
theorem Held.step {B:Nat} {V:World} {r:Nat} {w w':World} (h:Held B V r w) (k:Below w.heap.size w w') (hB:B<=w.heap.size) : Held B V r w':=by
 refine ⟨h.dS.trans (k.mono hB),?_⟩;obtain ⟨a,b,t,e⟩:=h.two;have hr:r < w.heap.size:=by
  rcases Nat.lt_or_ge r w.heap.size with h|h
  ·exact h
  ·rw [Array.getElem?_eq_none h] at e;cases e
 exact ⟨a,b,t,by rw [k.block r hr];exact e⟩
theorem Held.set {B:Nat} {V:World} {r:Nat} {w:World} (h:Held B V r w) (hB:B<=r) (i:Nat) (u:Value) (hi:i < 2) : Held B V r (w.setCell ⟨r,i,none⟩ u):=by
 refine ⟨h.dS.setCell hB _,?_⟩;obtain ⟨a,b,t,e⟩:=h.two
 match i,hi with
 | 0,_=>exact ⟨u,b,t,by simpa using Joins.block_setCell (i:=0) e u⟩
 | 1,_=>exact ⟨a,u,t,by simpa using Joins.block_setCell (i:=1) e u⟩
theorem Held.cells {B:Nat} {V:World} {r:Nat} : ∃F G:World->Value,(∀w,Held B V r w->w.cell? ⟨r,0,none⟩=some (F w))/\(∀w,Held B V r w->w.cell? ⟨r,1,none⟩=some (G w))/\
  (∀w,Held B V r w->w.frozen? ⟨r,0,none⟩=false)/\(∀w,Held B V r w->w.frozen? ⟨r,1,none⟩=false):=by
 refine ⟨fun w=>(w.cell? ⟨r,0,none⟩).getD undef,fun w=>(w.cell? ⟨r,1,none⟩).getD undef,?_,?_,?_,?_⟩
 ·intro w h;obtain ⟨a,b,t,e⟩:=h.two;show w.cell? ⟨r,0,none⟩=some ((w.cell? ⟨r,0,none⟩).getD undef);rw [Joins.cell_of_block e];simp
 ·intro w h;obtain ⟨a,b,t,e⟩:=h.two;show w.cell? ⟨r,1,none⟩=some ((w.cell? ⟨r,1,none⟩).getD undef);rw [Joins.cell_of_block e];simp
 ·intro w h;obtain ⟨a,b,t,e⟩:=h.two;exact Joins.unfrozen_of_block e 0
 ·intro w h;obtain ⟨a,b,t,e⟩:=h.two;exact Joins.unfrozen_of_block e 1
open Go.RowKit
theorem ag {v:World} {b i j:Nat} {u:Value} (h:i≠j) : (v.setCell ⟨b,j,none⟩ u).cell? ⟨b,i,none⟩=v.cell? ⟨b,i,none⟩:=World.cell?_setCell_other _ _ _ _ (fun e=>h (by injection e with _ e2;exact e2.symm))
theorem aN {v:World} {b j:Nat} {u a:Value} (h:v.cell? ⟨b,j,none⟩=some a) : (v.setCell ⟨b,j,none⟩ u).cell? ⟨b,j,none⟩=some u:=World.cell?_setCell_same' _ _ _ (by rw [h];rfl)
open Go.RowKit
theorem xR {w w1:World} {a b c d:Value} {t u:TypeId} (hb:Below ((w.alloc (.cells #[a,b] t)).alloc (.cells #[c,d] u)).heap.size ((w.alloc (.cells #[a,b] t)).alloc (.cells #[c,d] u)) w1) :
  (w1.cell? ⟨w.heap.size,0,none⟩=some a/\w1.cell? ⟨w.heap.size,1,none⟩=some b)/\(w1.cell? ⟨w.heap.size+1,0,none⟩=some c/\w1.cell? ⟨w.heap.size+1,1,none⟩=some d)/\w.heap.size+1 < w1.heap.size/\Below w.heap.size w w1:=by
 refine ⟨⟨?_,?_⟩,⟨?_,?_⟩,?_,?_⟩
 ·rw [hb.cell (by simp;omega)];go_simp
 ·rw [hb.cell (by simp;omega)];go_simp
 ·rw [hb.cell (by simp)];go_simp
 ·rw [hb.cell (by simp)];go_simp
 ·have:=hb.size;simp at this;omega
 ·exact (((Below.refl _ _).alloc (Nat.le_refl _) _).alloc (by simp) _).trans (hb.mono (by simp;omega))
theorem qN (w:World) (a b c d:Value) (t u:TypeId) : Below ((w.alloc (.cells #[a,b] t)).alloc (.cells #[c,d] u)).heap.size ((w.alloc (.cells #[a,b] t)).alloc (.cells #[c,d] u)) ((w.alloc (.cells #[a,b] t)).alloc (.cells #[c,d] u)):=Below.refl _ _
theorem ai {V w1 w2:World} (h:Below V.heap.size V w1) (k:Below w1.heap.size w1 w2) : Below V.heap.size V w2:=h.trans (k.mono h.size)
theorem kr (d:Int) (a:Option Addr) (len cap:Nat) (l:List Int) (w:World) (hi:Ints w a len l) (hlen:len<=9223372036854775807) :
  Calls Tryz.prog 146 #[.agg #[.slice a len cap,.int .i64 d]] w fun e w'=>e=.returned (.bool (Num.dn d l))/\Below w.heap.size w w':=by
 have HI:Hid (Ints w a len l):=hi;have HL:Hid (len=l.length):=hi.1;clear hi;by_cases h:(len:Int)<=8
 ·have HF:Hid (Num.dn d l=Num.bZ d l):=by
   have:l.length<=8:=by have:=HL.out;omega
   show Num.dn d l=_;unfold Num.dn;simp [this]
  go_enter Tryz.func146,Tryz.ntmps146;go_wp2_with fail;refine (tJ d _ _ _ l _ (Ints.below HI.out (af _ _) (Nat.le_refl _)) (by omega)).mono ?_;rintro e w' ⟨rfl,hb⟩;go_wp2_with fail;go_ret;exact ⟨aK HF.out.symm,dN hb⟩
 ·have HF:Hid (Num.dn d l=false):=by
   have:¬ l.length<=8:=by have:=HL.out;omega
   show Num.dn d l=_;unfold Num.dn;simp [this]
  have h':decide ((len:Int)<=8)=false:=by simpa using h
  go_enter Tryz.func146,Tryz.ntmps146;go_wp2_with fail;go_ret;exact ⟨aK HF.out.symm,af _ _⟩
theorem Ei (ca:Option Addr) (cl cc:Nat) (ra:Option Addr) (rl rc:Nat) (p:Num.Lp) (w:World) (hc:Ints w ca cl p.costs) (hcl:cl<=9223372036854775807) (hr:ay w ra rl p.rows) (hrl:rl<=9223372036854775807)
  (xa:Option Addr) (xl xc:Nat) (x:List Int) (d:Int) (hx:Ints w xa xl x) (hxl:xl<=9223372036854775807) :
  Calls Tryz.prog 121 #[.agg #[.slice ca cl cc,.slice ra rl rc],.agg #[.slice xa xl xc,.int .i64 d]] w fun e w'=>e=.returned (.bool (p.fits x d))/\Below w.heap.size w w':=by
 have HC:Hid (Ints w ca cl p.costs):=hc;have HR:Hid (ay w ra rl p.rows):=hr;have HX:Hid (Ints w xa xl x):=hx;have kZ:Hid (cl=p.costs.length):=hc.1;have xA:Hid (xl=x.length):=hx.1;clear hc hr hx;have HV:=xR (qN w (.slice ca cl cc) (.slice ra rl rc) (.slice xa xl xc) (.int .i64 d) 28 64);have HB:Hid _:=HV.2.2.2;clear HV;cases h1:p.may with
 | false =>
  have HF:Hid (p.fits x d=false):=by show p.fits x d=_;unfold Num.Lp.fits;rw [h1];rfl
  go_enter Tryz.func121,Tryz.ntmps121;go_wp2_with fail;refine (fA _ _ _ _ _ _ p _ (Ints.below HC.out HB.out (Nat.le_refl _)) hcl (ay.below HR.out HB.out (Nat.le_refl _)) hrl).mono ?_;rintro e w1 ⟨rfl,hb1⟩;rw [h1];go_wp2_with fail;go_ret;exact ⟨aK HF.out.symm,(xR hb1).2.2.2⟩
 | true =>
  by_cases h2:xl=cl
  ·have HF:Hid (p.fits x d=Num.dn d x):=by
    have:x.length=p.costs.length:=by have:=kZ.out;have:=xA.out;omega
    show p.fits x d=_;unfold Num.Lp.fits;rw [h1,this];simp
   subst h2;go_enter Tryz.func121,Tryz.ntmps121;go_wp2_with fail;refine (fA _ _ _ _ _ _ p _ (Ints.below HC.out HB.out (Nat.le_refl _)) hcl (ay.below HR.out HB.out (Nat.le_refl _)) hrl).mono ?_;rintro e w1 ⟨rfl,hb1⟩;rw [h1];obtain ⟨⟨c0,c1⟩,⟨c2,c3⟩,hz,hB⟩:=xR hb1;go_wp2_with fail;refine (kr d _ _ _ x _ (Ints.below HX.out hB (Nat.le_refl _)) hxl).mono ?_;rintro e w2 ⟨rfl,hb2⟩;go_wp2_with fail;go_ret;exact ⟨aK HF.out.symm,ai hB hb2⟩
  ·have HF:Hid (p.fits x d=false):=by
    have:(x.length == p.costs.length)=false:=by have:=kZ.out;have:=xA.out;simp;omega
    show p.fits x d=_;unfold Num.Lp.fits;rw [h1,this];simp
   have h2':((xl:Int) == (cl:Int))=false:=by simp;omega
   go_enter Tryz.func121,Tryz.ntmps121;go_wp2_with fail;refine (fA _ _ _ _ _ _ p _ (Ints.below HC.out HB.out (Nat.le_refl _)) hcl (ay.below HR.out HB.out (Nat.le_refl _)) hrl).mono ?_;rintro e w1 ⟨rfl,hb1⟩;rw [h1];obtain ⟨⟨c0,c1⟩,⟨c2,c3⟩,hz,hB⟩:=xR hb1;go_wp2_with fail;go_ret;exact ⟨aK HF.out.symm,hB⟩
open Go.RowKit
theorem fE {P:Program} {f:FuncId} {args:Array Value} {w:World} {v:Value} (h:Calls P f args w fun e w'=>e=.returned v/\∃n,w'=w.drewN n) : Calls P f args w fun e w'=>e=.returned v/\Below w.heap.size w w' :=
 h.mono fun _ w' ⟨he,n,hn⟩=>⟨he,by rw [hn];exact iZ (Below.refl _ _) n⟩
theorem XQ {w w1:World} {a b c d e f:Value} {t u v:TypeId} (hb:Below (((w.alloc (.cells #[a,b] t)).alloc (.cells #[c,d] u)).alloc (.cells #[e,f] v)).heap.size (((w.alloc (.cells #[a,b] t)).alloc (.cells #[c,d] u)).alloc (.cells #[e,f] v)) w1) :
  (w1.cell? ⟨w.heap.size,0,none⟩=some a/\w1.cell? ⟨w.heap.size,1,none⟩=some b)/\(w1.cell? ⟨w.heap.size+1,0,none⟩=some c/\w1.cell? ⟨w.heap.size+1,1,none⟩=some d)/\
   (w1.cell? ⟨w.heap.size+1+1,0,none⟩=some e/\w1.cell? ⟨w.heap.size+1+1,1,none⟩=some f)/\(w1.frozen? ⟨w.heap.size+1+1,0,none⟩=false/\w1.frozen? ⟨w.heap.size+1+1,1,none⟩=false)/\w.heap.size+2 < w1.heap.size/\Below w.heap.size w w1:=by
 refine ⟨⟨?_,?_⟩,⟨?_,?_⟩,⟨?_,?_⟩,⟨?_,?_⟩,?_,?_⟩
 ·rw [hb.cell (by simp;omega)];go_simp
 ·rw [hb.cell (by simp;omega)];go_simp
 ·rw [hb.cell (by simp)];go_simp
 ·rw [hb.cell (by simp)];go_simp
 ·rw [hb.cell (by simp)];go_simp
 ·rw [hb.cell (by simp)];go_simp
 ·rw [hb.frozen (by simp)];go_simp
 ·rw [hb.frozen (by simp)];go_simp
 ·have:=hb.size;simp at this;omega
 ·exact ((((Below.refl _ _).alloc (Nat.le_refl _) _).alloc (by simp) _).alloc (by simp;omega) _).trans (hb.mono (by simp;omega))
def Num.worth (p:Num.Lp) (x:List Int) (d:Int) : Int×Int×Int:=if p.fits x d=true then Num.mk (Num.dotN p.costs x x.length) d else (0,0,2)
theorem LH (ca:Option Addr) (cl cc:Nat) (ra:Option Addr) (rl rc:Nat) (p:Num.Lp) (w:World) (hc:Ints w ca cl p.costs) (hcl:cl<=9223372036854775807) (hr:ay w ra rl p.rows) (hrl:rl<=9223372036854775807)
  (xa:Option Addr) (xl xc:Nat) (x:List Int) (d:Int) (hx:Ints w xa xl x) (hxl:xl<=9223372036854775807) (u v z:Int) (hv:Num.worth p x d=(u,v,z)) :
  Calls Tryz.prog 89 #[.agg #[.slice ca cl cc,.slice ra rl rc],.agg #[.slice xa xl xc,.int .i64 d]] w fun e w'=>e=.returned (.tuple #[.agg #[.int .i64 u,.int .i64 v],.int .i64 z])/\Below w.heap.size w w':=by
 have HC:Hid (Ints w ca cl p.costs):=hc;have HR:Hid (ay w ra rl p.rows):=hr;have HX:Hid (Ints w xa xl x):=hx;have kZ:Hid (cl=p.costs.length):=hc.1;have xA:Hid (xl=x.length):=hx.1;clear hc hr hx;have HV:=xR (qN w (.slice ca cl cc) (.slice ra rl rc) (.slice xa xl xc) (.int .i64 d) 28 64);have HB:Hid _:=HV.2.2.2;clear HV;cases h1:p.fits x d with
 | false =>unfold Num.worth at hv;rw [if_neg (by simp [h1])] at hv;simp only [Prod.mk.injEq] at hv;obtain ⟨rfl,rfl,rfl⟩:=hv;go_enter Tryz.func89,Tryz.ntmps89;go_wp2_with fail;refine (Ei _ _ _ _ _ _ p _ (Ints.below HC.out (ai HB.out (af _ _)) (Nat.le_refl _)) hcl (ay.below HR.out (ai HB.out (af _ _)) (Nat.le_refl _)) hrl _ _ _ x d (Ints.below HX.out (ai HB.out (af _ _)) (Nat.le_refl _)) hxl).mono ?_;rintro e w1 ⟨rfl,hb1⟩;rw [h1];obtain ⟨⟨c0,c1⟩,⟨c2,c3⟩,⟨c4,c5⟩,⟨f0,f1⟩,hz,hB⟩:=XQ hb1;go_wp2_with fail;exact bodyPost_ret (v:=.tuple #[.agg #[.int .i64 0,.int .i64 0],.int .i64 2]) (by simp [results,Tryz.results89,go_sem,c4,c5]) rfl ⟨rfl,(hB.setCell (by simp;omega) _).setCell (by simp;omega) _⟩
 | true =>
  unfold Num.worth at hv;rw [if_pos h1] at hv;obtain ⟨hm,Ot,hd,hw⟩:=p.JR x d h1;have hc4:=(p.aj hm).1;have HWC:Hid (∀j:Nat,-400<=p.costs[j]?.getD 0/\p.costs[j]?.getD 0<=400):=Num.aJ _ _ (p.aj hm).2.1 (by omega);have HW:Hid (∀j:Nat,-1073741824<=x[j]?.getD 0/\x[j]?.getD 0<=1073741824):=Num.aJ _ _ hw (by omega);have hxe:xl=cl:=by have:=kZ.out;have:=xA.out;omega
  have hc5:cl<=4:=by have:=kZ.out;omega
  subst hxe;have HE:Hid (Num.mk (Num.dotN p.costs x xl) d=(u,v,z)):=by have:=xA.out;rw [<-this] at hv;exact hv
  clear hm hw hc4 Ot hv;go_enter Tryz.func89,Tryz.ntmps89;go_wp2_with fail;refine (Ei _ _ _ _ _ _ p _ (Ints.below HC.out (ai HB.out (af _ _)) (Nat.le_refl _)) hcl (ay.below HR.out (ai HB.out (af _ _)) (Nat.le_refl _)) hrl _ _ _ x d (Ints.below HX.out (ai HB.out (af _ _)) (Nat.le_refl _)) hxl).mono ?_;rintro e w1 ⟨rfl,hb1⟩;rw [h1];go_wp2_with fail;obtain ⟨⟨c0,c1⟩,⟨c2,c3⟩,_,_,hz,hB⟩:=XQ hb1;have hH:Held (w.heap.size+1+1) w1 (w.heap.size+1+1) w1:=⟨Below.refl _ _,_,_,_,by rw [hb1.block _ (by simp)];exact fM (by simp) _⟩;have HK:Hid (∀w',Held (w.heap.size+1+1) w1 (w.heap.size+1+1) w'->Below w.heap.size w w'/\w.heap.size+1+1<=w'.heap.size):=fun w' h=>⟨hB.trans (h.dS.mono (by omega)),by have:=h.dS.size;omega⟩;have q0:∀w',Held (w.heap.size+1+1) w1 (w.heap.size+1+1) w'->w'.cell? ⟨w.heap.size,0,none⟩=some (.slice ca xl cc):=fun w' h=>by rw [h.dS.cell (by simp;omega)];exact c0
  have q2:∀w',Held (w.heap.size+1+1) w1 (w.heap.size+1+1) w'->w'.cell? ⟨w.heap.size+1,0,none⟩=some (.slice xa xl xc):=fun w' h=>by rw [h.dS.cell (by simp)];exact c2
  have q3:∀w',Held (w.heap.size+1+1) w1 (w.heap.size+1+1) w'->w'.cell? ⟨w.heap.size+1,1,none⟩=some (.int .i64 d):=fun w' h=>by rw [h.dS.cell (by simp)];exact c3
  obtain ⟨F,G,q4,q5,q6,q7⟩:=Held.cells (B:=w.heap.size+1+1) (V:=w1) (r:=w.heap.size+1+1);have KT:Hid (∀w',Held (w.heap.size+1+1) w1 (w.heap.size+1+1) w'->Calls Tryz.prog 99 #[.slice ca xl cc,.slice xa xl xc] w' fun e w''=>e=.returned (.int .i64 (Num.dotN p.costs x xl))/\Held (w.heap.size+1+1) w1 (w.heap.size+1+1) w''):=by intro w' h;obtain ⟨hB,hs⟩:=HK.out w' h;exact (fE (kY ca xa xl cc xl xc p.costs x w' 400 1073741824 (Ints.below HC.out hB (Nat.le_refl _)) (Ints.below HX.out hB (Nat.le_refl _)) rfl (by omega) HWC.out HW.out (by omega))).mono fun _ _ k=>⟨k.1,h.step k.2 hs⟩
  have KM:Hid (∀w',Held (w.heap.size+1+1) w1 (w.heap.size+1+1) w'->Calls Tryz.prog 117 #[.int .i64 (Num.dotN p.costs x xl),.int .i64 d] w' fun e w''=>e=.returned (.tuple #[.agg #[.int .i64 u,.int .i64 v],.int .i64 z])/\Held (w.heap.size+1+1) w1 (w.heap.size+1+1) w''):=by intro w' h;exact (jv _ _ w' _ _ _ HE.out).mono fun _ _ k=>⟨k.1,h.step k.2 (HK.out w' h).2⟩
  clear hb1 c0 c1 c2 c3;go_region_held3 (fun w'=>Held (w.heap.size+1+1) w1 (w.heap.size+1+1) w') (first|assumption|exact Held.drew hH|(refine Held.set (Held.set ?_ ?_ 0 _ ?_) ?_ 1 _ ?_<;>first|assumption|exact Nat.le_refl _|omega))
   (first|(go_at_call 99;refine (KT.out _ ?_).mono ?_;assumption;rintro e w' ⟨rfl,hb⟩)|(go_at_call 117;refine (KM.out _ ?_).mono ?_;assumption;rintro e w' ⟨rfl,hb⟩))
  rename_i hfin;have p4:=q4 _ hb;have p5:=q5 _ hb;clear q0 q2 q3 q4 q5 q6 q7 KT KM;go_wp2_with fail;exact bodyPost_ret (v:=.tuple #[.agg #[.int .i64 u,.int .i64 v],.int .i64 z]) (by simp [results,Tryz.results89,go_sem,p4,p5]) rfl ⟨rfl,(HK.out _ hfin).1⟩
end Go.Proofs.YtipcbhodlgoflabGreatDoor
