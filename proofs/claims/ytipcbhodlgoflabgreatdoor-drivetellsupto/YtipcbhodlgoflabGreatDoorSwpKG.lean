/- What frac.Less draws; what the order of pieces is; slices.SortFunc. -/
import Derived.Test.YtipcbhodlgoflabGreatDoorBaseA
import Derived.Sort.Grow
import Derived.Test.YtipcbhodlgoflabGreatDoorPlnB
import Derived.Test.YtipcbhodlgoflabGreatDoorBxs
import Derived.Test.YtipcbhodlgoflabGreatDoorSpnAB
set_option maxHeartbeats 1600000
namespace Go.Proofs.YtipcbhodlgoflabGreatDoor
open Go.RowKit
theorem Gn (d:Int) (a:Option Addr) (len cap:Nat) (l:List Int) (w:World) (hi:Ints w a len l) (hlen:len<=9223372036854775807) (hm:Num.bZ d l=true) :
  Calls Tryz.prog 169 #[.int .i64 d,.slice a len cap] w fun e w'=>e=.returned (.bool true)/\Below w.heap.size w w'/\w.drawn<=w'.drawn:=by
 obtain ⟨h0,hd2,h2',h3⟩:=Num.fw d l hm;have h1':Num.aB 1073741824 [d]=true:=by rw [Num.aW];simp;omega
 have hl:=Num.aJ _ _ h2' (by omega);have Cr:Hid _:=hl;have HG:Hid (Num.gl d l=1):=h3;clear hl h3 hm;go_enter Tryz.func169,Tryz.ntmps169;go_wp2_with fail;refine (bq _ _ _ _ [d] _ (Ints.newAt (by simp) _ _) (by omega) (by omega) (by omega)).mono ?_;rintro e w' ⟨rfl,rfl⟩;go_wp2_with fail;refine (bq _ _ _ _ l _ (hi.below (B:=w.heap.size) ((Below.refl _ _).alloc (Nat.le_refl _) _) (Nat.le_refl _)) (by omega) (by omega) (by omega)).mono ?_;rintro e w' ⟨rfl,rfl⟩;go_wp2_with fail;refine (mJ d _ _ _ l _ (hi.below (B:=w.heap.size) ((Below.refl _ _).alloc (Nat.le_refl _) _) (Nat.le_refl _)) (by omega) (by omega) (fun j=>by have:=Cr.out j;omega)).mono ?_;rintro e w' ⟨rfl,n,rfl⟩;rw [HG.out];go_wp2_with fail;go_ret;exact ⟨rfl,iZ ((Below.refl _ _).alloc (Nat.le_refl _) _) _,Nat.le_add_right _ _⟩
theorem QK (n d:Int) (w:World) (hm:Num.bZ d [n]=true) :
  Calls Tryz.prog 140 #[.agg #[.int .i64 n,.int .i64 d]] w fun e w'=>e=.returned (.bool true)/\Below w.heap.size w w'/\w.drawn<=w'.drawn:=by
 have HM:Hid _:=hm;clear hm;go_enter Tryz.func140,Tryz.ntmps140;go_wp2_with fail;refine (Gn d _ _ _ [n] _ (Ints.newAt (by simp) _ _) (by omega) HM.out).mono ?_;rintro e w' ⟨rfl,hb,hdr⟩;go_wp2_with fail;go_ret;exact ⟨rfl,mY hb,hdr⟩
theorem Lf (an ad bn bd:Int) (r:Bool) (w:World) (ha:Num.bZ ad [an]=true) (hb:Num.bZ bd [bn]=true) (hr:decide (an*bd < bn*ad)=r) :
  Calls Tryz.prog 109 #[.agg #[.int .i64 an,.int .i64 ad],.agg #[.int .i64 bn,.int .i64 bd]] w fun e w'=>e=.returned (.bool r)/\Below w.heap.size w w'/\w.drawn<=w'.drawn:=by
 have A:=Num.fw _ _ ha;have B:=Num.fw _ _ hb;rw [Num.aW] at A B;simp only [Bool.and_eq_true,decide_eq_true_eq] at A B;have b1:=Num.uU an bd 1073741824 (by omega) (by omega) (by omega);have b2:=Num.uU bn ad 1073741824 (by omega) (by omega) (by omega);simp only [show (1073741824:Int)*1073741824=1152921504606846976 from rfl] at b1 b2;have HA:Hid _:=ha;have HB:Hid _:=hb;generalize hp:an*bd=p at *;generalize hq:bn*ad=q at *;have HP:Hid _:=hp;have HQ:Hid _:=hq;have HR:Hid (decide (p < q)=r):=hr;clear A B ha hb hr;go_enter Tryz.func109,Tryz.ntmps109;go_wp2_with fail;refine (QK _ _ _ HA.out).mono ?_;rintro e w1 ⟨rfl,hb1,hd1⟩;have XL:w.drawn<=w1.drawn:=hd1;have c0:w1.cell? ⟨w.heap.size,0,none⟩=some (.int .i64 an):=by rw [hb1.cell (by simp;omega)];go_simp
 have c1:w1.cell? ⟨w.heap.size,1,none⟩=some (.int .i64 ad):=by rw [hb1.cell (by simp;omega)];go_simp
 have c2:w1.cell? ⟨w.heap.size+1,0,none⟩=some (.int .i64 bn):=by rw [hb1.cell (by simp)];go_simp
 have c3:w1.cell? ⟨w.heap.size+1,1,none⟩=some (.int .i64 bd):=by rw [hb1.cell (by simp)];go_simp
 have hz:w.heap.size+1 < w1.heap.size:=by have:=hb1.size;simp at this;omega
 go_wp2_with fail;refine (QK _ _ _ HB.out).mono ?_;rintro e w2 ⟨rfl,hb2,hd2⟩;have d0:w2.cell? ⟨w.heap.size,0,none⟩=some (.int .i64 an):=by rw [hb2.cell (by show _ < _;simp;omega)];exact c0
 have d1:w2.cell? ⟨w.heap.size,1,none⟩=some (.int .i64 ad):=by rw [hb2.cell (by show _ < _;simp;omega)];exact c1
 have d2:w2.cell? ⟨w.heap.size+1,0,none⟩=some (.int .i64 bn):=by rw [hb2.cell (by show _ < _;simp;omega)];exact c2
 have d3:w2.cell? ⟨w.heap.size+1,1,none⟩=some (.int .i64 bd):=by rw [hb2.cell (by show _ < _;simp;omega)];exact c3
 go_wp2_with fail;go_ret;refine ⟨aK HR.out,(mY hb1).trans (hb2.mono (by omega)),Nat.le_trans XL hd2⟩
theorem Ue {w w':World} (hb:Below w.heap.size w w') (hd:w.drawn<=w'.drawn) : ∃q os,w'=Go.Sort.grow (w.drewN q) os:=by
 refine ⟨w'.drawn - w.drawn,w'.heap.extract w.heap.size w'.heap.size,?_⟩;obtain ⟨h1,t1,r1,o1,p1⟩:=w;obtain ⟨h2,t2,r2,o2,p2⟩:=w';have e1:=hb.os;have e2:=hb.tape;have e3:=hb.output;have e4:=hb.size;have e5:=hb.block;simp only at e1 e2 e3 e4 e5 hd;subst e1 e2 e3;have hh:h2=h1 ++ h2.extract h1.size h2.size:=by
  apply Array.ext_getElem?;intro i;by_cases hi:i < h1.size
  ·rw [Array.getElem?_append_left hi];exact e5 i hi
  ·rw [Array.getElem?_append_right (by omega)];by_cases hj:i < h2.size
   ·rw [Array.getElem?_extract];simp only [Nat.min_self];rw [if_pos (by omega)];congr 1;omega
   ·rw [Array.getElem?_eq_none (by omega),Array.getElem?_eq_none (by simp;omega)]
 unfold Go.Sort.grow World.drewN;simp only [World.mk.injEq,true_and,and_true];exact ⟨hh,by omega⟩
open Go.RowKit
def Ae (x:Num.Pc) : List Value:=[.bool x.f.o,.int .i64 x.f.n,.int .i64 x.f.d,.bool x.t.o,.int .i64 x.t.n,.int .i64 x.t.d,.int .i64 x.bn,.int .i64 x.bd,.int .i64 x.sn,.int .i64 x.sd]
def Num.Ni (x y:Num.Pc) : Int:=if Num.iQ x y then -1 else if Num.iQ y x then 1 else 0
theorem QL (x y:Num.Pc) (hx:Num.bZ x.sd [x.sn]=true) (hy:Num.bZ y.sd [y.sn]=true) (W:World) :
  Calls Tryz.prog 108 #[.agg (Ae x).toArray,.agg (Ae y).toArray] W fun e w'=>e=.returned (.int .i64 (Num.Ni x y))/\Below W.heap.size W w'/\W.drawn<=w'.drawn:=by
 obtain ⟨⟨fo,fn,fd⟩,⟨to,tn,td⟩,bn,bd,sn,sd⟩:=x;obtain ⟨⟨Vb,fn',Vd⟩,⟨Ve,Vf,Vg⟩,Vh,RO,Lg,Lh⟩:=y;dsimp only at hx hy;obtain ⟨r1,hr1⟩ : ∃r,decide (sn*Lh < Lg*sd)=r:=⟨_,rfl⟩;obtain ⟨r2,hr2⟩ : ∃r,decide (Lg*sd < sn*Lh)=r:=⟨_,rfl⟩;have K1:Hid (∀w,Calls Tryz.prog 109 #[.agg #[.int .i64 sn,.int .i64 sd],.agg #[.int .i64 Lg,.int .i64 Lh]] w fun e w'=>e=.returned (.bool r1)/\Below w.heap.size w w'/\w.drawn<=w'.drawn):=fun w=>Lf sn sd Lg Lh r1 w hx hy hr1;have K2:Hid (∀w,Calls Tryz.prog 109 #[.agg #[.int .i64 Lg,.int .i64 Lh],.agg #[.int .i64 sn,.int .i64 sd]] w fun e w'=>e=.returned (.bool r2)/\Below w.heap.size w w'/\w.drawn<=w'.drawn):=fun w=>Lf Lg Lh sn sd r2 w hy hx hr2;have HC:Hid (Num.Ni ⟨⟨fo,fn,fd⟩,⟨to,tn,td⟩,bn,bd,sn,sd⟩ ⟨⟨Vb,fn',Vd⟩,⟨Ve,Vf,Vg⟩,Vh,RO,Lg,Lh⟩=if r1=true then -1 else if r2=true then 1 else 0):=by show _=_;rw [<-hr1,<-hr2];simp [Num.Ni,Num.iQ]
 clear hx hy hr1 hr2;generalize Num.Ni ⟨⟨fo,fn,fd⟩,⟨to,tn,td⟩,bn,bd,sn,sd⟩ ⟨⟨Vb,fn',Vd⟩,⟨Ve,Vf,Vg⟩,Vh,RO,Lg,Lh⟩=res at *;simp only [Ae];have hA:Bx W.heap.size [.bool fo,.int .i64 fn,.int .i64 fd,.bool to,.int .i64 tn,.int .i64 td,.int .i64 bn,.int .i64 bd,.int .i64 sn,.int .i64 sd] ((W.alloc (.cells #[.bool fo,.int .i64 fn,.int .i64 fd,.bool to,.int .i64 tn,.int .i64 td,.int .i64 bn,.int .i64 bd,.int .i64 sn,.int .i64 sd] 90)).alloc (.cells #[.bool Vb,.int .i64 fn',.int .i64 Vd,.bool Ve,.int .i64 Vf,.int .i64 Vg,.int .i64 Vh,.int .i64 RO,.int .i64 Lg,.int .i64 Lh] 90)):=(Bx.new rfl _ _).step (af _ _);have hB:Bx (W.heap.size+1) [.bool Vb,.int .i64 fn',.int .i64 Vd,.bool Ve,.int .i64 Vf,.int .i64 Vg,.int .i64 Vh,.int .i64 RO,.int .i64 Lg,.int .i64 Lh] ((W.alloc (.cells #[.bool fo,.int .i64 fn,.int .i64 fd,.bool to,.int .i64 tn,.int .i64 td,.int .i64 bn,.int .i64 bd,.int .i64 sn,.int .i64 sd] 90)).alloc (.cells #[.bool Vb,.int .i64 fn',.int .i64 Vd,.bool Ve,.int .i64 Vf,.int .i64 Vg,.int .i64 Vh,.int .i64 RO,.int .i64 Lg,.int .i64 Lh] 90)):=Bx.new (by simp) _ _;have hbel:Below W.heap.size W ((W.alloc (.cells #[.bool fo,.int .i64 fn,.int .i64 fd,.bool to,.int .i64 tn,.int .i64 td,.int .i64 bn,.int .i64 bd,.int .i64 sn,.int .i64 sd] 90)).alloc (.cells #[.bool Vb,.int .i64 fn',.int .i64 Vd,.bool Ve,.int .i64 Vf,.int .i64 Vg,.int .i64 Vh,.int .i64 RO,.int .i64 Lg,.int .i64 Lh] 90)):=ai (af _ _) (af _ _);have hdr:W.drawn<=((W.alloc (.cells #[.bool fo,.int .i64 fn,.int .i64 fd,.bool to,.int .i64 tn,.int .i64 td,.int .i64 bn,.int .i64 bd,.int .i64 sn,.int .i64 sd] 90)).alloc (.cells #[.bool Vb,.int .i64 fn',.int .i64 Vd,.bool Ve,.int .i64 Vf,.int .i64 Vg,.int .i64 Vh,.int .i64 RO,.int .i64 Lg,.int .i64 Lh] 90)).drawn:=Nat.le_refl _;generalize hV:(W.alloc (.cells #[.bool fo,.int .i64 fn,.int .i64 fd,.bool to,.int .i64 tn,.int .i64 td,.int .i64 bn,.int .i64 bd,.int .i64 sn,.int .i64 sd] 90)).alloc (.cells #[.bool Vb,.int .i64 fn',.int .i64 Vd,.bool Ve,.int .i64 Vf,.int .i64 Vg,.int .i64 Vh,.int .i64 RO,.int .i64 Lg,.int .i64 Lh] 90)=V at *;have a8:=hA.c 8 _ rfl;have a9:=hA.c 9 _ rfl;have b8:=hB.c 8 _ rfl;have b9:=hB.c 9 _ rfl;have HA:Hid _:=hA;have HB:Hid _:=hB;clear hA hB;go_enter Tryz.func108,Tryz.ntmps108;go_wp2_with fail;refine (K1.out _).mono ?_;rintro e u1 ⟨rfl,hb1,hd1⟩;have hA1:=HA.out.step hb1;have hB1:=HB.out.step hb1;have c8:=hA1.c 8 _ rfl;have c9:=hA1.c 9 _ rfl;have d8:=hB1.c 8 _ rfl;have d9:=hB1.c 9 _ rfl;have Vi:=ai hbel hb1;have Y8:=Nat.le_trans hdr hd1;clear a8 a9 b8 b9 hA1 hB1 HA HB;cases r1
 ·go_wp2_with fail;refine (K2.out _).mono ?_;rintro e u2 ⟨rfl,hb2,hd2⟩;have Vj:=ai Vi hb2;have Y9:=Nat.le_trans Y8 hd2;clear c8 c9 d8 d9;cases r2
  ·go_wp2_with fail;go_ret;exact ⟨by have:=HC.out;simp at this;rw [this];rfl,Vj,Y9⟩
  ·go_wp2_with fail;go_ret;exact ⟨by have:=HC.out;simp at this;rw [this];rfl,Vj,Y9⟩
 ·go_wp2_with fail;go_ret;exact ⟨by have:=HC.out;simp at this;rw [this];rfl,Vi,Y8⟩
abbrev QM:={ x:Num.Pc // Num.bZ x.sd [x.sn]=true }
def rA (x:QM) : List Value:=Ae x.1
def QN (x y:QM) : Int:=Num.Ni x.1 y.1
instance : Inhabited QM:=⟨⟨⟨⟨false,0,1⟩,⟨false,0,1⟩,0,1,0,1⟩,by decide +kernel⟩⟩
theorem QO (x:QM) (v:Value) (hv:v∈rA x) : v.oneCell'=true:=by simp only [rA,Ae,List.mem_cons,List.not_mem_nil,or_false] at hv;rcases hv with rfl|rfl|rfl|rfl|rfl|rfl|rfl|rfl|rfl|rfl<;>rfl
open Go.RowKit
end Go.Proofs.YtipcbhodlgoflabGreatDoor
