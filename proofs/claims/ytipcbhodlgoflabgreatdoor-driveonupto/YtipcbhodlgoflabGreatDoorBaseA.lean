/- What the walks lean on: a slice of 64-bit numbers as a list in memory, and what a later world keeps of it. -/
import Derived.WalkKit
import Derived.WalkSpells
import Derived.WalkLawsBesides
import Derived.Deep.QuietTactic
import Derived.BigQuiet
import Derived.Test.YtipcbhodlgoflabGreatDoorNum
import Derived.Test.YtipcbhodlgoflabGreatDoorRows
set_option maxHeartbeats 1600000
namespace Go.Proofs.YtipcbhodlgoflabGreatDoor
open Go.RowKit
def Ints (w:World) (a:Option Addr) (len:Nat) (l:List Int) : Prop :=
 len=l.length/\(len=0\/∃b off,a=some ⟨b,off,none⟩/\b < w.heap.size/\∀j,j < len->w.cell? ⟨b,off+j,none⟩=some (.int .i64 (l[j]?.getD 0)))
theorem Ints.below {w w':World} {B:Nat} {a:Option Addr} {len:Nat} {l:List Int} (h:Ints w a len l) (hb:Below B w w') (hB:w.heap.size<=B) : Ints w' a len l:=by
 obtain ⟨h1,h2⟩:=h;refine ⟨h1,?_⟩;rcases h2 with h2|⟨b,off,ha,hs,hc⟩
 ·exact Or.inl h2
 ·exact Or.inr ⟨b,off,ha,Nat.lt_of_lt_of_le hs hb.size,fun j hj=>by rw [hb.cell (p:=⟨b,off+j,none⟩) (Nat.lt_of_lt_of_le hs hB)];exact hc j hj⟩
theorem Ints.new (w:World) (x:Int) (t:TypeId) : Ints (w.alloc (.cells #[.int .i64 x] t)) (some ⟨w.heap.size,0,none⟩) 1 [x]:=by
 refine ⟨rfl,Or.inr ⟨w.heap.size,0,rfl,by simp,fun j hj=>?_⟩⟩;obtain rfl:j=0:=by omega
 simp
theorem Ints.newAt {w:World} {k:Nat} (hk:k=w.heap.size) (x:Int) (t:TypeId) : Ints (w.alloc (.cells #[.int .i64 x] t)) (some ⟨k,0,none⟩) 1 [x]:=by subst hk;exact Ints.new w x t
theorem Ee {W w1:World} (hb:Below W.heap.size W w1) : (∀b o,b < W.heap.size->w1.cell? ⟨b,o,none⟩=W.cell? ⟨b,o,none⟩)/\(∀b o,b < W.heap.size->w1.frozen? ⟨b,o,none⟩=W.frozen? ⟨b,o,none⟩) :=
 ⟨fun b o h=>hb.cell (p:=⟨b,o,none⟩) h,fun b o h=>hb.frozen (p:=⟨b,o,none⟩) h⟩
theorem JS {w1 w2:World} {o:Obj} (k:Below (w1.alloc o).heap.size (w1.alloc o) w2) (i:Nat) : w2.cell? ⟨w1.heap.size,i,none⟩=(w1.alloc o).cell? ⟨w1.heap.size,i,none⟩/\w1.heap.size < w2.heap.size :=
 ⟨k.cell (by simp),by have:=k.size;simp at this;omega⟩
theorem Ints.Ef {w:World} {base:Nat} {t:TypeId} {g n cap:Nat} {xs:List Value} {l:List Int} (h:w.ownsRow base t 1 (.slice (some ⟨g,0,none⟩) n cap) n xs) (hn:n=l.length)
  (hx:∀j,j < n->xs[j]? = some (.int .i64 (l[j]?.getD 0))) : Ints w (some ⟨g,0,none⟩) n l:=by
 refine ⟨hn,Or.inr ⟨g,0,rfl,(h.lt g rfl).2,fun j hj=>?_⟩⟩;rw [Nat.zero_add,h.cellAt j (by omega)];exact hx j hj
theorem Ints.jr {w:World} {base:Nat} {t:TypeId} {n:Nat} {v:Value} {l:List Int} (h:w.ownsRow base t 1 v n (l.map (Value.int .i64))) (hn:n=l.length) :
  ∃a c,v=.slice a n c/\Ints w a n l/\(n=0\/∃g,a=some ⟨g,0,none⟩/\base<=g):=by
 have h':=h;rcases h.2 with ⟨hv,h0⟩|⟨g,cap,cur,hv,hb,_⟩
 ·subst h0;exact ⟨none,0,hv,⟨hn,Or.inl rfl⟩,Or.inl rfl⟩
 ·subst hv;refine ⟨_,cap,rfl,Ints.Ef h' hn (fun j hj=>?_),Or.inr ⟨g,rfl,hb⟩⟩;rw [List.getElem?_map,List.getElem?_eq_getElem (by omega)];simp
theorem cB {w:World} {k:Nat} (hk:k=w.heap.size) (u:Value) (t:TypeId) : (w.alloc (.cells #[u] t)).cell? ⟨k,0,none⟩=some u:=by subst hk;simp
theorem eu {w:World} {k:Nat} (hk:k=w.heap.size) (u:Value) (t:TypeId) : ∀(j:Nat) (x:Value),[u][j]? = some x->(w.alloc (.cells #[u] t)).cell? (Addr.add ⟨k,0,none⟩ j)=some x:=by
 intro j x hj
 match j,hj with
 | 0,hj=>simp at hj;subst hj;exact cB hk u t
theorem dQ {w:World} {k:Nat} (hk:k=w.heap.size) (u:Value) (t:TypeId) : ∀(j:Nat) (x:Value),[u][j]? = some x->(w.alloc (.cells #[u] t)).cell? ⟨k,j,none⟩=some x:=by
 intro j x hj
 match j,hj with
 | 0,hj=>simp at hj;subst hj;exact cB hk u t
theorem dW {w:World} {base:Nat} {t:TypeId} {v:Value} {n:Nat} {xs:List Value} (h:w.ownsRow base t 1 v n xs) : ∃a c,v=.slice a n c:=by
 rcases h.2 with ⟨hv,h0⟩|⟨g,cap,cur,hv,_⟩
 ·subst h0;exact ⟨none,0,hv⟩
 ·exact ⟨_,cap,hv⟩
theorem Ints.set {w:World} {a:Option Addr} {n base:Nat} {l:List Int} (h:Ints w a n l) (hf:n=0\/∃g,a=some ⟨g,0,none⟩/\base<=g) {p:Addr} (hp:p.block < base) (u:Value) : Ints (w.setCell p u) a n l:=by
 obtain ⟨h1,h2⟩:=h;refine ⟨h1,?_⟩;rcases h2 with h2|⟨b,off,ha,hs,hc⟩
 ·exact Or.inl h2
 ·rcases hf with hf|⟨g,hg,hb⟩
  ·exact Or.inl hf
  ·rw [ha] at hg;simp only [Option.some.injEq,Addr.mk.injEq] at hg;refine Or.inr ⟨b,off,ha,by simpa using hs,fun j hj=>?_⟩;rw [World.cell?_setCell_other _ _ _ _ (by intro e;rw [e] at hp;dsimp only at hp;omega)];exact hc j hj
theorem aU {w:World} {k:Nat} (hk:k=w.heap.size) (u v:Value) (t:TypeId) : (w.alloc (.cells #[u,v] t)).cell? ⟨k,0,none⟩=some u/\(w.alloc (.cells #[u,v] t)).cell? ⟨k,1,none⟩=some v:=by subst hk;exact ⟨by simp,by simp⟩
theorem iV {k:IntKind} {a b:Int} (h:a=b) : Ending.returned (.int k a)=.returned (.int k b):=by rw [h]
theorem aK {a b:Bool} (h:a=b) : Ending.returned (.bool a)=.returned (.bool b):=by rw [h]
theorem iZ {B:Nat} {a w:World} (h:Below B a w) (n:Nat) : Below B a (w.drewN n):=below_drewN h n
structure Later (V:World) where
 w:World
 ok:Below V.heap.size V w
theorem nY (V:World) : Nonempty (Later V):=⟨⟨V,Below.refl _ _⟩⟩
theorem iW {P:Program} {id:Nat} {Q:Exit->Act->World->Prop} {a:Act} {w:World} {l:List Oper} (hm:P.follows .mixedOrders=true) (hB:Region.lexB .any l.toArray=true)
  (h:wpQuiet P l.toArray (fun w'=>∃n:Later w,w'=n.w) (fun a'=>∀w',(∃n:Later w,w'=n.w)->Q .normal a' w') l a) : (Code.region id l.toArray true).wp P Q a w :=
 wp_region_quiet (C:=fun w'=>∃n:Later w,w'=n.w) hm hB ⟨⟨w.drew,(Below.refl _ _).drew⟩,rfl⟩ (by simpa using h)
theorem mI {P:Program} {f:FuncId} {args:Array Value} {V:World} {n:Later V} {v:Value}
  (h:Calls P f args n.w fun e w'=>e=.returned v/\Below n.w.heap.size n.w w') : Calls P f args n.w fun e w''=>e=.returned v/\∃m:Later V,w''=m.w :=
 h.mono fun _ w' ⟨he,hb⟩=>⟨he,⟨w',n.ok.trans (hb.mono n.ok.size)⟩,rfl⟩
theorem cK {V:World} {p:Addr} {v:Value} (h:V.cell? p=some v) (hp:p.block < V.heap.size) : ∀n:Later V,n.w.cell? p=some v:=fun n=>by rw [n.ok.cell hp];exact h
open Go.RowKit
theorem bq (m:Int) (a:Option Addr) (len cap:Nat) (l:List Int) (w:World) (hi:Ints w a len l) (hlen:len<=9223372036854775807)
  (hm0:0<=m) (hm:m<=4611686018427387904) :
  Calls Tryz.prog 45 #[.int .i64 m,.slice a len cap] w fun e w'=>e=.returned (.bool (Num.aB m l))/\w'=w:=by
 obtain ⟨hll,hi⟩:=hi;have HL:Hid (len=l.length):=hll;clear hll;go_enter Tryz.func45,Tryz.ntmps45;go_wp2;go_loop [9] (fun i=>∃k:Nat,k<=len/\i=.int .i64 k/\Num.aB m (l.take k)=true) (fun i=>len - (intOf i).toNat)
 case atStart=>exact ⟨0,Nat.zero_le _,rfl,rfl⟩
 case round =>
  obtain ⟨k,hk,rfl,hw⟩:=hrel;have HW:Hid (Num.aB m (l.take k)=true):=hw;clear hw;by_cases hlt:k < len
  ·rcases hi with hi|⟨b,off,ha,hb,hc⟩
   ·omega
   have hck:=hc k hlt;clear hc;have hs:=Num.gT m l k (by have:=HL.out;omega);have hf:=Num.iA m l k (by have:=HL.out;omega);generalize l[k]?.getD 0=x at hck hs hf;have HS:Hid _:=hs;have HF:Hid _:=hf;clear hs hf;subst ha;by_cases hx1:x < -m
   ·go_wp2;go_ret;exact ⟨aK (HF.out (Or.inl hx1)).symm,rfl⟩
   by_cases hx2:m < x
   ·go_wp2;go_ret;exact ⟨aK (HF.out (Or.inr hx2)).symm,rfl⟩
   go_wp2;go_round
   case rel=>exact ⟨k+1,by omega,by go_num,by rw [HS.out,HW.out];simp;omega⟩
   case measure=>simp [intOf];omega
  ·go_wp2;go_ret;have hke:k=l.length:=by have:=HL.out;omega
   refine ⟨aK ?_,rfl⟩;have:=HW.out;rw [hke,List.take_length] at this;exact this.symm
theorem mJ (d:Int) (a:Option Addr) (len cap:Nat) (l:List Int) (w:World) (hi:Ints w a len l) (hlen:len<=9223372036854775807)
  (hd : -4611686018427387904<=d/\d<=4611686018427387904) (hl:∀j:Nat,-4611686018427387904<=l[j]?.getD 0/\l[j]?.getD 0<=4611686018427387904) :
  Calls Tryz.prog 129 #[.int .i64 d,.slice a len cap] w fun e w'=>e=.returned (.int .i64 (Num.gl d l))/\∃n,w'=w.drewN n:=by
 obtain ⟨hll,hi⟩:=hi;have HL:Hid (len=l.length):=hll;have HB:Hid (∀j:Nat,-4611686018427387904<=l[j]?.getD 0/\l[j]?.getD 0<=4611686018427387904):=hl;clear hll hl;go_enter Tryz.func129,Tryz.ntmps129;go_wp2;go_loopw [5,11] (fun c i wr=>∃(k:Nat) (x:Int),k<=len/\i=.int .i64 k/\c=.int .i64 x/\x.natAbs=Num.gl d (l.take k)/\-4611686018427387904<=x/\x<=4611686018427387904/\∃n,wr=w.drewN n) (fun _ i _=>len - (intOf i).toNat)
 case atStart=>exact ⟨0,d,Nat.zero_le _,rfl,rfl,by simp [Num.gl],hd.1,hd.2,0,rfl⟩
 case round =>
  obtain ⟨k,x,hk,rfl,rfl,hx,hx1,hx2,n,rfl⟩:=hrel;have HX:Hid (x.natAbs=Num.gl d (l.take k)):=hx;clear hx;by_cases hlt:k < len
  ·rcases hi with hi|⟨b,off,ha,hb,hc⟩
   ·omega
   have hck:=hc k hlt;clear hc;have hs:=Num.tF d l k (by have:=HL.out;omega);have hy:=HB.out k;generalize l[k]?.getD 0=y at hck hs hy;rw [<-HX.out] at hs;have HS:Hid _:=hs;clear hs;subst ha;go_wp2;go_loopw [5,7] (fun c i wr=>∃(p q:Int),c=.int .i64 p/\i=.int .i64 q/\Nat.gcd p.natAbs q.natAbs=Num.gl d (l.take (k+1))/\-4611686018427387904<=p/\p<=4611686018427387904/\-4611686018427387904<=q/\q<=4611686018427387904/\∃n,wr=w.drewN n) (fun _ i _=>(intOf i).natAbs)
   case atStart=>exact ⟨x,y,rfl,rfl,HS.out.symm,hx1,hx2,hy.1,hy.2,n,rfl⟩
   case round =>
    obtain ⟨p,q,rfl,rfl,hpq,hp1,hp2,hq1,hq2,n',rfl⟩:=hrel;have HG:Hid _:=hpq;clear hpq;by_cases hq0:q=0
    ·subst hq0;go_wp2;go_roundw
     case rel=>exact ⟨k+1,p,by omega,by go_num,rfl,by rw [<-HG.out];simp,hp1,hp2,n',rfl⟩
     case measure=>simp [intOf];omega
    ·have hq:(q != 0)=true:=by simpa using hq0
     have hqe:(q == 0)=false:=by simpa using hq0
     have hbd:=Num.R8 p q hq0;have heu:=Num.VB p q;have HE:Hid _:=heu;have HBd:Hid _:=hbd;clear heu hbd;go_wp2;go_region;go_wp2;go_roundw
     case rel=>exact ⟨q,p.tmod q,rfl,by go_num,by rw [HE.out];exact HG.out,hq1,hq2,by have:=HBd.out;omega,by have:=HBd.out;omega,n'+1,rfl⟩
     case measure=>have:=HBd.out;simp only [intOf];omega
  ·go_wp2
   all_goals
    go_ret;refine ⟨iV ?_,n,rfl⟩;have hke:k=l.length:=by have:=HL.out;omega
    have:=HX.out;rw [hke,List.take_length] at this;rw [<-this];omega
open Go.RowKit
theorem Co (d:Int) (a:Option Addr) (len cap:Nat) (l:List Int) (w:World) (hi:Ints w a len l) (hlen:len<=9223372036854775807)
  (hbad:d=0\/Num.aB 4611686018427387904 [d]=false\/Num.aB 4611686018427387904 l=false) :
  Calls Tryz.prog 98 #[.int .i64 d,.slice a len cap] w fun e w'=>e=.returned (.tuple #[.int .i64 0,.int .i64 3])/\Below w.heap.size w w':=by
 by_cases hd0:d=0
 ·subst hd0;go_enter Tryz.func98,Tryz.ntmps98;go_wp2_with fail;go_ret2;exact ⟨rfl,Below.refl _ _⟩
 have XK:(d == 0)=false:=by simpa using hd0
 by_cases hd1:Num.aB 4611686018427387904 [d]=false
 ·go_enter Tryz.func98,Tryz.ntmps98;go_wp2_with fail;refine (bq _ _ _ _ [d] _ (Ints.new _ _ _) (by omega) (by omega) (by omega)).mono ?_;rintro e w' ⟨rfl,rfl⟩;go_wp2_with fail;go_ret2;exact ⟨rfl,(Below.refl _ _).alloc (Nat.le_refl _) _⟩
 have XL:Num.aB 4611686018427387904 [d]=true:=by simpa using hd1
 have hl1:Num.aB 4611686018427387904 l=false:=by
  rcases hbad with h|h|h
  ·exact absurd h hd0
  ·exact absurd h hd1
  ·exact h
 clear hd1 hbad;go_enter Tryz.func98,Tryz.ntmps98;go_wp2_with fail;refine (bq _ _ _ _ [d] _ (Ints.new _ _ _) (by omega) (by omega) (by omega)).mono ?_;rintro e w' ⟨rfl,rfl⟩;go_wp2_with fail;refine (bq _ _ _ _ l _ (hi.below (B:=w.heap.size) ((Below.refl _ _).alloc (Nat.le_refl _) _) (Nat.le_refl _)) (by omega) (by omega) (by omega)).mono ?_;rintro e w' ⟨rfl,rfl⟩;go_wp2_with fail;go_ret2;exact ⟨rfl,(Below.refl _ _).alloc (Nat.le_refl _) _⟩
theorem Ai (d:Int) (a:Option Addr) (len cap:Nat) (l:List Int) (w:World) (hi:Ints w a len l) (hlen:len<=9223372036854775807)
  (hd0:(d == 0)=false) (hd1:Num.aB 4611686018427387904 [d]=true) (hl1:Num.aB 4611686018427387904 l=true) (hlong:8 < len) :
  Calls Tryz.prog 98 #[.int .i64 d,.slice a len cap] w fun e w'=>e=.returned (.tuple #[.int .i64 0,.int .i64 1])/\Below w.heap.size w w':=by
 go_enter Tryz.func98,Tryz.ntmps98;go_wp2_with fail;refine (bq _ _ _ _ [d] _ (Ints.new _ _ _) (by omega) (by omega) (by omega)).mono ?_;rintro e w' ⟨rfl,rfl⟩;go_wp2_with fail;refine (bq _ _ _ _ l _ (hi.below (B:=w.heap.size) ((Below.refl _ _).alloc (Nat.le_refl _) _) (Nat.le_refl _)) (by omega) (by omega) (by omega)).mono ?_;rintro e w' ⟨rfl,rfl⟩;go_wp2_with fail;go_ret2;exact ⟨rfl,(Below.refl _ _).alloc (Nat.le_refl _) _⟩
theorem Cq (d:Int) (a:Option Addr) (len cap:Nat) (l:List Int) (w:World) (hi:Ints w a len l) (hlen:len<=8)
  (hd0:(d == 0)=false) (hd1:Num.aB 4611686018427387904 [d]=true) (hl1:Num.aB 4611686018427387904 l=true) (hneg:0 < d) :
  Calls Tryz.prog 98 #[.int .i64 d,.slice a len cap] w fun e w'=>e=.returned (.tuple #[.int .i64 (Num.low d l).1,.int .i64 (Num.low d l).2])/\Below w.heap.size w w':=by
 have Rz:=Num.aJ _ _ hd1 (by omega) 0;have hlb:=Num.aJ _ _ hl1 (by omega);have Cr:Hid _:=hlb;simp only [List.length_singleton,Nat.lt_one_iff,getElem?_pos,List.getElem_cons_zero,Option.getD_some] at Rz;obtain ⟨VN,VO⟩:=Rz;have hg0:=Num.rQ d l (by omega);have hg1:=Num.JO d l (by omega);have G8:Hid _:=Num.NZ d l ((Num.gl d l:Int)) (by unfold Num.bX;rw [if_neg (by omega)]) (by omega) hd1 hl1 (by have:=hi.1;omega);clear hlb;go_enter Tryz.func98,Tryz.ntmps98;go_wp2_with fail;refine (bq _ _ _ _ [d] _ (Ints.new _ _ _) (by omega) (by omega) (by omega)).mono ?_;rintro e w' ⟨rfl,rfl⟩;go_wp2_with fail;refine (bq _ _ _ _ l _ (hi.below (B:=w.heap.size) ((Below.refl _ _).alloc (Nat.le_refl _) _) (Nat.le_refl _)) (by omega) (by omega) (by omega)).mono ?_;rintro e w' ⟨rfl,rfl⟩;go_wp2_with fail;refine (mJ d _ _ _ l _ (hi.below (B:=w.heap.size) ((Below.refl _ _).alloc (Nat.le_refl _) _) (Nat.le_refl _)) (by omega) ⟨VN,VO⟩ Cr.out).mono ?_;rintro e w' ⟨rfl,n,rfl⟩;generalize Num.gl d l=g at *;have hq:=Num.fu d g;go_wp2_with fail
 ·go_ret2;refine ⟨?_,iZ ((Below.refl _ _).alloc (Nat.le_refl _) _) _⟩;rw [G8.out.1 (by first|assumption|(rw [Int.tdiv_eq_ediv_of_nonneg (by omega)];assumption)|(rw [Int.tdiv_neg];assumption))];rfl
 have HQ:Hid (d.tdiv (g)<=1073741824):=by first|assumption|(rw [Int.tdiv_eq_ediv_of_nonneg (by omega)];assumption)|(rw [Int.tdiv_neg];assumption)
 obtain ⟨hll,hi⟩:=hi;have HL:Hid (len=l.length):=hll;clear hll hq;go_loopw [38] (fun i wr=>∃k:Nat,k<=len/\i=.int .i64 k/\Num.aB 1073741824 ((l.map fun n=>n.tdiv (g)).take k)=true/\Below w.heap.size w wr) (fun i _=>len - (intOf i).toNat)
 case atStart=>exact ⟨0,Nat.zero_le _,rfl,rfl,iZ ((Below.refl _ _).alloc (Nat.le_refl _) _) _⟩
 case round =>
  obtain ⟨k,hk,rfl,hw,hbl⟩:=hrel;have HW:Hid _:=hw;clear hw;by_cases hlt:k < len
  ·rcases hi with hi|⟨b,off,ha,hb,hc⟩
   ·omega
   have hck:=hc k hlt;clear hc;rw [<-hbl.cell (p:=⟨b,off+k,none⟩) hb] at hck;have hs:=Num.gT 1073741824 (l.map fun n=>n.tdiv (g)) k (by have:=HL.out;simp;omega);have hf:=Num.iA 1073741824 (l.map fun n=>n.tdiv (g)) k (by have:=HL.out;simp;omega);rw [Num.pM _ (by simp)] at hs hf;have hx:=Cr.out k;generalize l[k]?.getD 0=x at hck hs hf hx;have HS:Hid _:=hs;have HF:Hid _:=hf;clear hs hf;subst ha;have hq:=Num.fu x g;go_wp2_with fail;refine (bq _ _ _ _ [x.tdiv g] _ (Ints.new _ _ _) (by omega) (by omega) (by omega)).mono ?_;rintro e w' ⟨rfl,rfl⟩;rw [Num.aW];by_cases hin : -1073741824<=x.tdiv g/\x.tdiv g<=1073741824
   ·have hb1:(decide (-1073741824<=x.tdiv g) && decide (x.tdiv g<=1073741824))=true:=by simp;omega
    rw [hb1];go_wp2_with fail;go_roundw
    case rel=>exact ⟨k+1,by omega,by go_num,by rw [HS.out,HW.out];simp;omega,hbl.alloc hbl.size _⟩
    case measure=>simp [intOf];omega
   ·have hb1:(decide (-1073741824<=x.tdiv g) && decide (x.tdiv g<=1073741824))=false:=by simp;omega
    rw [hb1];go_wp2_with fail;go_ret2;refine ⟨?_,hbl.alloc hbl.size _⟩;rw [G8.out.2.1 HQ.out (HF.out (by first|omega|(simp;omega)))];rfl
  ·go_wp2_with fail;go_ret2;have hke:k=l.length:=by have:=HL.out;omega
   refine ⟨?_,hbl⟩;rw [G8.out.2.2 HQ.out (by have:=HW.out;rw [hke,List.take_of_length_le (by simp)] at this;exact this)];rfl
theorem Cs (d:Int) (a:Option Addr) (len cap:Nat) (l:List Int) (w:World) (hi:Ints w a len l) (hlen:len<=8)
  (hd0:(d == 0)=false) (hd1:Num.aB 4611686018427387904 [d]=true) (hl1:Num.aB 4611686018427387904 l=true) (hneg:d < 0) :
  Calls Tryz.prog 98 #[.int .i64 d,.slice a len cap] w fun e w'=>e=.returned (.tuple #[.int .i64 (Num.low d l).1,.int .i64 (Num.low d l).2])/\Below w.heap.size w w':=by
 have Rz:=Num.aJ _ _ hd1 (by omega) 0;have hlb:=Num.aJ _ _ hl1 (by omega);have Cr:Hid _:=hlb;simp only [List.length_singleton,Nat.lt_one_iff,getElem?_pos,List.getElem_cons_zero,Option.getD_some] at Rz;obtain ⟨VN,VO⟩:=Rz;have hg0:=Num.rQ d l (by omega);have hg1:=Num.JO d l (by omega);have G8:Hid _:=Num.NZ d l (-(Num.gl d l:Int)) (by unfold Num.bX;rw [if_pos (by omega)]) (by omega) hd1 hl1 (by have:=hi.1;omega);clear hlb;go_enter Tryz.func98,Tryz.ntmps98;go_wp2_with fail;refine (bq _ _ _ _ [d] _ (Ints.new _ _ _) (by omega) (by omega) (by omega)).mono ?_;rintro e w' ⟨rfl,rfl⟩;go_wp2_with fail;refine (bq _ _ _ _ l _ (hi.below (B:=w.heap.size) ((Below.refl _ _).alloc (Nat.le_refl _) _) (Nat.le_refl _)) (by omega) (by omega) (by omega)).mono ?_;rintro e w' ⟨rfl,rfl⟩;go_wp2_with fail;refine (mJ d _ _ _ l _ (hi.below (B:=w.heap.size) ((Below.refl _ _).alloc (Nat.le_refl _) _) (Nat.le_refl _)) (by omega) ⟨VN,VO⟩ Cr.out).mono ?_;rintro e w' ⟨rfl,n,rfl⟩;generalize Num.gl d l=g at *;have hq:=Num.fu d g;have hwr:wrap64 (-d.tdiv ↑g)=-d.tdiv ↑g:=IntWalk.wrap64_in _ (by omega);go_wp2_with fail
 ·go_ret2;refine ⟨?_,iZ ((Below.refl _ _).alloc (Nat.le_refl _) _) _⟩;rw [G8.out.1 (by first|assumption|(rw [Int.tdiv_eq_ediv_of_nonneg (by omega)];assumption)|(rw [Int.tdiv_neg];assumption))];rfl
 have HQ:Hid (d.tdiv (-g)<=1073741824):=by first|assumption|(rw [Int.tdiv_eq_ediv_of_nonneg (by omega)];assumption)|(rw [Int.tdiv_neg];assumption)
 obtain ⟨hll,hi⟩:=hi;have HL:Hid (len=l.length):=hll;clear hll hq;go_loopw [38] (fun i wr=>∃k:Nat,k<=len/\i=.int .i64 k/\Num.aB 1073741824 ((l.map fun n=>n.tdiv (-g)).take k)=true/\Below w.heap.size w wr) (fun i _=>len - (intOf i).toNat)
 case atStart=>exact ⟨0,Nat.zero_le _,rfl,rfl,iZ ((Below.refl _ _).alloc (Nat.le_refl _) _) _⟩
 case round =>
  obtain ⟨k,hk,rfl,hw,hbl⟩:=hrel;have HW:Hid _:=hw;clear hw;by_cases hlt:k < len
  ·rcases hi with hi|⟨b,off,ha,hb,hc⟩
   ·omega
   have hck:=hc k hlt;clear hc;rw [<-hbl.cell (p:=⟨b,off+k,none⟩) hb] at hck;have hs:=Num.gT 1073741824 (l.map fun n=>n.tdiv (-g)) k (by have:=HL.out;simp;omega);have hf:=Num.iA 1073741824 (l.map fun n=>n.tdiv (-g)) k (by have:=HL.out;simp;omega);rw [Num.pM _ (by simp)] at hs hf;have hx:=Cr.out k;generalize l[k]?.getD 0=x at hck hs hf hx;have HS:Hid _:=hs;have HF:Hid _:=hf;clear hs hf;subst ha;have hq:=Num.fu x g;have hwr2:wrap64 (-x.tdiv ↑g)=-x.tdiv ↑g:=IntWalk.wrap64_in _ (by omega);go_wp2_with fail;refine (bq _ _ _ _ [-x.tdiv g] _ (Ints.new _ _ _) (by omega) (by omega) (by omega)).mono ?_;rintro e w' ⟨rfl,rfl⟩;rw [Num.aW];by_cases hin : -1073741824<=x.tdiv g/\x.tdiv g<=1073741824
   ·have hb1:(decide (-1073741824<=-x.tdiv g) && decide (-x.tdiv g<=1073741824))=true:=by simp;omega
    rw [hb1];go_wp2_with fail;go_roundw
    case rel=>exact ⟨k+1,by omega,by go_num,by rw [HS.out,HW.out];simp;omega,hbl.alloc hbl.size _⟩
    case measure=>simp [intOf];omega
   ·have hb1:(decide (-1073741824<=-x.tdiv g) && decide (-x.tdiv g<=1073741824))=false:=by simp;omega
    rw [hb1];go_wp2_with fail;go_ret2;refine ⟨?_,hbl.alloc hbl.size _⟩;rw [G8.out.2.1 HQ.out (HF.out (by first|omega|(simp;omega)))];rfl
  ·go_wp2_with fail;go_ret2;have hke:k=l.length:=by have:=HL.out;omega
   refine ⟨?_,hbl⟩;rw [G8.out.2.2 HQ.out (by have:=HW.out;rw [hke,List.take_of_length_le (by simp)] at this;exact this)];rfl
theorem kX (d:Int) (a:Option Addr) (len cap:Nat) (l:List Int) (w:World) (hi:Ints w a len l) (hlen:len<=9223372036854775807) :
  Calls Tryz.prog 98 #[.int .i64 d,.slice a len cap] w fun e w'=>e=.returned (.tuple #[.int .i64 (Num.low d l).1,.int .i64 (Num.low d l).2])/\Below w.heap.size w w':=by
 by_cases hbad:d=0\/Num.aB 4611686018427387904 [d]=false\/Num.aB 4611686018427387904 l=false
 ·have e:Num.low d l=(0,3):=by unfold Num.low;rw [if_pos hbad]
  rw [e];exact Co d a len cap l w hi hlen hbad
 ·have UD:=hbad;simp only [not_or,Bool.not_eq_false] at UD;obtain ⟨h0,h1,h2⟩:=UD;have h0':(d == 0)=false:=by simpa using h0
  by_cases hlong:8 < len
  ·have e:Num.low d l=(0,1):=by unfold Num.low;rw [if_neg hbad,if_pos (by have:=hi.1;omega)]
   rw [e];exact Ai d a len cap l w hi hlen h0' h1 h2 hlong
  ·by_cases hneg:d < 0
   ·exact Cs d a len cap l w hi (by omega) h0' h1 h2 hneg
   ·exact Cq d a len cap l w hi (by omega) h0' h1 h2 (by omega)
open Go.RowKit
theorem mY {w w':World} {o1 o2:Obj} (hb:Below ((w.alloc o1).alloc o2).heap.size ((w.alloc o1).alloc o2) w') : Below w.heap.size w w' :=
 (((Below.refl _ _).alloc (Nat.le_refl _) _).alloc (by simp) _).trans (hb.mono (by simp;omega))
theorem Om (n d:Int) (w:World) (h:((Num.low d [n]).2 == 0)=false) :
  Calls Tryz.prog 117 #[.int .i64 n,.int .i64 d] w fun e w'=>e=.returned (.tuple #[.agg #[.int .i64 0,.int .i64 0],.int .i64 (Num.low d [n]).2])/\Below w.heap.size w w':=by
 have h':((Num.low d [n]).2 != 0)=true:=by simpa using h
 generalize hx:(Num.low d [n]).2=x at *;have HX:Hid _:=hx;clear hx;go_enter Tryz.func117,Tryz.ntmps117;go_wp2_with fail;refine (kX d _ _ _ [n] _ (Ints.newAt (by simp) _ _) (by omega)).mono ?_;rintro e w' ⟨rfl,hb⟩;rw [HX.out];generalize (Num.low d [n]).1=y at *;obtain ⟨hc,hf⟩:=Ee hb;have hz:=hb.size;simp at hz;have c0:w'.cell? ⟨w.heap.size,0,none⟩=some (.int .i64 0):=by rw [hb.cell (by simp;omega)];go_simp
 have c1:w'.cell? ⟨w.heap.size,1,none⟩=some (.int .i64 0):=by rw [hb.cell (by simp;omega)];go_simp
 go_wp2_with fail;exact bodyPost_ret (v:=.tuple #[.agg #[.int .i64 0,.int .i64 0],.int .i64 x]) (by simp [results,Tryz.results117,go_sem,c0,c1]) rfl ⟨rfl,((mY hb).setCell (Nat.le_refl _) _).setCell (Nat.le_refl _) _⟩
theorem Sj (n d:Int) (w:World) (h:(Num.low d [n]).2=0) :
  Calls Tryz.prog 117 #[.int .i64 n,.int .i64 d] w fun e w'=>e=.returned (.tuple #[.agg #[.int .i64 (n.tdiv (Num.bX d [n])),.int .i64 (d.tdiv (Num.bX d [n]))],.int .i64 0])/\Below w.heap.size w w':=by
 obtain ⟨e1,h0,⟨hd1,hd2⟩,hl,_,_⟩:=Num.G7 d [n] h;have hy:=Num.Cj d [n] h0 hd1 hd2;have hn:=Num.aJ _ _ hl (by omega) 0;simp only [List.length_singleton,Nat.lt_one_iff,getElem?_pos,List.getElem_cons_zero,Option.getD_some] at hn;have HX:Hid _:=h;have HE:Hid _:=e1;clear h e1 hl;generalize Num.bX d [n]=y at *;have hy0:(y == 0)=false:=by simpa using hy.1
 have q1:=Num.fu n y;have q2:=Num.fu d y;have hw1:wrap64 (n.tdiv y)=n.tdiv y:=IntWalk.wrap64_in _ (by omega);have hw2:wrap64 (d.tdiv y)=d.tdiv y:=IntWalk.wrap64_in _ (by omega);clear q1 q2;obtain ⟨_,hy1,hy2⟩:=hy;go_enter Tryz.func117,Tryz.ntmps117;go_wp2_with fail;refine (kX d _ _ _ [n] _ (Ints.newAt (by simp) _ _) (by omega)).mono ?_;rintro e w' ⟨rfl,hb⟩;rw [HX.out,HE.out];obtain ⟨hc,hf⟩:=Ee hb;have hz:=hb.size;simp at hz;have c0:w'.cell? ⟨w.heap.size,0,none⟩=some (.int .i64 0):=by rw [hb.cell (by simp;omega)];go_simp
 have c1:w'.cell? ⟨w.heap.size,1,none⟩=some (.int .i64 0):=by rw [hb.cell (by simp;omega)];go_simp
 go_wp2_with fail;go_region;go_wp2_with fail;exact bodyPost_ret (v:=.tuple #[.agg #[.int .i64 (n.tdiv y),.int .i64 (d.tdiv y)],.int .i64 0]) (by simp [results,Tryz.results117,go_sem,c0,c1]) rfl ⟨rfl,(((mY hb).setCell (Nat.le_refl _) _).setCell (Nat.le_refl _) _).drew⟩
open Go.RowKit
theorem tJ (d:Int) (a:Option Addr) (len cap:Nat) (l:List Int) (w:World) (hi:Ints w a len l) (hlen:len<=9223372036854775807) :
  Calls Tryz.prog 169 #[.int .i64 d,.slice a len cap] w fun e w'=>e=.returned (.bool (Num.bZ d l))/\Below w.heap.size w w':=by
 by_cases h0:1<=d
 ·by_cases h1:Num.aB 1073741824 [d]=false
  ·have HF:Hid _:=Num.N7 d l h1;go_enter Tryz.func169,Tryz.ntmps169;go_wp2_with fail;refine (bq _ _ _ _ [d] _ (Ints.newAt (by simp) _ _) (by omega) (by omega) (by omega)).mono ?_;rintro e w' ⟨rfl,rfl⟩;go_wp2_with fail;go_ret;exact ⟨aK HF.out.symm,(Below.refl _ _).alloc (Nat.le_refl _) _⟩
  ·have h1':Num.aB 1073741824 [d]=true:=by simpa using h1
   by_cases h2:Num.aB 1073741824 l=false
   ·have HF:Hid _:=Num.N8 d l h2;clear h1;go_enter Tryz.func169,Tryz.ntmps169;go_wp2_with fail;refine (bq _ _ _ _ [d] _ (Ints.newAt (by simp) _ _) (by omega) (by omega) (by omega)).mono ?_;rintro e w' ⟨rfl,rfl⟩;go_wp2_with fail;refine (bq _ _ _ _ l _ (hi.below (B:=w.heap.size) ((Below.refl _ _).alloc (Nat.le_refl _) _) (Nat.le_refl _)) (by omega) (by omega) (by omega)).mono ?_;rintro e w' ⟨rfl,rfl⟩;go_wp2_with fail;go_ret;exact ⟨aK HF.out.symm,(Below.refl _ _).alloc (Nat.le_refl _) _⟩
   ·have h2':Num.aB 1073741824 l=true:=by simpa using h2
    have HF:Hid _:=Num.Ck d l h0 h1' h2';have hd:=Num.aJ _ _ h1' (by omega) 0;simp only [List.length_singleton,Nat.lt_one_iff,getElem?_pos,List.getElem_cons_zero,Option.getD_some] at hd;have hl:=Num.aJ _ _ h2' (by omega);have Cr:Hid _:=hl;clear h1 h2 hl;go_enter Tryz.func169,Tryz.ntmps169;go_wp2_with fail;refine (bq _ _ _ _ [d] _ (Ints.newAt (by simp) _ _) (by omega) (by omega) (by omega)).mono ?_;rintro e w' ⟨rfl,rfl⟩;go_wp2_with fail;refine (bq _ _ _ _ l _ (hi.below (B:=w.heap.size) ((Below.refl _ _).alloc (Nat.le_refl _) _) (Nat.le_refl _)) (by omega) (by omega) (by omega)).mono ?_;rintro e w' ⟨rfl,rfl⟩;go_wp2_with fail;refine (mJ d _ _ _ l _ (hi.below (B:=w.heap.size) ((Below.refl _ _).alloc (Nat.le_refl _) _) (Nat.le_refl _)) (by omega) (by omega) (fun j=>by have:=Cr.out j;omega)).mono ?_;rintro e w' ⟨rfl,n,rfl⟩;go_wp2_with fail;go_ret;exact ⟨aK HF.out.symm,iZ ((Below.refl _ _).alloc (Nat.le_refl _) _) _⟩
 ·have HF:Hid _:=Num.JP d l h0;have h0':decide (1<=d)=false:=by simpa using h0
  go_enter Tryz.func169,Tryz.ntmps169;go_wp2_with fail;go_ret;exact ⟨aK HF.out.symm,Below.refl _ _⟩
theorem tK (n d:Int) (w:World) :
  Calls Tryz.prog 140 #[.agg #[.int .i64 n,.int .i64 d]] w fun e w'=>e=.returned (.bool (Num.bZ d [n]))/\Below w.heap.size w w':=by
 go_enter Tryz.func140,Tryz.ntmps140;go_wp2_with fail;refine (tJ d _ _ _ [n] _ (Ints.newAt (by simp) _ _) (by omega)).mono ?_;rintro e w' ⟨rfl,hb⟩;go_wp2_with fail;go_ret;exact ⟨rfl,mY hb⟩
theorem jv (n d:Int) (w:World) (x y z:Int) (h:Num.mk n d=(x,y,z)) :
  Calls Tryz.prog 117 #[.int .i64 n,.int .i64 d] w fun e w'=>e=.returned (.tuple #[.agg #[.int .i64 x,.int .i64 y],.int .i64 z])/\Below w.heap.size w w':=by
 unfold Num.mk at h;by_cases h0:(Num.low d [n]).2=0
 ·rw [if_pos h0] at h;simp only [Prod.mk.injEq] at h;obtain ⟨rfl,rfl,rfl⟩:=h;exact Sj n d w h0
 ·rw [if_neg h0] at h;simp only [Prod.mk.injEq] at h;obtain ⟨rfl,rfl,rfl⟩:=h;exact Om n d w (by simpa using h0)
open Go.RowKit
theorem tL (x:Int) (w:World) (h : -9223372036854775807<=x/\x<=9223372036854775807) :
  Calls Tryz.prog 131 #[.int .i64 x] w fun e w'=>e=.returned (.int .i64 (x.natAbs:Int))/\w'=w:=by
 by_cases h0:x < 0
 ·go_enter Tryz.func131,Tryz.ntmps131;go_wp2;go_ret;exact ⟨iV (by omega),rfl⟩
 ·go_enter Tryz.func131,Tryz.ntmps131;go_wp2;go_ret;exact ⟨iV (by omega),rfl⟩
theorem G9 (k:Nat) : ∀(a b:Int) (w:World),0<=a->a<=9223372036854775807->0<=b->b<=9223372036854775807->b.toNat<=k->
  Calls Tryz.prog 157 #[.int .i64 a,.int .i64 b] w fun e w'=>e=.returned (.int .i64 (Nat.gcd a.toNat b.toNat:Int))/\w'=w:=by
 induction k with
 | zero =>
  intro a b w ha0 ha1 hb0 hb1 hk;have hb:b=0:=by omega
  subst hb;go_enter Tryz.func157,Tryz.ntmps157;go_wp2_with fail;go_ret;exact ⟨iV (by simp;omega),rfl⟩
 | succ k ih =>
  intro a b w ha0 ha1 hb0 hb1 hk;by_cases hb:b=0
  ·subst hb;go_enter Tryz.func157,Tryz.ntmps157;go_wp2_with fail;go_ret;exact ⟨iV (by simp;omega),rfl⟩
  ·have hb':(b == 0)=false:=by simpa using hb
   have IH:=ih;have HI:Hid _:=IH;clear ih IH;have hm1:0<=a % b:=Int.emod_nonneg _ hb;have hm2:a % b < b:=Int.emod_lt_of_pos _ (by omega);have hg:(Nat.gcd b.toNat (a % b).toNat:Nat)=Nat.gcd a.toNat b.toNat:=by
    have e:(a % b).toNat=a.toNat % b.toNat:=by rw [Int.toNat_emod ha0 hb0]
    rw [e,Nat.gcd_comm b.toNat,<-Nat.gcd_rec,Nat.gcd_comm]
   have HG:Hid _:=hg;clear hg;have hb1':1<=b:=by omega
   go_enter Tryz.func157,Tryz.ntmps157;go_wp2_with fail;refine (HI.out _ _ _ (by omega) (by omega) (by omega) (by omega) (by omega)).mono ?_;rintro e w' ⟨rfl,rfl⟩;go_wp2_with fail;go_ret;exact ⟨iV (by rw [HG.out]),rfl⟩
theorem Ct (d:Int) (a:Option Addr) (len cap:Nat) (l:List Int) (w:World) (hi:Ints w a len l) (hlen:len<=9223372036854775807)
  (hd:0<=d/\d<=4611686018427387904) (hl:∀j:Nat,-4611686018427387904<=l[j]?.getD 0/\l[j]?.getD 0<=4611686018427387904) :
  Calls Tryz.prog 132 #[.slice a len cap,.int .i64 d] w fun e w'=>e=.returned (.int .i64 (Num.gl d l))/\w'=w:=by
 obtain ⟨hll,hi⟩:=hi;have HL:Hid (len=l.length):=hll;have HB:Hid (∀j:Nat,-4611686018427387904<=l[j]?.getD 0/\l[j]?.getD 0<=4611686018427387904):=hl;clear hll hl;go_enter Tryz.func132,Tryz.ntmps132;go_wp2_with fail;go_loop [5,6] (fun c i=>∃(k:Nat) (x:Int),k<=len/\i=.int .i64 k/\c=.int .i64 x/\x=Num.gl d (l.take k)/\0<=x/\x<=4611686018427387904) (fun _ i=>len - (intOf i).toNat)
 case atStart=>exact ⟨0,d,Nat.zero_le _,rfl,rfl,by simp [Num.gl];omega,hd.1,hd.2⟩
 case round =>
  obtain ⟨k,x,hk,rfl,rfl,hx,hx1,hx2⟩:=hrel;have HX:Hid (x=Num.gl d (l.take k)):=hx;clear hx;by_cases hlt:k < len
  ·rcases hi with hi|⟨b,off,ha,hb,hc⟩
   ·omega
   have hck:=hc k hlt;clear hc;have hs:=Num.tF d l k (by have:=HL.out;omega);have hy:=HB.out k;generalize l[k]?.getD 0=y at hck hs hy;have hgx:Num.gl d (l.take k)=x.toNat:=by have:=HX.out;omega
   rw [hgx] at hs;have hle:Nat.gcd x.toNat y.natAbs<=4611686018427387904:=by
    by_cases hx0:x.toNat=0
    ·rw [hx0,Nat.gcd_zero_left];omega
    ·have:=Nat.gcd_le_left (n:=y.natAbs) (m:=x.toNat) (by omega);omega
   have HS:Hid _:=hs;clear hs hgx;subst ha;go_wp2_with fail;refine (tL _ _ (by omega)).mono ?_;rintro e w' ⟨rfl,rfl⟩;go_wp2_with fail;refine (G9 (y.natAbs) _ _ _ (by omega) (by omega) (by omega) (by omega) (by omega)).mono ?_;rintro e w' ⟨rfl,rfl⟩;rw [Int.toNat_natCast];go_wp2_with fail;go_round
   case rel=>exact ⟨k+1,_,by omega,by go_num,rfl,by rw [HS.out],by omega,by omega⟩
   case measure=>simp [intOf];omega
  ·go_wp2_with fail;go_ret;refine ⟨iV ?_,rfl⟩;have hke:k=l.length:=by have:=HL.out;omega
   have:=HX.out;rw [hke,List.take_length] at this;exact this
theorem gp (m:Int) (a:Option Addr) (len cap:Nat) (l:List Int) (w:World) (hi:Ints w a len l) (hlen:len<=9223372036854775807)
  (hm0:0<=m) (hm:m<=4611686018427387904) :
  Calls Tryz.prog 130 #[.slice a len cap,.int .i64 m] w fun e w'=>e=.returned (.bool (Num.aB m l))/\w'=w:=by
 obtain ⟨hll,hi⟩:=hi;have HL:Hid (len=l.length):=hll;clear hll;go_enter Tryz.func130,Tryz.ntmps130;go_wp2;go_loop [5] (fun i=>∃k:Nat,k<=len/\i=.int .i64 k/\Num.aB m (l.take k)=true) (fun i=>len - (intOf i).toNat)
 case atStart=>exact ⟨0,Nat.zero_le _,rfl,rfl⟩
 case round =>
  obtain ⟨k,hk,rfl,hw⟩:=hrel;have HW:Hid (Num.aB m (l.take k)=true):=hw;clear hw;by_cases hlt:k < len
  ·rcases hi with hi|⟨b,off,ha,hb,hc⟩
   ·omega
   have hck:=hc k hlt;clear hc;have hs:=Num.gT m l k (by have:=HL.out;omega);have hf:=Num.iA m l k (by have:=HL.out;omega);generalize l[k]?.getD 0=x at hck hs hf;have HS:Hid _:=hs;have HF:Hid _:=hf;clear hs hf;subst ha;by_cases hx1:x < -m
   ·go_wp2;go_ret;exact ⟨aK (HF.out (Or.inl hx1)).symm,rfl⟩
   by_cases hx2:m < x
   ·go_wp2;go_ret;exact ⟨aK (HF.out (Or.inr hx2)).symm,rfl⟩
   go_wp2;go_round
   case rel=>exact ⟨k+1,by omega,by go_num,by rw [HS.out,HW.out];simp;omega⟩
   case measure=>simp [intOf];omega
  ·go_wp2;go_ret;have hke:k=l.length:=by have:=HL.out;omega
   refine ⟨aK ?_,rfl⟩;have:=HW.out;rw [hke,List.take_length] at this;exact this.symm
open Go.RowKit
theorem dN {w w':World} {o:Obj} (hb:Below (w.alloc o).heap.size (w.alloc o) w') : Below w.heap.size w w' :=
 ((Below.refl _ _).alloc (Nat.le_refl _) _).trans (hb.mono (by simp))
theorem Cu (d:Int) (a:Option Addr) (len cap:Nat) (l:List Int) (w:World) (hi:Ints w a len l) (hlen:len<=9223372036854775807) :
  Calls Tryz.prog 133 #[.agg #[.slice a len cap,.int .i64 d]] w fun e w'=>e=.returned (.bool (Num.dn d l))/\Below w.heap.size w w':=by
 have HLEN:Hid (len=l.length):=hi.1;by_cases h0:1<=d
 ·by_cases h1:d<=1073741824
  ·have h1':Num.aB 1073741824 [d]=true:=by rw [Num.aW];simp;omega
   by_cases h2:Num.aB 1073741824 l=true
   ·by_cases h3:len<=8
    ·have HF:Hid (Num.dn d l=((Num.gl d l:Int) == 1)):=by show _=_;unfold Num.dn;rw [Num.Ck d l h0 h1' h2];have hl:l.length<=8:=(by have:=HLEN.out;omega);simp [hl]
     have Cr:Hid _:=Num.aJ _ _ h2 (by omega);clear h1';go_enter Tryz.func133,Tryz.ntmps133;go_wp2_with fail;refine (gp _ _ _ _ l _ (hi.below (B:=w.heap.size) ((Below.refl _ _).alloc (Nat.le_refl _) _) (Nat.le_refl _)) (by omega) (by omega) (by omega)).mono ?_;rintro e w' ⟨rfl,rfl⟩;go_wp2_with fail;refine (Ct d _ _ _ l _ (hi.below (B:=w.heap.size) ((Below.refl _ _).alloc (Nat.le_refl _) _) (Nat.le_refl _)) (by omega) (by omega) (fun j=>by have:=Cr.out j;omega)).mono ?_;rintro e w' ⟨rfl,rfl⟩;go_wp2_with fail;go_ret;exact ⟨aK HF.out.symm,(Below.refl _ _).alloc (Nat.le_refl _) _⟩
    ·have HF:Hid (Num.dn d l=false):=by show _=_;unfold Num.dn;have hl:¬ l.length<=8:=(by have:=HLEN.out;omega);simp [hl]
     clear h1';go_enter Tryz.func133,Tryz.ntmps133;go_wp2_with fail;refine (gp _ _ _ _ l _ (hi.below (B:=w.heap.size) ((Below.refl _ _).alloc (Nat.le_refl _) _) (Nat.le_refl _)) (by omega) (by omega) (by omega)).mono ?_;rintro e w' ⟨rfl,rfl⟩;have h3':decide ((len:Int)<=8)=false:=by simp;omega
     go_wp2_with fail;go_ret;exact ⟨aK HF.out.symm,(Below.refl _ _).alloc (Nat.le_refl _) _⟩
   ·have h2':Num.aB 1073741824 l=false:=by simpa using h2
    have HF:Hid (Num.dn d l=false):=by unfold Num.dn;rw [Num.N8 d l h2'];rfl
    clear h1' h2;go_enter Tryz.func133,Tryz.ntmps133;go_wp2_with fail;refine (gp _ _ _ _ l _ (hi.below (B:=w.heap.size) ((Below.refl _ _).alloc (Nat.le_refl _) _) (Nat.le_refl _)) (by omega) (by omega) (by omega)).mono ?_;rintro e w' ⟨rfl,rfl⟩;go_wp2_with fail;go_ret;exact ⟨aK HF.out.symm,(Below.refl _ _).alloc (Nat.le_refl _) _⟩
  ·have HF:Hid (Num.dn d l=false):=by unfold Num.dn;rw [Num.N7 d l (by rw [Num.aW];simp;omega)];rfl
   have h1':decide (d<=1073741824)=false:=by simpa using h1
   go_enter Tryz.func133,Tryz.ntmps133;go_wp2_with fail;go_ret;exact ⟨aK HF.out.symm,(Below.refl _ _).alloc (Nat.le_refl _) _⟩
 ·have HF:Hid (Num.dn d l=false):=by unfold Num.dn;rw [Num.JP d l h0];rfl
  have h0':decide (1<=d)=false:=by simpa using h0
  go_enter Tryz.func133,Tryz.ntmps133;go_wp2_with fail;go_ret;exact ⟨aK HF.out.symm,(Below.refl _ _).alloc (Nat.le_refl _) _⟩
theorem Oo (an ad bn bd:Int) (w:World) :
  Calls Tryz.prog 109 #[.agg #[.int .i64 an,.int .i64 ad],.agg #[.int .i64 bn,.int .i64 bd]] w fun e w'=>e=.returned (.bool (Num.bZ ad [an] && (Num.bZ bd [bn] && decide (an*bd < bn*ad))))/\Below w.heap.size w w':=by
 by_cases ha:Num.bZ ad [an]=true
 ·by_cases hb:Num.bZ bd [bn]=true
  ·have A:=Num.fw _ _ ha;have B:=Num.fw _ _ hb;rw [Num.aW] at A B;simp only [Bool.and_eq_true,decide_eq_true_eq] at A B;have b1:=Num.uU an bd 1073741824 (by omega) (by omega) (by omega);have b2:=Num.uU bn ad 1073741824 (by omega) (by omega) (by omega);simp only [show (1073741824:Int)*1073741824=1152921504606846976 from rfl] at b1 b2;have HF:Hid ((Num.bZ ad [an] && (Num.bZ bd [bn] && decide (an*bd < bn*ad)))=decide (an*bd < bn*ad)):=by show _=_;rw [ha,hb];simp
   generalize hp:an*bd=p at *;generalize hq:bn*ad=q at *;have HP:Hid _:=hp;have HQ:Hid _:=hq;clear A B;go_enter Tryz.func109,Tryz.ntmps109;go_wp2_with fail;refine (tK _ _ _).mono ?_;rintro e w1 ⟨rfl,hb1⟩;have c0:w1.cell? ⟨w.heap.size,0,none⟩=some (.int .i64 an):=by rw [hb1.cell (by simp;omega)];go_simp
   have c1:w1.cell? ⟨w.heap.size,1,none⟩=some (.int .i64 ad):=by rw [hb1.cell (by simp;omega)];go_simp
   have c2:w1.cell? ⟨w.heap.size+1,0,none⟩=some (.int .i64 bn):=by rw [hb1.cell (by simp)];go_simp
   have c3:w1.cell? ⟨w.heap.size+1,1,none⟩=some (.int .i64 bd):=by rw [hb1.cell (by simp)];go_simp
   have hz:w.heap.size+1 < w1.heap.size:=by have:=hb1.size;simp at this;omega
   go_wp2_with fail;refine (tK _ _ _).mono ?_;rintro e w2 ⟨rfl,hb2⟩;have d0:w2.cell? ⟨w.heap.size,0,none⟩=some (.int .i64 an):=by rw [hb2.cell (by show _ < _;simp;omega)];exact c0
   have d1:w2.cell? ⟨w.heap.size,1,none⟩=some (.int .i64 ad):=by rw [hb2.cell (by show _ < _;simp;omega)];exact c1
   have d2:w2.cell? ⟨w.heap.size+1,0,none⟩=some (.int .i64 bn):=by rw [hb2.cell (by show _ < _;simp;omega)];exact c2
   have d3:w2.cell? ⟨w.heap.size+1,1,none⟩=some (.int .i64 bd):=by rw [hb2.cell (by show _ < _;simp;omega)];exact c3
   go_wp2_with fail;go_ret;exact ⟨aK HF.out.symm,(mY hb1).trans (hb2.mono (by omega))⟩
  ·have hb':Num.bZ bd [bn]=false:=by simpa using hb
   have HF:Hid ((Num.bZ ad [an] && (Num.bZ bd [bn] && decide (an*bd < bn*ad)))=false):=by show _=_;rw [ha,hb'];simp
   clear hb;go_enter Tryz.func109,Tryz.ntmps109;go_wp2_with fail;refine (tK _ _ _).mono ?_;rintro e w1 ⟨rfl,hb1⟩;have c2:w1.cell? ⟨w.heap.size+1,0,none⟩=some (.int .i64 bn):=by rw [hb1.cell (by simp)];go_simp
   have c3:w1.cell? ⟨w.heap.size+1,1,none⟩=some (.int .i64 bd):=by rw [hb1.cell (by simp)];go_simp
   have hz:w.heap.size+1 < w1.heap.size:=by have:=hb1.size;simp at this;omega
   go_wp2_with fail;refine (tK _ _ _).mono ?_;rintro e w2 ⟨rfl,hb2⟩;go_wp2_with fail;go_ret;exact ⟨aK HF.out.symm,(mY hb1).trans (hb2.mono (by omega))⟩
 ·have ha':Num.bZ ad [an]=false:=by simpa using ha
  have HF:Hid ((Num.bZ ad [an] && (Num.bZ bd [bn] && decide (an*bd < bn*ad)))=false):=by show _=_;rw [ha'];simp
  clear ha;go_enter Tryz.func109,Tryz.ntmps109;go_wp2_with fail;refine (tK _ _ _).mono ?_;rintro e w1 ⟨rfl,hb1⟩;go_wp2_with fail;go_ret;exact ⟨aK HF.out.symm,mY hb1⟩
open Go.RowKit
theorem Tryz.ja:(Tryz.prog.info? 2).map (fun i=>(i.zero,i.size,i.bytes))=some (some (.int .i64 0),1,8):=by kernel_rfl
theorem AU (d:Int) (a:Option Addr) (len cap:Nat) (l:List Int) (w:World) (hi:Ints w a len l) (hlen:len<=9223372036854775807) (h:((Num.low d l).2 == 0)=false) :
  Calls Tryz.prog 59 #[.slice a len cap,.int .i64 d] w fun e w'=>e=.returned (.tuple #[.agg #[.slice none 0 0,.int .i64 0],.int .i64 (Num.low d l).2])/\Below w.heap.size w w':=by
 have h':((Num.low d l).2 != 0)=true:=by simpa using h
 generalize hx:(Num.low d l).2=x at *;have HX:Hid _:=hx;clear hx;go_enter Tryz.func59,Tryz.ntmps59;go_wp2_with fail;refine (kX d _ _ _ l _ (hi.below (B:=w.heap.size) ((Below.refl _ _).alloc (Nat.le_refl _) _) (Nat.le_refl _)) (by omega)).mono ?_;rintro e w' ⟨rfl,hb⟩;rw [HX.out];generalize (Num.low d l).1=y at *;have c0:w'.cell? ⟨w.heap.size,0,none⟩=some (.slice none 0 0):=by rw [hb.cell (by simp)];go_simp
 have c1:w'.cell? ⟨w.heap.size,1,none⟩=some (.int .i64 0):=by rw [hb.cell (by simp)];go_simp
 have f0:w'.frozen? ⟨w.heap.size,0,none⟩=false:=by rw [hb.frozen (by simp)];go_simp
 have f1:w'.frozen? ⟨w.heap.size,1,none⟩=false:=by rw [hb.frozen (by simp)];go_simp
 go_wp2_with fail;exact bodyPost_ret (v:=.tuple #[.agg #[.slice none 0 0,.int .i64 0],.int .i64 x]) (by simp [results,Tryz.results59,go_sem,c0,c1]) rfl ⟨rfl,((dN hb).setCell (Nat.le_refl _) _).setCell (Nat.le_refl _) _⟩
def Fz (w:World) (a:Option Addr) : Prop:=∀g,a=some ⟨g,0,none⟩->g < w.heap.size/\∀j,w.frozen? ⟨g,j,none⟩=false
theorem Fz.below {w w':World} {a:Option Addr} (h:Fz w a) (hb:Below w.heap.size w w') : Fz w' a:=fun g e =>
 ⟨Nat.lt_of_lt_of_le (h g e).1 hb.size,fun j=>by rw [hb.frozen (p:=⟨g,j,none⟩) (h g e).1];exact (h g e).2 j⟩
theorem Fz.set {w:World} {a:Option Addr} (h:Fz w a) (p:Addr) (v:Value) : Fz (w.setCell p v) a:=fun g e =>
 ⟨by simpa using (h g e).1,fun j=>by simpa using (h g e).2 j⟩
theorem Fz.nil (w:World) : Fz w none:=fun _ e=>by cases e
theorem Fz.own {w:World} {base:Nat} {t:TypeId} {g n cap:Nat} {xs:List Value} (h:w.ownsRow base t 1 (.slice (some ⟨g,0,none⟩) n cap) n xs) : Fz w (some ⟨g,0,none⟩):=fun g' e=>by
 cases e;exact ⟨(h.lt g rfl).2,fun j=>h.frozenAt j⟩
theorem Eg (d:Int) (a:Option Addr) (len cap:Nat) (l:List Int) (w:World) (hi:Ints w a len l) (h:(Num.low d l).2=0) :
  Calls Tryz.prog 59 #[.slice a len cap,.int .i64 d] w fun e w'=>∃g,e=.returned (.tuple #[.agg #[.slice (some ⟨g,0,none⟩) len len,.int .i64 (d.tdiv (Num.bX d l))],.int .i64 0])/\
   Ints w' (some ⟨g,0,none⟩) len (l.map fun n=>n.tdiv (Num.bX d l))/\Below w.heap.size w w'/\w.heap.size<=g/\Fz w' (some ⟨g,0,none⟩):=by
 obtain ⟨e1,h0,⟨hd1,hd2⟩,hl,XM,_⟩:=Num.G7 d l h;have hlen:len<=8:=by have:=hi.1;omega
 have hy:=Num.Cj d l h0 hd1 hd2;have HN:Hid _:=Num.aJ _ _ hl (by omega);have HX:Hid _:=h;have HE:Hid _:=e1;have HL:Hid (len=l.length):=hi.1;clear h e1 hl XM;generalize Num.bX d l=y at *;have hy0:(y == 0)=false:=by simpa using hy.1
 have q2:=Num.fu d y;have hw2:wrap64 (d.tdiv y)=d.tdiv y:=IntWalk.wrap64_in _ (by omega);clear q2;obtain ⟨_,hy1,hy2⟩:=hy;obtain ⟨i0,hif,hz0,hz1,hz2⟩:=info_parts Tryz.ja;go_enter Tryz.func59,Tryz.ntmps59;go_wp2_with fail;refine (kX d _ _ _ l _ (hi.below (B:=w.heap.size) ((Below.refl _ _).alloc (Nat.le_refl _) _) (Nat.le_refl _)) (by omega)).mono ?_;rintro e w2 ⟨rfl,hb⟩;rw [HX.out,HE.out];go_wp2_with (at_make;refine wpList_make_full _ rfl (.tmp 22) (.tmp 22) 25 rfl w2.heap.size 2 i0 (.int .i64 0) 1 Tryz.underlying25 hif hz0 hz1 .i64 .i64 _ _ len rfl rfl rfl rfl (by rw [hz2];omega) (by unfold maxLen;omega) (Nat.le_refl _) ?_;intro w3 hown hgrow);have hb3:Below (w.alloc (.cells #[.slice none 0 0,.int .i64 0] 64)).heap.size (w.alloc (.cells #[.slice none 0 0,.int .i64 0] 64)) w3 :=
  hb.grown hgrow hb.size (fun k hk=>by cases hk)
 have ax8:=hgrow.size;have hown':∃xs:List Value,xs.length=len/\w3.ownsRow w2.heap.size 2 1 (.slice (some ⟨w2.heap.size,0,none⟩) len len) len xs:=⟨_,by have:=hown.1;omega,hown⟩;clear hown hgrow;go_loopw [26] (fun i wr=>∃(k:Nat) (xs:List Value),k<=len/\i=.int .i64 k/\xs.length=len/\wr.ownsRow w2.heap.size 2 1 (.slice (some ⟨w2.heap.size,0,none⟩) len len) len xs/\
   (∀j,j < k->xs[j]? = some (.int .i64 ((l[j]?.getD 0).tdiv y)))/\Below (w.alloc (.cells #[.slice none 0 0,.int .i64 0] 64)).heap.size (w.alloc (.cells #[.slice none 0 0,.int .i64 0] 64)) wr) (fun i _=>len - (intOf i).toNat)
 case atStart =>obtain ⟨xs,h1,h2⟩:=hown';exact ⟨0,xs,Nat.zero_le _,rfl,h1,h2,fun j hj=>absurd hj (Nat.not_lt_zero _),hb3⟩
 case round =>
  obtain ⟨k,xs,hk,rfl,hxl,hown,hxs,hbl⟩:=hrel;have HXS:Hid _:=hxs;have xA:Hid _:=hxl;clear hxs hxl hown' hb3;by_cases hlt:k < len
  ·have hck:∃b off,a=some ⟨b,off,none⟩/\wr.cell? ⟨b,off+k,none⟩=some (.int .i64 (l[k]?.getD 0)):=by
    rcases hi.2 with h|⟨b,off,ha,hbs,hc⟩
    ·omega
    ·refine ⟨b,off,ha,?_⟩;rw [hbl.cell (p:=⟨b,off+k,none⟩) (by simp;omega),((Below.refl _ _).alloc (Nat.le_refl _) _).cell (p:=⟨b,off+k,none⟩) hbs];exact hc k hlt
   obtain ⟨b,off,ha,hck⟩:=hck;have hx:=HN.out k;generalize hxv:l[k]?.getD 0=x at hck hx;have HV:Hid _:=hxv;clear hxv;have q1:=Num.fu x y;have hw1:wrap64 (x.tdiv y)=x.tdiv y:=IntWalk.wrap64_in _ (by omega);clear q1;obtain ⟨u,hu⟩ : ∃u,wr.cell? ⟨w2.heap.size,k,none⟩=some u:=by have:=hown.cellAt k (by omega);rw [this];exact ⟨_,List.getElem?_eq_getElem (by have:=xA.out;omega)⟩
   have hf:=hown.frozenAt k;have hst:=hown.stored k (.int .i64 (x.tdiv y));have HST:Hid _:=hst;have uX:Hid _:=hb.size;clear hst hown;subst ha;clear hi;go_wp2_with fail;go_roundw
   case rel =>
    refine ⟨k+1,xs.set k (.int .i64 (x.tdiv y)),by omega,by go_num,by simpa using xA.out,HST.out.1,?_,hbl.grown HST.out.2 hbl.size (fun k hk=>?_)⟩
    ·intro j hj;by_cases hjk:j=k
     ·subst hjk;rw [HV.out,List.getElem?_set_self (by have:=xA.out;omega)]
     ·rw [List.getElem?_set_ne (by omega)];exact HXS.out j (by omega)
    ·cases hk;exact uX.out
   case measure=>simp [intOf];omega
  ·have c0:wr.cell? ⟨w.heap.size,0,none⟩=some (.slice none 0 0):=by rw [hbl.cell (by simp)];go_simp
   have c1:wr.cell? ⟨w.heap.size,1,none⟩=some (.int .i64 0):=by rw [hbl.cell (by simp)];go_simp
   have f0:wr.frozen? ⟨w.heap.size,0,none⟩=false:=by rw [hbl.frozen (by simp)];go_simp
   have f1:wr.frozen? ⟨w.heap.size,1,none⟩=false:=by rw [hbl.frozen (by simp)];go_simp
   have hsz:w.heap.size < w2.heap.size:=by have:=hb.size;simp at this;omega
   have HO:Hid _:=hown;clear hown hi;go_wp2_with fail;refine bodyPost_ret (v:=.tuple #[.agg #[.slice (some ⟨w2.heap.size,0,none⟩) len len,.int .i64 (d.tdiv y)],.int .i64 0]) (by simp [results,Tryz.results59,go_sem,c0,c1]) rfl ⟨w2.heap.size,rfl,?_,((dN hbl).setCell (Nat.le_refl _) _).setCell (Nat.le_refl _) _,by omega,Fz.own (ownsRow_setCell_below (ownsRow_setCell_below HO.out hsz _) hsz _)⟩;have hke:k=len:=by omega
   subst hke;exact Ints.Ef (ownsRow_setCell_below (ownsRow_setCell_below HO.out hsz _) hsz _) (by have:=HL.out;simpa using this) (fun j hj=>by rw [Num.pM _ (by simp)];exact HXS.out j hj)
theorem LF (d:Int) (a:Option Addr) (len cap:Nat) (l:List Int) (w:World) (hi:Ints w a len l) (hlen:len<=9223372036854775807) (m:List Int) (y z:Int) (h:Num.pt l d=(m,y,z)) :
  Calls Tryz.prog 59 #[.slice a len cap,.int .i64 d] w fun e w'=>∃a' n' c',e=.returned (.tuple #[.agg #[.slice a' n' c',.int .i64 y],.int .i64 z])/\Ints w' a' n' m/\n'<=len/\Below w.heap.size w w'/\(n'=0\/∃g,a'=some ⟨g,0,none⟩/\w.heap.size<=g):=by
 unfold Num.pt at h;by_cases h0:(Num.low d l).2=0
 ·rw [if_pos h0] at h;simp only [Prod.mk.injEq] at h;obtain ⟨rfl,rfl,rfl⟩:=h;refine (Eg d a len cap l w hi h0).mono ?_;rintro e w' ⟨g,rfl,h1,h2,h3,_⟩;exact ⟨_,_,_,rfl,h1,Nat.le_refl _,h2,Or.inr ⟨g,rfl,h3⟩⟩
 ·rw [if_neg h0] at h;simp only [Prod.mk.injEq] at h;obtain ⟨rfl,rfl,rfl⟩:=h;refine (AU d a len cap l w hi hlen (by simpa using h0)).mono ?_;rintro e w' ⟨rfl,h2⟩;exact ⟨_,_,_,rfl,⟨rfl,Or.inl rfl⟩,Nat.zero_le _,h2,Or.inl rfl⟩
open Go.RowKit
theorem Ha (d:Int) (a:Option Addr) (len cap:Nat) (l:List Int) (w:World) (hi:Ints w a len l) (hlen:len<=9223372036854775807)
  (hbad:d=0\/Num.aB 4611686018427387904 l=false\/Num.aB 4611686018427387904 [d]=false) :
  Calls Tryz.prog 100 #[.slice a len cap,.int .i64 d] w fun e w'=>e=.returned (.tuple #[.agg #[.slice none 0 0,.int .i64 0],.int .i64 3])/\Below w.heap.size w w':=by
 by_cases hd0:d=0
 ·subst hd0;go_enter Tryz.func100,Tryz.ntmps100;go_wp2_with fail;exact bodyPost_ret (v:=.tuple #[.agg #[.slice none 0 0,.int .i64 0],.int .i64 3]) (by simp [results,Tryz.results100,go_sem]) rfl ⟨rfl,(Below.refl _ _).alloc (Nat.le_refl _) _⟩
 have XK:(d == 0)=false:=by simpa using hd0
 by_cases hl:Num.aB 4611686018427387904 l=false
 ·go_enter Tryz.func100,Tryz.ntmps100;go_wp2_with fail;refine (gp _ _ _ _ l _ (hi.below (B:=w.heap.size) ((Below.refl _ _).alloc (Nat.le_refl _) _) (Nat.le_refl _)) (by omega) (by omega) (by omega)).mono ?_;rintro e w' ⟨rfl,rfl⟩;go_wp2_with fail;exact bodyPost_ret (v:=.tuple #[.agg #[.slice none 0 0,.int .i64 0],.int .i64 3]) (by simp [results,Tryz.results100,go_sem]) rfl ⟨rfl,(Below.refl _ _).alloc (Nat.le_refl _) _⟩
 have hl':Num.aB 4611686018427387904 l=true:=by simpa using hl
 have hd:Num.aB 4611686018427387904 [d]=false:=by
  rcases hbad with h|h|h
  ·exact absurd h hd0
  ·exact absurd h hl
  ·exact h
 clear hl hbad;go_enter Tryz.func100,Tryz.ntmps100;go_wp2_with fail;refine (gp _ _ _ _ l _ (hi.below (B:=w.heap.size) ((Below.refl _ _).alloc (Nat.le_refl _) _) (Nat.le_refl _)) (by omega) (by omega) (by omega)).mono ?_;rintro e w' ⟨rfl,rfl⟩;go_wp2_with fail;refine (gp _ _ _ _ [d] _ (Ints.newAt (by simp) _ _) (by omega) (by omega) (by omega)).mono ?_;rintro e w' ⟨rfl,rfl⟩;go_wp2_with fail;exact bodyPost_ret (v:=.tuple #[.agg #[.slice none 0 0,.int .i64 0],.int .i64 3]) (by simp [results,Tryz.results100,go_sem]) rfl ⟨rfl,((Below.refl _ _).alloc (Nat.le_refl _) _).alloc (by simp) _⟩
def XN (w W0:World) (l:List Int) (len:Nat) (y0 D:Int) (i:Value) (wr:World) : Prop :=
 ∃(k:Nat) (v:Value),k<=len/\i=.int .i64 k/\wr.ownsRow (w.heap.size+3) 2 1 v k ((l.take k).map fun n=>Value.int .i64 (n.tdiv y0))/\
   wr.cell? ⟨w.heap.size+1+1,0,none⟩=some v/\wr.cell? ⟨w.heap.size+1+1,1,none⟩=some (.int .i64 D)/\wr.frozen? ⟨w.heap.size+1+1,0,none⟩=false/\
   w.heap.size+3<=wr.heap.size/\Below (w.heap.size+2) W0 wr
theorem AV {w W0 wr w1:World} {l:List Int} {len k:Nat} {y0 D V:Int} {v v':Value} (hk:k < len) (hkl:k < l.length) (hV:V=(l[k]?.getD 0).tdiv y0)
  (hown':w1.ownsRow (w.heap.size+3) 2 1 v' (k+1) ((l.take k).map (fun n=>Value.int .i64 (n.tdiv y0)) ++ [.int .i64 V])) (hB:Below (w.heap.size+3) wr w1)
  (c0:wr.cell? ⟨w.heap.size+1+1,0,none⟩=some v) (c1:wr.cell? ⟨w.heap.size+1+1,1,none⟩=some (.int .i64 D)) (f0:wr.frozen? ⟨w.heap.size+1+1,0,none⟩=false)
  (hsz:w.heap.size+3<=wr.heap.size) (hbl:Below (w.heap.size+2) W0 wr) :
  XN w W0 l len y0 D (.int .i64 ((k:Int)+1)) (w1.setCell ⟨w.heap.size+1+1,0,none⟩ v'):=by
 have d0:w1.cell? ⟨w.heap.size+1+1,0,none⟩=some v:=by rw [hB.cell (by show _ < _;simp)];exact c0
 have d1:w1.cell? ⟨w.heap.size+1+1,1,none⟩=some (.int .i64 D):=by rw [hB.cell (by show _ < _;simp)];exact c1
 have g0:w1.frozen? ⟨w.heap.size+1+1,0,none⟩=false:=by rw [hB.frozen (by show _ < _;simp)];exact f0
 refine ⟨k+1,v',by omega,by simp,?_,?_,?_,?_,?_,?_⟩
 ·have e:(l.take (k+1)).map (fun n=>Value.int .i64 (n.tdiv y0))=(l.take k).map (fun n=>Value.int .i64 (n.tdiv y0)) ++ [.int .i64 V]:=by rw [List.getElem?_eq_getElem hkl,Option.getD_some] at hV;rw [List.take_succ_eq_append_getElem hkl,List.map_append,hV];simp
  rw [e];exact ownsRow_setCell_below hown' (by show _ < _;simp) _
 ·exact World.cell?_setCell_same' _ _ _ (by rw [d0];rfl)
 ·rw [World.cell?_setCell_other _ _ _ _ (by simp)];exact d1
 ·rw [<-g0];simp
 ·have:=hB.size;simp;omega
 ·exact (hbl.trans (hB.mono (by omega))).setCell (by show _<=_;simp) _
theorem Oq {w:World} {base:Nat} {e:TypeId} {size n c:Nat} {a:Option Addr} {xs:List Value} (h:w.ownsRow base e size (.slice a n c) n xs) : n<=c:=by
 rcases h.2 with ⟨hv,h0⟩|⟨g,cap,cur,hv,h1⟩
 ·omega
 ·simp only [Value.slice.injEq] at hv;obtain ⟨_,_,rfl⟩:=hv;obtain ⟨_,h2⟩:=h1;omega
theorem Hd (d:Int) (a:Option Addr) (len cap:Nat) (l:List Int) (w:World) (hi:Ints w a len l) (Cv:len*8<=140737488351232) (hd0:d≠0)
  (hl:Num.aB 4611686018427387904 l=true) (hd:Num.aB 4611686018427387904 [d]=true) (m:List Int) (y z:Int) (hpt:Num.pt l d=(m,y,z)) :
  Calls Tryz.prog 100 #[.slice a len cap,.int .i64 d] w fun e w'=>∃a' n' c',e=.returned (.tuple #[.agg #[.slice a' n' c',.int .i64 y],.int .i64 z])/\Ints w' a' n' m/\n'<=len/\Below w.heap.size w w'/\(n'=0\/∃g,a'=some ⟨g,0,none⟩/\w.heap.size<=g)/\n'<=c':=by
 have Rz:=Num.aJ _ _ hd (by omega) 0;simp only [List.length_singleton,Nat.lt_one_iff,getElem?_pos,List.getElem_cons_zero,Option.getD_some] at Rz;have Cr:Hid _:=Num.aJ _ _ hl (by omega);rw [Num.UC l d hd0 hl hd] at hpt;have hg0:=Num.rQ d l hd0;have hg1:=Num.JO d l hd0;have hgn:=Num.LA d l;have hq:=Num.LB d l;have Xm:Hid (Num.bX d l=if d < 0 then -(Num.gl d l:Int) else (Num.gl d l:Int)):=rfl;generalize Num.bX d l=y0 at *;generalize Num.gl d l=g at *;have hwD:wrap64 ((d.natAbs:Int) / (g:Int))=d.tdiv y0:=by rw [<-hq];have:=Num.fu d y0;exact IntWalk.wrap64_in _ (by omega)
 generalize hD:d.tdiv y0=D at *;have VP:Hid _:=hpt;have HGN:Hid _:=hgn;have HQ:Hid _:=hq;have HL:Hid (len=l.length):=hi.1;have XK:(d == 0)=false:=by simpa using hd0
 clear hpt hgn hq hD;obtain ⟨i0,hif,hz0,hz1,hz2⟩:=info_parts Tryz.ja;go_enter Tryz.func100,Tryz.ntmps100;go_wp2_with fail;refine (gp _ _ _ _ l _ (hi.below (B:=w.heap.size) ((Below.refl _ _).alloc (Nat.le_refl _) _) (Nat.le_refl _)) (by omega) (by omega) (by omega)).mono ?_;rintro e w' ⟨rfl,rfl⟩;go_wp2_with fail;refine (gp _ _ _ _ [d] _ (Ints.newAt (by simp) _ _) (by omega) (by omega) (by omega)).mono ?_;rintro e w' ⟨rfl,rfl⟩;go_wp2_with fail;refine (tL _ _ (by omega)).mono ?_;rintro e w' ⟨rfl,rfl⟩;go_wp2_with fail;refine (tL _ _ (by omega)).mono ?_;rintro e w' ⟨rfl,rfl⟩;go_wp2_with fail;refine (Ct (d.natAbs:Int) _ _ _ l _ (hi.below (B:=w.heap.size) (((Below.refl _ _).alloc (Nat.le_refl _) _).alloc (by simp) _) (Nat.le_refl _)) (by omega) (by omega) Cr.out).mono ?_;rintro e w' ⟨rfl,rfl⟩;rw [HGN.out];go_wp2_with fail;generalize hW0:(w.alloc (.cells #[.slice none 0 0,.int .i64 0] 64)).alloc (.cells #[.int .i64 d] 2)=W0;have ab9:W0.heap.size=w.heap.size+2:=by rw [<-hW0];simp
 have hbw:Below w.heap.size w W0:=by rw [<-hW0];exact ((Below.refl _ _).alloc (Nat.le_refl _) _).alloc (by simp) _
 have r0:W0.cell? ⟨w.heap.size,0,none⟩=some (.slice none 0 0):=by rw [<-hW0,(((Below.refl (w.alloc (.cells #[.slice none 0 0,.int .i64 0] 64)).heap.size _).alloc (Nat.le_refl _) _)).cell (by simp)];go_simp
 have r1:W0.cell? ⟨w.heap.size,1,none⟩=some (.int .i64 0):=by rw [<-hW0,(((Below.refl (w.alloc (.cells #[.slice none 0 0,.int .i64 0] 64)).heap.size _).alloc (Nat.le_refl _) _)).cell (by simp)];go_simp
 have s0:W0.frozen? ⟨w.heap.size,0,none⟩=false:=by rw [<-hW0,(((Below.refl (w.alloc (.cells #[.slice none 0 0,.int .i64 0] 64)).heap.size _).alloc (Nat.le_refl _) _)).frozen (by simp)];go_simp
 have s1:W0.frozen? ⟨w.heap.size,1,none⟩=false:=by rw [<-hW0,(((Below.refl (w.alloc (.cells #[.slice none 0 0,.int .i64 0] 64)).heap.size _).alloc (Nat.le_refl _) _)).frozen (by simp)];go_simp
 have RA:Hid _:=hwD;clear hW0 hwD;go_loopw [8] (fun i wr=>XN w W0 l len y0 D i wr) (fun i _=>len - (intOf i).toNat)
 case atStart =>
  have hwD:=RA.out;refine ⟨0,.slice none 0 0,Nat.zero_le _,rfl,World.ownsRow_nil _ _ _ _,?_,?_,?_,?_,?_⟩
  ·rw [<-show W0.heap.size=w.heap.size+1+1 by omega];go_simp
  ·rw [<-show W0.heap.size=w.heap.size+1+1 by omega];go_simp
  ·rw [<-show W0.heap.size=w.heap.size+1+1 by omega];go_simp
  ·simp;omega
  ·rw [<-ab9];exact (Below.refl _ _).alloc (Nat.le_refl _) _
 case round =>
  obtain ⟨k,v,hk,rfl,hown,c0,c1,f0,hsz,hbl⟩:=hrel;have VQ:Below w.heap.size w wr:=hbw.trans (hbl.mono (by omega));by_cases hlt:k < len
  ·have hck:∃b off,a=some ⟨b,off,none⟩/\wr.cell? ⟨b,off+k,none⟩=some (.int .i64 (l[k]?.getD 0)):=by
    rcases hi.2 with h|⟨b,off,ha,hbs,hc⟩
    ·omega
    ·refine ⟨b,off,ha,?_⟩;rw [VQ.cell (p:=⟨b,off+k,none⟩) hbs];exact hc k hlt
   obtain ⟨b,off,ha,hck⟩:=hck;have hx:=Cr.out k;generalize hxv:l[k]?.getD 0=x at hck hx;have HV:Hid _:=hxv;clear hxv;have HI:Hid _:=hi;have HO:Hid _:=hown;clear hi hown;subst ha;have HS:∀W:World,Calls Tryz.prog 131 #[.int .i64 d] W fun e w'=>e=.returned (.int .i64 (d.natAbs:Int))/\w'=W:=fun W=>tL d W (by omega);have KS:Hid _:=HS;have HA:∀W:World,Below w.heap.size w W->Calls Tryz.prog 132 #[.slice (some ⟨b,off,none⟩) len cap,.int .i64 (d.natAbs:Int)] W fun e w'=>e=.returned (.int .i64 (g:Int))/\w'=W:=by intro W hW;rw [<-HGN.out];exact Ct (d.natAbs:Int) _ _ _ l _ (Ints.below HI.out hW (Nat.le_refl _)) (by omega) (by omega) Cr.out
   have KA:Hid _:=HA;clear HS HA;go_wp2_with fail;go_quiet ((first|(go_at_call 131;exact Calls.quiet_of_same (KS.out _))|(go_at_call 132;exact Calls.quiet_of_same (KA.out _ (iZ VQ _)))));have q1:=Num.fu x g;have hkl:k < l.length:=by have:=HL.out;omega
   by_cases hneg:d < 0
   ·have hwn:wrap64 (-x.tdiv ↑g)=-x.tdiv ↑g:=IntWalk.wrap64_in _ (by omega);have ax9:wrap64 (0 - x.tdiv ↑g)=-x.tdiv ↑g:=by rw [Int.zero_sub];exact hwn
    go_wp2_with (at_builtin;refine wpList_append_own _ rfl (.tmp 54) (.tmp 56) 25 rfl (w.heap.size+3) 2 i0 (.int .i64 0) 1 8 Tryz.underlying25 hif hz0 hz1 hz2 rfl (by decide) _ _ _ rfl (by exact World.ownsRow.alloc HO.out _) ⟨wr.heap.size,0,none⟩ 1 1 [.int .i64 (-x.tdiv ↑g)] rfl rfl ?Sk ?Sl ?Sm ?Sn ?Sr ?_)
    case Sk=>first|exact eu rfl _ _|exact dQ rfl _ _
    case Sl=>first|rfl|(intro u hu;simp at hu;subst hu;rfl)
    case Sm=>unfold maxLen;omega
    case Sn=>omega
    case Sr=>first|omega|(simp;omega)
    intro v' w1 hown' hgrow _;rw [<-List.map_take] at hown';obtain ⟨a',c',hv'⟩:=dW hown';subst hv';have hB:Below (w.heap.size+3) wr w1:=Below.grown (by exact (iZ (Below.refl _ _) _).alloc hsz _) hgrow (by simp;omega) (fun j hj=>(World.ownsRow.lt HO.out j hj).1);have R:Hid _:=AV (l:=l) (y0:=y0) (V := -x.tdiv ↑g) hlt hkl (by rw [HV.out,Xm.out,if_pos hneg]<;>simp) hown' hB c0 c1 f0 hsz hbl;have d0:w1.cell? ⟨w.heap.size+1+1,0,none⟩=some v:=by rw [hB.cell (by show _ < _;simp)];exact c0
    have g0:w1.frozen? ⟨w.heap.size+1+1,0,none⟩=false:=by rw [hB.frozen (by show _ < _;simp)];exact f0
    clear hown' hgrow c0 c1 f0;go_wp2_with fail;go_roundw
    case rel=>first|exact R.out|((repeat apply Exists.intro);exact ⟨R.out,rfl⟩)
    case measure=>simp [intOf];omega
   ·go_wp2_with (at_builtin;refine wpList_append_own _ rfl (.tmp 54) (.tmp 56) 25 rfl (w.heap.size+3) 2 i0 (.int .i64 0) 1 8 Tryz.underlying25 hif hz0 hz1 hz2 rfl (by decide) _ _ _ rfl (by exact World.ownsRow.alloc HO.out _) ⟨wr.heap.size,0,none⟩ 1 1 [.int .i64 (x.tdiv ↑g)] rfl rfl ?cp1 ?cp2 ?cp3 ?cp4 ?cp5 ?_)
    case cp1=>first|exact eu rfl _ _|exact dQ rfl _ _
    case cp2=>first|rfl|(intro u hu;simp at hu;subst hu;rfl)
    case cp3=>unfold maxLen;omega
    case cp4=>omega
    case cp5=>first|omega|(simp;omega)
    intro v' w1 hown' hgrow _;rw [<-List.map_take] at hown';obtain ⟨a',c',hv'⟩:=dW hown';subst hv';have hB:Below (w.heap.size+3) wr w1:=Below.grown (by exact (iZ (Below.refl _ _) _).alloc hsz _) hgrow (by simp;omega) (fun j hj=>(World.ownsRow.lt HO.out j hj).1);have R:Hid _:=AV (l:=l) (y0:=y0) (V:=x.tdiv ↑g) hlt hkl (by rw [HV.out,Xm.out,if_neg (by omega)]) hown' hB c0 c1 f0 hsz hbl;have d0:w1.cell? ⟨w.heap.size+1+1,0,none⟩=some v:=by rw [hB.cell (by show _ < _;simp)];exact c0
    have g0:w1.frozen? ⟨w.heap.size+1+1,0,none⟩=false:=by rw [hB.frozen (by show _ < _;simp)];exact f0
    clear hown' hgrow c0 c1 f0;go_wp2_with fail;go_roundw
    case rel=>first|exact R.out|((repeat apply Exists.intro);exact ⟨R.out,rfl⟩)
    case measure=>simp [intOf];omega
  ·have hke:k=len:=by omega
   subst hke;have hmap:(l.take k).map (fun n=>Value.int .i64 (n.tdiv y0))=(l.map fun n=>n.tdiv y0).map (Value.int .i64):=by rw [HL.out,List.take_length,List.map_map];rfl
   rw [hmap] at hown;obtain ⟨a',c',hv,hints,ku⟩:=Ints.jr hown (by rw [List.length_map];exact HL.out);have HCAP:Hid (k<=c'):=by rw [hv] at hown;exact Oq hown
   have HI:Hid _:=hints;have hp0:wr.cell? ⟨w.heap.size,0,none⟩=some (.slice none 0 0):=by rw [hbl.cell (by show _ < _;simp)];exact r0
   have hp1:wr.cell? ⟨w.heap.size,1,none⟩=some (.int .i64 0):=by rw [hbl.cell (by show _ < _;simp)];exact r1
   have hq0:wr.frozen? ⟨w.heap.size,0,none⟩=false:=by rw [hbl.frozen (by show _ < _;simp)];exact s0
   have hq1:wr.frozen? ⟨w.heap.size,1,none⟩=false:=by rw [hbl.frozen (by show _ < _;simp)];exact s1
   clear hints hown hmap hi;subst hv;go_wp2_with fail;refine (Cu D _ _ _ (l.map fun n=>n.tdiv y0) _ (by exact HI.out) (by omega)).mono ?_;rintro e w2 ⟨rfl,hb2⟩;have e0:w2.cell? ⟨w.heap.size,0,none⟩=some (.slice none 0 0):=by rw [hb2.cell (p:=⟨w.heap.size,0,none⟩) (by dsimp only;omega)];exact hp0
   have e1:w2.cell? ⟨w.heap.size,1,none⟩=some (.int .i64 0):=by rw [hb2.cell (p:=⟨w.heap.size,1,none⟩) (by dsimp only;omega)];exact hp1
   have e2:w2.cell? ⟨w.heap.size+1+1,0,none⟩=some (.slice a' k c'):=by rw [hb2.cell (p:=⟨w.heap.size+1+1,0,none⟩) (by dsimp only;omega)];exact c0
   have e3:w2.cell? ⟨w.heap.size+1+1,1,none⟩=some (.int .i64 D):=by rw [hb2.cell (p:=⟨w.heap.size+1+1,1,none⟩) (by dsimp only;omega)];exact c1
   have g0:w2.frozen? ⟨w.heap.size,0,none⟩=false:=by rw [hb2.frozen (p:=⟨w.heap.size,0,none⟩) (by dsimp only;omega)];exact hq0
   have g1:w2.frozen? ⟨w.heap.size,1,none⟩=false:=by rw [hb2.frozen (p:=⟨w.heap.size,1,none⟩) (by dsimp only;omega)];exact hq1
   have hI2:Hid _:=Ints.below HI.out hb2 (Nat.le_refl _);have hb3:Below w.heap.size w w2:=VQ.trans (hb2.mono (by omega));have HB2:Hid _:=hb2;clear hp0 hp1 hq0 hq1 c0 c1 r0 r1 s0 s1 f0 hb2;cases hmp:Num.dn D (l.map fun n=>n.tdiv y0) with
   | true =>have hpt:=VP.out;rw [hmp] at hpt;simp only [if_true,Prod.mk.injEq] at hpt;obtain ⟨rfl,rfl,rfl⟩:=hpt;clear hmp;go_wp2_with fail;refine bodyPost_ret (v:=.tuple #[.agg #[.slice a' k c',.int .i64 D],.int .i64 0]) (by simp [results,Tryz.results100,go_sem,e0,e1]) rfl ⟨a',k,c',rfl,?_,Nat.le_refl _,(hb3.setCell (Nat.le_refl _) _).setCell (Nat.le_refl _) _,by rcases ku with h|⟨g,h,h'⟩;exact Or.inl h;exact Or.inr ⟨g,h,by omega⟩,HCAP.out⟩;exact Ints.set (Ints.set hI2.out ku (by dsimp only;omega) _) ku (by dsimp only;omega) _
   | false =>have hpt:=VP.out;rw [hmp] at hpt;simp only [Bool.false_eq_true,if_false,Prod.mk.injEq] at hpt;obtain ⟨rfl,rfl,rfl⟩:=hpt;clear hmp;go_wp2_with fail;exact bodyPost_ret (v:=.tuple #[.agg #[.slice none 0 0,.int .i64 0],.int .i64 1]) (by simp [results,Tryz.results100,go_sem,e0,e1]) rfl ⟨none,0,0,rfl,⟨rfl,Or.inl rfl⟩,Nat.zero_le _,(hb3.setCell (Nat.le_refl _) _).setCell (Nat.le_refl _) _,Or.inl rfl,Nat.le_refl _⟩
theorem Eh (d:Int) (a:Option Addr) (len cap:Nat) (l:List Int) (w:World) (hi:Ints w a len l) (Cv:len*8<=140737488351232) (m:List Int) (y z:Int) (hpt:Num.pt l d=(m,y,z)) :
  Calls Tryz.prog 100 #[.slice a len cap,.int .i64 d] w fun e w'=>∃a' n' c',e=.returned (.tuple #[.agg #[.slice a' n' c',.int .i64 y],.int .i64 z])/\Ints w' a' n' m/\n'<=len/\Below w.heap.size w w'/\(n'=0\/∃g,a'=some ⟨g,0,none⟩/\w.heap.size<=g)/\n'<=c':=by
 by_cases hbad:d=0\/Num.aB 4611686018427387904 l=false\/Num.aB 4611686018427387904 [d]=false
 ·rw [Num.VF l d hbad] at hpt;simp only [Prod.mk.injEq] at hpt;obtain ⟨rfl,rfl,rfl⟩:=hpt;refine (Ha d a len cap l w hi (by omega) hbad).mono ?_;rintro e w' ⟨rfl,h2⟩;exact ⟨_,_,_,rfl,⟨rfl,Or.inl rfl⟩,Nat.zero_le _,h2,Or.inl rfl,Nat.zero_le _⟩
 ·simp only [not_or,Bool.not_eq_false] at hbad;exact Hd d a len cap l w hi Cv hbad.1 hbad.2.1 hbad.2.2 m y z hpt
theorem xQ (d:Int) (a:Option Addr) (len cap:Nat) (l:List Int) (w:World) (hi:Ints w a len l) (Cv:len*8<=140737488351232) (m:List Int) (y z:Int) (hpt:Num.pt l d=(m,y,z)) :
  Calls Tryz.prog 100 #[.slice a len cap,.int .i64 d] w fun e w'=>∃a' n' c',e=.returned (.tuple #[.agg #[.slice a' n' c',.int .i64 y],.int .i64 z])/\Ints w' a' n' m/\n'<=len/\Below w.heap.size w w' :=
 (Eh d a len cap l w hi Cv m y z hpt).mono fun _ _ ⟨a',n',c',h1,h2,h3,h4,_⟩=>⟨a',n',c',h1,h2,h3,h4⟩
open Go.RowKit
theorem LG (n d:Int) (w:World) (x y z:Int) (h:Num.mk n d=(x,y,z)) :
  Calls Tryz.prog 63 #[.int .i64 n,.int .i64 d] w fun e w'=>e=.returned (.tuple #[.agg #[.int .i64 x,.int .i64 y],.int .i64 z])/\Below w.heap.size w w':=by
 by_cases hz:z=0
 ·subst hz;have HP:Hid _:=Num.LD n d x y h;clear h;go_enter Tryz.func63,Tryz.ntmps63;go_wp2_with fail;refine (xQ d _ _ _ [n] _ (Ints.newAt (by simp) _ _) (by omega) _ _ _ HP.out).mono ?_;rintro e w1 ⟨a',n',c',rfl,hints,hn,hb⟩;obtain ⟨hl1,hi1⟩:=hints;simp only [List.length_singleton] at hl1;subst hl1;rcases hi1 with hi1|⟨b,off,ha,hbs,hc⟩
  ·omega
  have hck:=hc 0 (by omega);simp only [List.length_singleton,Nat.lt_one_iff,getElem?_pos,List.getElem_cons_zero,Option.getD_some,Nat.add_zero] at hck;clear hc;subst ha;have c0:w1.cell? ⟨w.heap.size,0,none⟩=some (.int .i64 0):=by rw [hb.cell (by simp;omega)];go_simp
  have c1:w1.cell? ⟨w.heap.size,1,none⟩=some (.int .i64 0):=by rw [hb.cell (by simp;omega)];go_simp
  have f0:w1.frozen? ⟨w.heap.size,0,none⟩=false:=by rw [hb.frozen (by simp;omega)];rw [((Below.refl (w.alloc (.cells #[.int .i64 0,.int .i64 0] 66)).heap.size _).alloc (Nat.le_refl _) _).frozen (by simp)];go_simp
  have f1:w1.frozen? ⟨w.heap.size,1,none⟩=false:=by rw [hb.frozen (by simp;omega)];rw [((Below.refl (w.alloc (.cells #[.int .i64 0,.int .i64 0] 66)).heap.size _).alloc (Nat.le_refl _) _).frozen (by simp)];go_simp
  have hz1:w.heap.size < w1.heap.size:=by have:=hb.size;simp at this;omega
  go_wp2_with fail;go_region;go_wp2_with fail;exact bodyPost_ret (v:=.tuple #[.agg #[.int .i64 x,.int .i64 y],.int .i64 0]) (by simp [results,Tryz.results63,go_sem,c0,c1,hz1]) rfl ⟨rfl,((((mY hb).setCell (Nat.le_refl _) _).setCell (Nat.le_refl _) _).alloc (by simp;omega) _).drew⟩
 ·have hz1:(z != 0)=true:=by simpa using hz
  obtain ⟨hp,rfl,rfl⟩:=Num.rT n d x y z h hz;have HP:Hid _:=hp;clear h hp;go_enter Tryz.func63,Tryz.ntmps63;go_wp2_with fail;refine (xQ d _ _ _ [n] _ (Ints.newAt (by simp) _ _) (by omega) _ _ _ HP.out).mono ?_;rintro e w1 ⟨a',n',c',rfl,hints,hn,hb⟩;have c0:w1.cell? ⟨w.heap.size,0,none⟩=some (.int .i64 0):=by rw [hb.cell (by simp;omega)];go_simp
  have c1:w1.cell? ⟨w.heap.size,1,none⟩=some (.int .i64 0):=by rw [hb.cell (by simp;omega)];go_simp
  have f0:w1.frozen? ⟨w.heap.size,0,none⟩=false:=by rw [hb.frozen (by simp;omega)];rw [((Below.refl (w.alloc (.cells #[.int .i64 0,.int .i64 0] 66)).heap.size _).alloc (Nat.le_refl _) _).frozen (by simp)];go_simp
  have f1:w1.frozen? ⟨w.heap.size,1,none⟩=false:=by rw [hb.frozen (by simp;omega)];rw [((Below.refl (w.alloc (.cells #[.int .i64 0,.int .i64 0] 66)).heap.size _).alloc (Nat.le_refl _) _).frozen (by simp)];go_simp
  have hz2:w.heap.size < w1.heap.size:=by have:=hb.size;simp at this;omega
  clear hints;go_wp2_with fail;exact bodyPost_ret (v:=.tuple #[.agg #[.int .i64 0,.int .i64 0],.int .i64 z]) (by simp [results,Tryz.results63,go_sem,c0,c1,hz2]) rfl ⟨rfl,(((mY hb).setCell (Nat.le_refl _) _).setCell (Nat.le_refl _) _).alloc (by simp;omega) _⟩
open Go.RowKit
theorem Su (a b:Option Addr) (la ca lb cb:Nat) (l m:List Int) (w:World) (A B:Int) (hl:Ints w a la l) (hm:Ints w b lb m) (hle:la<=lb) (hlen:lb<=9223372036854775807)
  (hA:∀j:Nat,-A<=l[j]?.getD 0/\l[j]?.getD 0<=A) (hB:∀j:Nat,-B<=m[j]?.getD 0/\m[j]?.getD 0<=B) (VR:A*B*la<=4611686018427387904) :
  Calls Tryz.prog 25 #[.slice a la ca,.slice b lb cb] w fun e w'=>e=.returned (.int .i64 (Num.dotN l m la))/\∃n,w'=w.drewN n:=by
 have HD:Hid (∀k:Nat,k<=la->-4611686018427387904<=Num.dotN l m k/\Num.dotN l m k<=4611686018427387904):=by intro k hk;have h0:0<=A*B:=Int.mul_nonneg (by have:=hA 0;omega) (by have:=hB 0;omega);have h1:A*B*k<=A*B*la:=Int.mul_le_mul_of_nonneg_left (by omega) h0;have:=Num.jq l m A B hA hB k;omega
 have HP:Hid (∀k:Nat,k < la->-4611686018427387904<=l[k]?.getD 0*m[k]?.getD 0/\l[k]?.getD 0*m[k]?.getD 0<=4611686018427387904):=by intro k hk;have h0:0<=A*B:=Int.mul_nonneg (by have:=hA 0;omega) (by have:=hB 0;omega);have h1:A*B*(1:Int)<=A*B*la:=Int.mul_le_mul_of_nonneg_left (by omega) h0;have:=Num.ko _ _ _ _ (hA k) (hB k);omega
 clear hA hB VR;obtain ⟨hll,hl⟩:=hl;obtain ⟨He,hm⟩:=hm;have HL:Hid (la=l.length):=hll;have HM:Hid (lb=m.length):=He;clear hll He;go_enter Tryz.func25,Tryz.ntmps25;go_wp2;go_loopw [5,6] (fun c i wr=>∃(k:Nat),k<=la/\i=.int .i64 k/\c=.int .i64 (Num.dotN l m k)/\∃n,wr=w.drewN n) (fun _ i _=>la - (intOf i).toNat)
 case atStart=>exact ⟨0,Nat.zero_le _,rfl,rfl,0,rfl⟩
 case round =>
  obtain ⟨k,hk,rfl,rfl,n,rfl⟩:=hrel;by_cases hlt:k < la
  ·rcases hl with h|⟨b1,o1,ha,hb1,hc1⟩
   ·omega
   rcases hm with h|⟨b2,o2,hb,hb2,hc2⟩
   ·omega
   have hck:=hc1 k hlt;have XO:=hc2 k (by omega);clear hc1 hc2;have hp:=HP.out k hlt;have hs0:=HD.out k hk;have hs1:=HD.out (k+1) hlt;have he:Num.dotN l m (k+1)=Num.dotN l m k+l[k]?.getD 0*m[k]?.getD 0:=rfl;rw [he] at hs1;have HE:Hid _:=he;clear he;generalize Num.dotN l m k=s at *;generalize l[k]?.getD 0=x at *;generalize m[k]?.getD 0=y at *;generalize RB:x*y=p at *;have XP:Hid _:=RB;clear RB;subst ha hb;go_wp2;go_region;go_wp2;go_roundw
   case rel=>exact ⟨k+1,hlt,by go_num,by rw [HE.out,XP.out,IntWalk.wrap64_in p (by omega),IntWalk.wrap64_in _ (by omega)],n+1,rfl⟩
   case measure=>simp [intOf];omega
  ·go_wp2;go_ret;have hke:k=la:=by omega
   subst hke;exact ⟨rfl,n,rfl⟩
theorem kY (a b:Option Addr) (la ca lb cb:Nat) (l m:List Int) (w:World) (A B:Int) (hl:Ints w a la l) (hm:Ints w b lb m) (hle:la=lb) (hlen:lb<=9223372036854775807)
  (hA:∀j:Nat,-A<=l[j]?.getD 0/\l[j]?.getD 0<=A) (hB:∀j:Nat,-B<=m[j]?.getD 0/\m[j]?.getD 0<=B) (VR:A*B*la<=4611686018427387904) :
  Calls Tryz.prog 99 #[.slice a la ca,.slice b lb cb] w fun e w'=>e=.returned (.int .i64 (Num.dotN l m la))/\∃n,w'=w.drewN n:=by
 have HD:Hid (∀k:Nat,k<=la->-4611686018427387904<=Num.dotN l m k/\Num.dotN l m k<=4611686018427387904):=by intro k hk;have h0:0<=A*B:=Int.mul_nonneg (by have:=hA 0;omega) (by have:=hB 0;omega);have h1:A*B*k<=A*B*la:=Int.mul_le_mul_of_nonneg_left (by omega) h0;have:=Num.jq l m A B hA hB k;omega
 have HP:Hid (∀k:Nat,k < la->-4611686018427387904<=l[k]?.getD 0*m[k]?.getD 0/\l[k]?.getD 0*m[k]?.getD 0<=4611686018427387904):=by intro k hk;have h0:0<=A*B:=Int.mul_nonneg (by have:=hA 0;omega) (by have:=hB 0;omega);have h1:A*B*(1:Int)<=A*B*la:=Int.mul_le_mul_of_nonneg_left (by omega) h0;have:=Num.ko _ _ _ _ (hA k) (hB k);omega
 clear hA hB VR;obtain ⟨hll,hl⟩:=hl;obtain ⟨He,hm⟩:=hm;have HL:Hid (la=l.length):=hll;have HM:Hid (lb=m.length):=He;clear hll He;subst hle;go_enter Tryz.func99,Tryz.ntmps99;go_wp2;go_loopw [5,12] (fun c i wr=>∃(k:Nat),k<=la/\i=.int .i64 k/\c=.int .i64 (Num.dotN l m k)/\∃n,wr=w.drewN n) (fun _ i _=>la - (intOf i).toNat)
 case atStart=>exact ⟨0,Nat.zero_le _,rfl,rfl,0,rfl⟩
 case round =>
  obtain ⟨k,hk,rfl,rfl,n,rfl⟩:=hrel;by_cases hlt:k < la
  ·rcases hl with h|⟨b1,o1,ha,hb1,hc1⟩
   ·omega
   rcases hm with h|⟨b2,o2,hb,hb2,hc2⟩
   ·omega
   have hck:=hc1 k hlt;have XO:=hc2 k (by omega);clear hc1 hc2;have hp:=HP.out k hlt;have hs0:=HD.out k hk;have hs1:=HD.out (k+1) hlt;have he:Num.dotN l m (k+1)=Num.dotN l m k+l[k]?.getD 0*m[k]?.getD 0:=rfl;rw [he] at hs1;have HE:Hid _:=he;clear he;generalize Num.dotN l m k=s at *;generalize l[k]?.getD 0=x at *;generalize m[k]?.getD 0=y at *;generalize RB:x*y=p at *;have XP:Hid _:=RB;clear RB;subst ha hb;go_wp2;go_region;go_wp2;go_roundw
   case rel=>exact ⟨k+1,hlt,by go_num,by rw [HE.out,XP.out,IntWalk.wrap64_in p (by omega),IntWalk.wrap64_in _ (by omega)],n+1,rfl⟩
   case measure=>simp [intOf];omega
  ·go_wp2;go_ret;have hke:k=la:=by omega
   subst hke;exact ⟨rfl,n,rfl⟩
theorem lF (a:Option Addr) (len cap:Nat) (l:List Int) (w:World) (hi:Ints w a len l) (hlen:len<=9223372036854775807) :
  Calls Tryz.prog 47 #[.int .i64 0,.slice a len cap] w fun e w'=>e=.returned (.bool (Num.bO l))/\w'=w:=by
 obtain ⟨hll,hi⟩:=hi;have HL:Hid (len=l.length):=hll;clear hll;go_enter Tryz.func47,Tryz.ntmps47;go_wp2;go_loop [9] (fun i=>∃k:Nat,k<=len/\i=.int .i64 k/\Num.bO (l.take k)=false) (fun i=>len - (intOf i).toNat)
 case atStart=>exact ⟨0,Nat.zero_le _,rfl,rfl⟩
 case round =>
  obtain ⟨k,hk,rfl,hw⟩:=hrel;have HW:Hid _:=hw;clear hw;by_cases hlt:k < len
  ·rcases hi with hi|⟨b,off,ha,hb,hc⟩
   ·omega
   have hck:=hc k hlt;clear hc;have hs:=Num.nD l k (by have:=HL.out;omega);have hf:=Num.AR l k (by have:=HL.out;omega);generalize l[k]?.getD 0=x at hck hs hf;have HS:Hid _:=hs;have HF:Hid _:=hf;clear hs hf;subst ha;by_cases hx1:x < 0
   ·go_wp2;go_ret;exact ⟨aK (HF.out hx1).symm,rfl⟩
   go_wp2;go_round
   case rel=>exact ⟨k+1,by omega,by go_num,by rw [HS.out,HW.out];simp;omega⟩
   case measure=>simp [intOf];omega
  ·go_wp2;go_ret;have hke:k=l.length:=by have:=HL.out;omega
   refine ⟨aK ?_,rfl⟩;have:=HW.out;rw [hke,List.take_length] at this;exact this.symm
open Go.RowKit
def ay (w:World) (a:Option Addr) (len:Nat) (rs:List (List Int×Int)) : Prop :=
 len=rs.length/\(len=0\/∃b off,a=some ⟨b,off,none⟩/\b < w.heap.size/\∀j,j < len->∃ra rl rc,w.cell? ⟨b,off+j*2,none⟩=some (.slice ra rl rc)/\
  w.cell? ⟨b,off+j*2+1,none⟩=some (.int .i64 (rs[j]?.getD ([],0)).2)/\Ints w ra rl (rs[j]?.getD ([],0)).1/\rl<=9223372036854775807)
theorem ay.below {w w':World} {B:Nat} {a:Option Addr} {len:Nat} {l:List (List Int×Int)} (h:ay w a len l) (hb:Below B w w') (hB:w.heap.size<=B) : ay w' a len l:=by
 obtain ⟨h1,h2⟩:=h;refine ⟨h1,?_⟩;rcases h2 with h2|⟨b,off,ha,hs,hc⟩
 ·exact Or.inl h2
 ·refine Or.inr ⟨b,off,ha,Nat.lt_of_lt_of_le hs hb.size,fun j hj=>?_⟩;obtain ⟨ra,rl,rc,c0,c1,hi,hr⟩:=hc j hj;refine ⟨ra,rl,rc,?_,?_,hi.below hb hB,hr⟩
  ·rw [hb.cell (p:=⟨b,off+j*2,none⟩) (Nat.lt_of_lt_of_le hs hB)];exact c0
  ·rw [hb.cell (p:=⟨b,off+j*2+1,none⟩) (Nat.lt_of_lt_of_le hs hB)];exact c1
theorem af (w:World) (o:Obj) : Below w.heap.size w (w.alloc o):=(Below.refl _ _).alloc (Nat.le_refl _) o
theorem fA (ca:Option Addr) (cl cc:Nat) (ra:Option Addr) (rl rc:Nat) (p:Num.Lp) (w:World) (hc:Ints w ca cl p.costs) (hcl:cl<=9223372036854775807) (hr:ay w ra rl p.rows) (hrl:rl<=9223372036854775807) :
  Calls Tryz.prog 19 #[.agg #[.slice ca cl cc,.slice ra rl rc]] w fun e w'=>e=.returned (.bool p.may)/\Below w.heap.size w w':=by
 have HC:Hid (Ints w ca cl p.costs):=hc;have HL:Hid (cl=p.costs.length):=hc.1;have HR:Hid (rl=p.rows.length):=hr.1;have HRW:Hid (ay w ra rl p.rows):=hr;clear hc hr;by_cases h1:(cl:Int) < 1
 ·have HF:Hid (p.may=false):=p.VG cl HL.out h1;go_enter Tryz.func19,Tryz.ntmps19;go_wp2_with fail;go_ret;exact ⟨aK HF.out.symm,af _ _⟩
 by_cases h2:4 < (cl:Int)
 ·have HF:Hid (p.may=false):=p.VH cl HL.out h2;have h1':decide ((cl:Int) < 1)=false:=by simpa using h1
  go_enter Tryz.func19,Tryz.ntmps19;go_wp2_with fail;go_ret;exact ⟨aK HF.out.symm,af _ _⟩
 have h1':decide ((cl:Int) < 1)=false:=by simpa using h1
 have h2':decide (4 < (cl:Int))=false:=by simpa using h2
 cases h3:Num.aB 400 p.costs with
 | false =>have HF:Hid (p.may=false):=p.XJ h3;go_enter Tryz.func19,Tryz.ntmps19;go_wp2_with fail;refine (bq _ _ _ _ p.costs _ (Ints.below HC.out (af _ _) (Nat.le_refl _)) (by omega) (by omega) (by omega)).mono ?_;rintro e w' ⟨rfl,rfl⟩;rw [h3];go_wp2_with fail;go_ret;exact ⟨aK HF.out.symm,af _ _⟩
 | true =>
 by_cases h4:(rl:Int) < 1
 ·have HF:Hid (p.may=false):=p.VI rl HR.out h4;go_enter Tryz.func19,Tryz.ntmps19;go_wp2_with fail;refine (bq _ _ _ _ p.costs _ (Ints.below HC.out (af _ _) (Nat.le_refl _)) (by omega) (by omega) (by omega)).mono ?_;rintro e w' ⟨rfl,rfl⟩;rw [h3];go_wp2_with fail;go_ret;exact ⟨aK HF.out.symm,af _ _⟩
 have h4':decide ((rl:Int) < 1)=false:=by simpa using h4
 by_cases h5:4 < (rl:Int)
 ·have HF:Hid (p.may=false):=p.VJ rl HR.out h5;go_enter Tryz.func19,Tryz.ntmps19;go_wp2_with fail;refine (bq _ _ _ _ p.costs _ (Ints.below HC.out (af _ _) (Nat.le_refl _)) (by omega) (by omega) (by omega)).mono ?_;rintro e w' ⟨rfl,rfl⟩;rw [h3];go_wp2_with fail;go_ret;exact ⟨aK HF.out.symm,af _ _⟩
 have h5':decide (4 < (rl:Int))=false:=by simpa using h5
 have HF:Hid (p.may=p.rows.all (Num.iL cl)):=p.Od cl rl HL.out HR.out (by omega) (by omega) h3 (by omega) (by omega);go_enter Tryz.func19,Tryz.ntmps19;go_wp2_with fail;refine (bq _ _ _ _ p.costs _ (Ints.below HC.out (af _ _) (Nat.le_refl _)) (by omega) (by omega) (by omega)).mono ?_;rintro e w' ⟨rfl,rfl⟩;rw [h3];go_wp2_with fail;go_loopw [34] (fun i wr=>∃k:Nat,k<=rl/\i=.int .i64 k/\(p.rows.take k).all (Num.iL cl)=true/\Below (w.alloc (.cells #[.slice ca cl cc,.slice ra rl rc] 28)).heap.size (w.alloc (.cells #[.slice ca cl cc,.slice ra rl rc] 28)) wr) (fun i _=>rl - (intOf i).toNat)
 case atStart=>exact ⟨0,Nat.zero_le _,rfl,rfl,Below.refl _ _⟩
 case round =>
  obtain ⟨k,hk,rfl,hw,hbl⟩:=hrel;have HW:Hid _:=hw;clear hw;have HB:Hid (Below w.heap.size w wr):=dN hbl;by_cases hlt:k < rl
  ·rcases (ay.below HRW.out HB.out (Nat.le_refl _)).2 with h|⟨b,off,ha,hbs,hc⟩
   ·omega
   obtain ⟨xa,xl,xc,c0,c1,hx,hxl⟩:=hc k hlt;clear hc;have e0:wr.cell? ⟨w.heap.size,0,none⟩=some (.slice ca cl cc):=by rw [hbl.cell (by simp)];go_simp
   have hsz:w.heap.size < wr.heap.size:=by have:=hbl.size;simp at this;omega
   have HS:Hid ((p.rows.take (k+1)).all (Num.iL cl)=((p.rows.take k).all (Num.iL cl) && Num.iL cl (p.rows[k]?.getD ([],0)))):=Num.Ah (Num.iL cl) p.rows k (by have:=HR.out;omega) ([],0);have HN:Hid (Num.iL cl (p.rows[k]?.getD ([],0))=false->p.rows.all (Num.iL cl)=false):=Num.Cm (Num.iL cl) p.rows k (by have:=HR.out;omega) ([],0);generalize (p.rows[k]?.getD ([],0))=r at *;obtain ⟨r1,r2⟩:=r;dsimp only at *;have HX:Hid (Ints wr xa xl r1):=hx;have xA:Hid (xl=r1.length):=hx.1;clear hx;subst ha;by_cases t1:xl=cl
   ·subst t1;cases t2:Num.aB 12 r1 with
    | false =>go_wp2_with fail;refine (bq _ _ _ _ r1 _ (Ints.below HX.out (af _ _) (Nat.le_refl _)) (by omega) (by omega) (by omega)).mono ?_;rintro e w' ⟨rfl,rfl⟩;rw [t2];go_wp2_with fail;go_ret;refine ⟨aK ?_,(dN hbl).alloc (by omega) _⟩;rw [HF.out];exact (HN.out (Num.VK _ _ _ t2)).symm
    | true =>
     go_wp2_with fail;refine (bq _ _ _ _ r1 _ (Ints.below HX.out (af _ _) (Nat.le_refl _)) (by omega) (by omega) (by omega)).mono ?_;rintro e w' ⟨rfl,rfl⟩;rw [t2];go_wp2_with fail;refine (bq _ _ _ _ [r2] _ (Ints.newAt (by simp) _ _) (by omega) (by omega) (by omega)).mono ?_;rintro e w' ⟨rfl,rfl⟩;cases t3:Num.aB 12 [r2] with
     | false =>go_wp2_with fail;go_ret;refine ⟨aK ?_,((dN hbl).alloc (by omega) _).alloc (by simp;omega) _⟩;rw [HF.out];exact (HN.out (Num.VL _ _ _ t3)).symm
     | true =>
      go_wp2_with fail;go_roundw
      case rel=>exact ⟨k+1,hlt,by go_num,by rw [HS.out,HW.out,Num.Sd _ _ _ _ xA.out rfl t2 t3];rfl,(hbl.alloc hbl.size _).alloc (by have:=hbl.size;simp at this ⊢;omega) _⟩
      case measure=>simp [intOf];omega
   ·have t1':((xl:Int) == (cl:Int))=false:=by simp;omega
    go_wp2_with fail;go_ret;refine ⟨aK ?_,(dN hbl).alloc (by omega) _⟩;rw [HF.out];exact (HN.out (Num.Oe _ _ _ _ xA.out t1)).symm
  ·go_wp2_with fail;go_ret;have hke:k=p.rows.length:=by have:=HR.out;omega
   refine ⟨aK ?_,HB.out⟩;rw [HF.out];exact (Num.Ob _ _ _ hke HW.out).symm
end Go.Proofs.YtipcbhodlgoflabGreatDoor
