/- Slices of slices of numbers as lists in memory; what corner.volumeBeside and corner.volume do. -/
import Derived.Test.YtipcbhodlgoflabGreatDoorLayH
import Derived.Test.YtipcbhodlgoflabGreatDoorNum
set_option maxHeartbeats 1600000
namespace Go.Proofs.YtipcbhodlgoflabGreatDoor
open Go.RowKit
def dL (w:World) (a:Option Addr) (len:Nat) (ls:List (List Int)) : Prop :=
 len=ls.length/\(len=0\/∃b off,a=some ⟨b,off,none⟩/\b < w.heap.size/\∀j,j < len->∃ra rl rc,w.cell? ⟨b,off+j,none⟩=some (.slice ra rl rc)/\Ints w ra rl (ls[j]?.getD [])/\rl<=rc)
theorem dL.below {w w':World} {B:Nat} {a:Option Addr} {len:Nat} {ls:List (List Int)} (h:dL w a len ls) (hb:Below B w w') (hB:w.heap.size<=B) : dL w' a len ls:=by
 obtain ⟨h1,h2⟩:=h;refine ⟨h1,?_⟩;rcases h2 with h2|⟨b,off,ha,hs,hc⟩
 ·exact Or.inl h2
 ·refine Or.inr ⟨b,off,ha,Nat.lt_of_lt_of_le hs hb.size,fun j hj=>?_⟩;obtain ⟨ra,rl,rc,c0,hi,hr⟩:=hc j hj;refine ⟨ra,rl,rc,?_,hi.below hb hB,hr⟩;rw [hb.cell (p:=⟨b,off+j,none⟩) (Nat.lt_of_lt_of_le hs hB)];exact c0
theorem dL.tail {w:World} {a:Option Addr} {len cap:Nat} {l:List Int} {r:List (List Int)} (h:dL w a len (l :: r)) (hc:len<=cap) : dL w (if cap=1 then a else a.map (·.add 1)) (len - 1) r:=by
 obtain ⟨h1,h2⟩:=h;rw [List.length_cons] at h1;refine ⟨by omega,?_⟩;by_cases h0:len - 1=0
 ·exact Or.inl h0
 ·rw [if_neg (by omega)];rcases h2 with h2|⟨b,off,ha,hs,hc⟩
  ·omega
  ·refine Or.inr ⟨b,off+1,by rw [ha];rfl,hs,fun j hj=>?_⟩;obtain ⟨ra,rl,rc,c0,hi,hr⟩:=hc (j+1) (by omega);refine ⟨ra,rl,rc,?_,by simpa using hi,hr⟩;rw [show off+1+j=off+(j+1) by omega];exact c0
theorem dL.head {w:World} {a:Option Addr} {len:Nat} {l:List Int} {r:List (List Int)} (h:dL w a len (l :: r)) : ∃b off ra rl rc,a=some ⟨b,off,none⟩/\b < w.heap.size/\w.cell? ⟨b,off,none⟩=some (.slice ra rl rc)/\Ints w ra rl l/\rl<=rc:=by
 obtain ⟨h1,h2⟩:=h;rw [List.length_cons] at h1;rcases h2 with h2|⟨b,off,ha,hs,hc⟩
 ·omega
 ·obtain ⟨ra,rl,rc,c0,hi,hr⟩:=hc 0 (by omega);exact ⟨b,off,ra,rl,rc,ha,hs,c0,by simpa using hi,hr⟩
def tk (a b c d:Bool) (j:Nat) : Bool:=if j=0 then a else if j=1 then b else if j=2 then c else if j=3 then d else false
theorem tk0 (a b c d:Bool) : Num.mark (tk a b c d) 0=tk true b c d:=by funext j;unfold Num.mark tk;repeat' split<;>simp_all
theorem tk1 (a b c d:Bool) : Num.mark (tk a b c d) 1=tk a true c d:=by funext j;unfold Num.mark tk;repeat' split<;>simp_all
theorem tk2 (a b c d:Bool) : Num.mark (tk a b c d) 2=tk a b true d:=by funext j;unfold Num.mark tk;repeat' split<;>simp_all
theorem tk3 (a b c d:Bool) : Num.mark (tk a b c d) 3=tk a b c true:=by funext j;unfold Num.mark tk;repeat' split<;>simp_all
theorem SV:tk false false false false=Num.aI:=by funext j;unfold Num.aI tk;simp
theorem wE (f:Nat->Int) (l:List Int) (t:Nat->Bool) (k:Nat) (h:t k=true) : Num.aM f l t (k+1)=Num.aM f l t k:=by show (if t k then _ else _)=_;rw [h];rfl
theorem Hq (f:Nat->Int) (l:List Int) (t:Nat->Bool) (k:Nat) (h:t k=false) : Num.aM f l t (k+1)=((Num.aM f l t k).1+(Num.aM f l t k).2*l[k]?.getD 0*f k,-(Num.aM f l t k).2):=by show (if t k then _ else _)=_;rw [h];rfl
theorem OO {w w1:World} {a b c d:Value} {t:TypeId} (hb:Below (w.alloc (.cells #[a,b,c,d] t)).heap.size (w.alloc (.cells #[a,b,c,d] t)) w1) :
  w1.cell? ⟨w.heap.size,0,none⟩=some a/\w1.cell? ⟨w.heap.size,1,none⟩=some b/\w1.cell? ⟨w.heap.size,2,none⟩=some c/\w1.cell? ⟨w.heap.size,3,none⟩=some d/\w.heap.size < w1.heap.size/\Below w.heap.size w w1:=by
 refine ⟨?_,?_,?_,?_,?_,?_⟩
 ·rw [hb.cell (by simp)];go_simp
 ·rw [hb.cell (by simp)];go_simp
 ·rw [hb.cell (by simp)];go_simp
 ·rw [hb.cell (by simp)];go_simp
 ·have:=hb.size;simp at this;omega
 ·exact dN hb
theorem OP (ls:List (List Int)) : ∀(a:Option Addr) (len cap:Nat) (w:World) (t0 t1 t2 t3:Bool),dL w a len ls->len<=cap->len<=4->(∀l∈ls,l.length<=4)->Num.wB 400 ls->
  Calls Tryz.prog 95 #[.slice a len cap,.agg #[.bool t0,.bool t1,.bool t2,.bool t3]] w fun e w'=>e=.returned (.int .i64 (Num.vol ls (tk t0 t1 t2 t3)))/\Below w.heap.size w w':=by
 induction ls with
 | nil =>intro a len cap w t0 t1 t2 t3 hl hc h4 hb hB;obtain rfl:len=0:=hl.1;go_enter Tryz.func95,Tryz.ntmps95;go_wp2_with fail;go_ret;exact ⟨rfl,af _ _⟩
 | cons l r ih =>
  intro a len cap w t0 t1 t2 t3 hl hc h4 hb hB;have hlen:len=r.length+1:=hl.1;obtain ⟨b,off,ra,rl,rc,ha,hbs,c0,hi,hrc⟩:=hl.head;have HT:Hid (dL w (if cap=1 then a else a.map (·.add 1)) (len - 1) r):=hl.tail hc;have HI:Hid (Ints w ra rl l):=hi;have HL:Hid (rl=l.length):=hi.1;have h4l:rl<=4:=by have:=hi.1;have:=hb l List.mem_cons_self;omega
  have HH:Hid (∀j:Nat,-400<=l[j]?.getD 0/\l[j]?.getD 0<=400):=hB.head;have HV:Hid (∀t,-6553600000000<=Num.vol r t/\Num.vol r t<=6553600000000):=fun t=>Num.Cn r t hB.tail (fun x hx=>hb x (List.mem_cons_of_mem _ hx)) (by omega);have KC:Hid (∀(w':World) (t0 t1 t2 t3:Bool),Below w.heap.size w w'->Calls Tryz.prog 95 #[.slice (if cap=1 then a else a.map (·.add 1)) (len - 1) (cap - 1),.agg #[.bool t0,.bool t1,.bool t2,.bool t3]] w' fun e w''=>e=.returned (.int .i64 (Num.vol r (tk t0 t1 t2 t3)))/\Below w'.heap.size w' w'') :=
   fun w' t0 t1 t2 t3 hw=>ih _ _ _ w' t0 t1 t2 t3 (dL.below HT.out hw (Nat.le_refl _)) (by omega) (by omega) (fun x hx=>hb x (List.mem_cons_of_mem _ hx)) hB.tail
  have HE:Hid (Num.vol (l :: r) (tk t0 t1 t2 t3)=(Num.aM (fun i=>Num.vol r (Num.mark (tk t0 t1 t2 t3) i)) l (tk t0 t1 t2 t3) rl).1):=by have:=HL.out;rw [this];exact rfl
  have HSB:Hid (∀k:Nat,k<=4->-10485760000000000<=(Num.aM (fun i=>Num.vol r (Num.mark (tk t0 t1 t2 t3) i)) l (tk t0 t1 t2 t3) k).1/\(Num.aM (fun i=>Num.vol r (Num.mark (tk t0 t1 t2 t3) i)) l (tk t0 t1 t2 t3) k).1<=10485760000000000):=by intro k hk;have:=Num.uV (fun i=>Num.vol r (Num.mark (tk t0 t1 t2 t3) i)) l (tk t0 t1 t2 t3) 400 6553600000000 HH.out (fun j=>HV.out _) k;omega
  generalize hf:(fun i=>Num.vol r (Num.mark (tk t0 t1 t2 t3) i))=f at *;have HF:Hid _:=hf;have HBD:Hid _:=hB;clear hl hi hb hB ih hf;subst ha;go_enter Tryz.func95,Tryz.ntmps95;go_wp2_with fail;go_loopw [5,6,17] (fun s g i wr=>∃k:Nat,k<=rl/\i=.int .i64 k/\s=.int .i64 (Num.aM f l (tk t0 t1 t2 t3) k).1/\g=.int .i64 (Num.aM f l (tk t0 t1 t2 t3) k).2/\
   Below (w.alloc (.cells #[.bool t0,.bool t1,.bool t2,.bool t3] 153)).heap.size (w.alloc (.cells #[.bool t0,.bool t1,.bool t2,.bool t3] 153)) wr) (fun _ _ i _=>rl - (intOf i).toNat)
  case atStart=>exact ⟨0,Nat.zero_le _,rfl,rfl,rfl,Below.refl _ _⟩
  case round =>
   obtain ⟨k,hk,rfl,rfl,rfl,hbl⟩:=hrel;obtain ⟨e0,e1,e2,e3,hsz,hB2⟩:=OO hbl;by_cases hlt:k < rl
   ·rcases (Ints.below HI.out hB2 (Nat.le_refl _)).2 with h|⟨b1,o1,ha,hb1,hc1⟩
    ·omega
    have hck:=hc1 k hlt;clear hc1;subst ha;have hx:=HH.out k;have hs:=HSB.out k (by omega);have hg:=Num.wz f l (tk t0 t1 t2 t3) k;have hfk:Num.vol r (Num.mark (tk t0 t1 t2 t3) k)=f k:=by rw [<-HF.out]
    have hfb:=HV.out (Num.mark (tk t0 t1 t2 t3) k);have UJ:Hid (_->_):=Hq f l (tk t0 t1 t2 t3) k;rw [hfk] at hfb;have Xn:Hid _:=hfk;clear hfk;generalize l[k]?.getD 0=x at *;generalize f k=v at *;have SY:Hid (tk t0 t1 t2 t3 k=true->(Num.aM f l (tk t0 t1 t2 t3) (k+1)).1=(Num.aM f l (tk t0 t1 t2 t3) k).1):=fun h=>by rw [wE _ _ _ _ h]
    have S9:Hid (tk t0 t1 t2 t3 k=true->(Num.aM f l (tk t0 t1 t2 t3) (k+1)).2=(Num.aM f l (tk t0 t1 t2 t3) k).2):=fun h=>by rw [wE _ _ _ _ h]
    generalize (Num.aM f l (tk t0 t1 t2 t3) k).1=s at *;generalize (Num.aM f l (tk t0 t1 t2 t3) k).2=g at *;have hgx : -400<=g*x/\g*x<=400:=by rcases hg with rfl|rfl<;>omega
    have hgv:=Num.ko (g*x) v 400 6553600000000 hgx hfb;simp only [show (400:Int)*6553600000000=2621440000000000 from rfl] at hgv;have w1:wrap64 (g*x)=g*x:=IntWalk.wrap64_in _ (by omega);have w2:wrap64 (g*x*v)=g*x*v:=IntWalk.wrap64_in _ (by omega);have w3:wrap64 (s+g*x*v)=s+g*x*v:=IntWalk.wrap64_in _ (by omega);have w4:wrap64 (-g)=-g:=IntWalk.wrap64_in _ (by omega);clear hgx hgv hs hg hfb hx;rcases (by omega:k=0\/k=1\/k=2\/k=3) with rfl|rfl|rfl|rfl
    ·rw [Nat.add_zero] at hck;simp only [Int.natCast_zero];cases t0 with
     | true =>
      go_wp2_with fail;go_roundw
      case rel=>exact ⟨1,hlt,by go_num,by rw [SY.out rfl],by rw [S9.out rfl],hbl⟩
      case measure=>simp [intOf];omega
     | false =>
      go_wp2_with fail;obtain ⟨d0,d1,d2,d3,dz,_⟩:=OO (Below.refl (wr.alloc (.cells #[.bool true,.bool t1,.bool t2,.bool t3] 153)).heap.size (wr.alloc (.cells #[.bool true,.bool t1,.bool t2,.bool t3] 153)));have q0:=cK d0 dz;have q1:=cK d1 dz;have q2:=cK d2 dz;have q3:=cK d3 dz;have tQ:Below w.heap.size w (wr.alloc (.cells #[.bool true,.bool t1,.bool t2,.bool t3] 153)):=ai hB2 (af _ _);have hBL:=ai hbl (af wr (.cells #[.bool true,.bool t1,.bool t2,.bool t3] 153));clear d0 d1 d2 d3 dz e0 e1 e2 e3;generalize wr.alloc (.cells #[.bool true,.bool t1,.bool t2,.bool t3] 153)=V at *;have hne:=nY V;have KT:Hid (∀n:Later V,Calls Tryz.prog 95 #[.slice (if cap=1 then some ⟨b,off,none⟩ else some ⟨b,off+1,none⟩) r.length (cap - 1),.agg #[.bool true,.bool t1,.bool t2,.bool t3]] n.w fun e w'=>e=.returned (.int .i64 v)/\Below n.w.heap.size n.w w'):=by intro n;have:=KC.out n.w true t1 t2 t3 (ai tQ n.ok);rw [<-tk0 false t1 t2 t3,Xn.out,show len - 1=r.length by omega] at this;exact this
      refine iW (by kernel_rfl) (by kernel_rfl) ?_
      repeat (go_big_quiet_step ((go_at_call 95;exact mI (KT.out _))))
      refine wpQuiet_nil ?_;rintro w5 ⟨n5,rfl⟩;clear q0 q1 q2 q3;go_wp2_with fail;go_roundw
      case rel=>exact ⟨1,hlt,by go_num,by rw [UJ.out rfl,w3],by rw [UJ.out rfl,w4],ai hBL n5.ok⟩
      case measure=>simp [intOf];omega
    ·skip
     simp only [Int.natCast_one];cases t1 with
     | true =>
      go_wp2_with fail;go_roundw
      case rel=>exact ⟨2,hlt,by go_num,by rw [SY.out rfl],by rw [S9.out rfl],hbl⟩
      case measure=>simp [intOf];omega
     | false =>
      go_wp2_with fail;obtain ⟨d0,d1,d2,d3,dz,_⟩:=OO (Below.refl (wr.alloc (.cells #[.bool t0,.bool true,.bool t2,.bool t3] 153)).heap.size (wr.alloc (.cells #[.bool t0,.bool true,.bool t2,.bool t3] 153)));have q0:=cK d0 dz;have q1:=cK d1 dz;have q2:=cK d2 dz;have q3:=cK d3 dz;have tQ:Below w.heap.size w (wr.alloc (.cells #[.bool t0,.bool true,.bool t2,.bool t3] 153)):=ai hB2 (af _ _);have hBL:=ai hbl (af wr (.cells #[.bool t0,.bool true,.bool t2,.bool t3] 153));clear d0 d1 d2 d3 dz e0 e1 e2 e3;generalize wr.alloc (.cells #[.bool t0,.bool true,.bool t2,.bool t3] 153)=V at *;have hne:=nY V;have KT:Hid (∀n:Later V,Calls Tryz.prog 95 #[.slice (if cap=1 then some ⟨b,off,none⟩ else some ⟨b,off+1,none⟩) r.length (cap - 1),.agg #[.bool t0,.bool true,.bool t2,.bool t3]] n.w fun e w'=>e=.returned (.int .i64 v)/\Below n.w.heap.size n.w w'):=by intro n;have:=KC.out n.w t0 true t2 t3 (ai tQ n.ok);rw [<-tk1 t0 false t2 t3,Xn.out,show len - 1=r.length by omega] at this;exact this
      refine iW (by kernel_rfl) (by kernel_rfl) ?_
      repeat (go_big_quiet_step ((go_at_call 95;exact mI (KT.out _))))
      refine wpQuiet_nil ?_;rintro w5 ⟨n5,rfl⟩;clear q0 q1 q2 q3;go_wp2_with fail;go_roundw
      case rel=>exact ⟨2,hlt,by go_num,by rw [UJ.out rfl,w3],by rw [UJ.out rfl,w4],ai hBL n5.ok⟩
      case measure=>simp [intOf];omega
    ·skip
     simp only [show ((2:Nat) : Int)=2 from rfl];cases t2 with
     | true =>
      go_wp2_with fail;go_roundw
      case rel=>exact ⟨3,hlt,by go_num,by rw [SY.out rfl],by rw [S9.out rfl],hbl⟩
      case measure=>simp [intOf];omega
     | false =>
      go_wp2_with fail;obtain ⟨d0,d1,d2,d3,dz,_⟩:=OO (Below.refl (wr.alloc (.cells #[.bool t0,.bool t1,.bool true,.bool t3] 153)).heap.size (wr.alloc (.cells #[.bool t0,.bool t1,.bool true,.bool t3] 153)));have q0:=cK d0 dz;have q1:=cK d1 dz;have q2:=cK d2 dz;have q3:=cK d3 dz;have tQ:Below w.heap.size w (wr.alloc (.cells #[.bool t0,.bool t1,.bool true,.bool t3] 153)):=ai hB2 (af _ _);have hBL:=ai hbl (af wr (.cells #[.bool t0,.bool t1,.bool true,.bool t3] 153));clear d0 d1 d2 d3 dz e0 e1 e2 e3;generalize wr.alloc (.cells #[.bool t0,.bool t1,.bool true,.bool t3] 153)=V at *;have hne:=nY V;have KT:Hid (∀n:Later V,Calls Tryz.prog 95 #[.slice (if cap=1 then some ⟨b,off,none⟩ else some ⟨b,off+1,none⟩) r.length (cap - 1),.agg #[.bool t0,.bool t1,.bool true,.bool t3]] n.w fun e w'=>e=.returned (.int .i64 v)/\Below n.w.heap.size n.w w'):=by intro n;have:=KC.out n.w t0 t1 true t3 (ai tQ n.ok);rw [<-tk2 t0 t1 false t3,Xn.out,show len - 1=r.length by omega] at this;exact this
      refine iW (by kernel_rfl) (by kernel_rfl) ?_
      repeat (go_big_quiet_step ((go_at_call 95;exact mI (KT.out _))))
      refine wpQuiet_nil ?_;rintro w5 ⟨n5,rfl⟩;clear q0 q1 q2 q3;go_wp2_with fail;go_roundw
      case rel=>exact ⟨3,hlt,by go_num,by rw [UJ.out rfl,w3],by rw [UJ.out rfl,w4],ai hBL n5.ok⟩
      case measure=>simp [intOf];omega
    ·skip
     simp only [show ((3:Nat) : Int)=3 from rfl];cases t3 with
     | true =>
      go_wp2_with fail;go_roundw
      case rel=>exact ⟨4,hlt,by go_num,by rw [SY.out rfl],by rw [S9.out rfl],hbl⟩
      case measure=>simp [intOf];omega
     | false =>
      go_wp2_with fail;obtain ⟨d0,d1,d2,d3,dz,_⟩:=OO (Below.refl (wr.alloc (.cells #[.bool t0,.bool t1,.bool t2,.bool true] 153)).heap.size (wr.alloc (.cells #[.bool t0,.bool t1,.bool t2,.bool true] 153)));have q0:=cK d0 dz;have q1:=cK d1 dz;have q2:=cK d2 dz;have q3:=cK d3 dz;have tQ:Below w.heap.size w (wr.alloc (.cells #[.bool t0,.bool t1,.bool t2,.bool true] 153)):=ai hB2 (af _ _);have hBL:=ai hbl (af wr (.cells #[.bool t0,.bool t1,.bool t2,.bool true] 153));clear d0 d1 d2 d3 dz e0 e1 e2 e3;generalize wr.alloc (.cells #[.bool t0,.bool t1,.bool t2,.bool true] 153)=V at *;have hne:=nY V;have KT:Hid (∀n:Later V,Calls Tryz.prog 95 #[.slice (if cap=1 then some ⟨b,off,none⟩ else some ⟨b,off+1,none⟩) r.length (cap - 1),.agg #[.bool t0,.bool t1,.bool t2,.bool true]] n.w fun e w'=>e=.returned (.int .i64 v)/\Below n.w.heap.size n.w w'):=by intro n;have:=KC.out n.w t0 t1 t2 true (ai tQ n.ok);rw [<-tk3 t0 t1 t2 false,Xn.out,show len - 1=r.length by omega] at this;exact this
      refine iW (by kernel_rfl) (by kernel_rfl) ?_
      repeat (go_big_quiet_step ((go_at_call 95;exact mI (KT.out _))))
      refine wpQuiet_nil ?_;rintro w5 ⟨n5,rfl⟩;clear q0 q1 q2 q3;go_wp2_with fail;go_roundw
      case rel=>exact ⟨4,hlt,by go_num,by rw [UJ.out rfl,w3],by rw [UJ.out rfl,w4],ai hBL n5.ok⟩
      case measure=>simp [intOf];omega
   ·go_wp2_with fail;go_ret;have hke:k=rl:=by omega
    subst hke;exact ⟨iV HE.out.symm,hB2⟩
theorem rY (ls:List (List Int)) (a:Option Addr) (len cap:Nat) (w:World) (hl:dL w a len ls) (hc:len<=cap) (h4:len<=4) (hb:∀l∈ls,l.length<=4) (hB:Num.wB 400 ls) :
  Calls Tryz.prog 55 #[.slice a len cap] w fun e w'=>e=.returned (.int .i64 (Num.vol ls Num.aI))/\Below w.heap.size w w':=by
 have K:Hid (Calls Tryz.prog 95 #[.slice a len cap,.agg #[.bool false,.bool false,.bool false,.bool false]] w fun e w'=>e=.returned (.int .i64 (Num.vol ls Num.aI))/\Below w.heap.size w w'):=by rw [<-SV];exact OP ls a len cap w _ _ _ _ hl hc h4 hb hB
 clear hl hb hB;go_enter Tryz.func55,Tryz.ntmps55;go_wp2_with fail;refine K.out.mono ?_;rintro e w' ⟨rfl,hb⟩;go_wp2_with fail;go_ret;exact ⟨rfl,hb⟩
open Go.RowKit
namespace Num
def fill (f:Nat->Int) (n k:Nat) : List Int:=(List.range n).map fun j=>if j < k then f j else 0
theorem qO (f:Nat->Int) (n:Nat) : fill f n 0=List.replicate n 0:=by unfold fill;apply List.ext_getElem?;intro j;simp [List.getElem?_replicate];by_cases h:j < n<;>simp [h]
theorem iN (f:Nat->Int) (n:Nat) : fill f n n=(List.range n).map f:=by unfold fill;apply List.map_congr_left;intro j hj;simp at hj;simp [hj]
theorem OQ (f:Nat->Int) (n k:Nat) : (fill f n k).length=n:=by simp [fill]
theorem gJ (f:Nat->Int) (n k:Nat) (v:Int) (h:k < n) (hv:v=f k) : (fill f n k).set k v=fill f n (k+1):=by
 subst hv;unfold fill;apply List.ext_getElem?;intro j;rw [List.getElem?_set];by_cases hj:k=j
 ·subst hj;simp [h]
 ·rw [if_neg hj];by_cases hn:j < n
  ·simp [hn];by_cases hk:j < k
   ·rw [if_pos hk,if_pos (by omega)]
   ·rw [if_neg hk,if_neg (by omega)]
  ·rw [List.getElem?_eq_none (by simp;omega),List.getElem?_eq_none (by simp;omega)]
theorem L8 (f:Nat->Int) (n k:Nat) (hv:f k=0) : fill f n k=fill f n (k+1):=by
 unfold fill;apply List.map_congr_left;intro j _;by_cases hk:j=k
 ·subst hk;simp [hv]
 ·by_cases h:j < k
  ·rw [if_pos h,if_pos (by omega)]
  ·rw [if_neg h,if_neg (by omega)]
theorem aA (f:Nat->Int) (n j:Nat) : ((List.range n).map f)[j]?.getD 0=if j < n then f j else 0:=by
 rw [List.getElem?_map];by_cases h:j < n
 ·simp [h]
 ·rw [List.getElem?_eq_none (by simp;omega)];simp [h]
end Num
def Own (w:World) (base g n:Nat) (l:List Int) : Prop:=w.ownsRow base 2 1 (.slice (some ⟨g,0,none⟩) n n) n (l.map (Value.int .i64))
theorem Own.made {w:World} {base g n:Nat} (f:Nat->Int) (h:w.ownsRow base 2 1 (.slice (some ⟨g,0,none⟩) n n) n (madeCells (Value.int .i64 0).cells (n*1)).toList) : Own w base g n (Num.fill f n 0):=by
 unfold Own;rw [Num.qO,List.map_replicate];have e:(madeCells (Value.int .i64 0).cells (n*1)).toList=List.replicate n (Value.int .i64 0):=by rw [Nat.mul_one];exact toList_madeCells_one _ _
 rw [e] at h;exact h
theorem Own.len {w:World} {base g n:Nat} {l:List Int} (h:Own w base g n l) : l.length=n:=by simpa using h.1
theorem Own.cell {w:World} {base g n:Nat} {l:List Int} (h:Own w base g n l) (k:Nat) (hk:k < n) : w.cell? ⟨g,k,none⟩=some (.int .i64 (l[k]?.getD 0))/\w.frozen? ⟨g,k,none⟩=false:=by refine ⟨?_,World.ownsRow.frozenAt h k⟩;have:=World.ownsRow.cellAt h k (by omega);rw [this,List.getElem?_map,List.getElem?_eq_getElem (by have:=h.len;omega)];simp
theorem Own.cell' {w:World} {base g n:Nat} {l:List Int} (h:Own w base g n l) (k:Nat) (hk:k < n) : (∃u,w.cell? ⟨g,k,none⟩=some u)/\w.frozen? ⟨g,k,none⟩=false:=⟨⟨_,(h.cell k hk).1⟩,(h.cell k hk).2⟩
theorem Own.store {w:World} {base g n:Nat} {l:List Int} (h:Own w base g n l) (k:Nat) (v:Int) : Own (w.setCell ⟨g,k,none⟩ (.int .i64 v)) base g n (l.set k v):=by unfold Own;rw [List.map_set];exact (World.ownsRow.stored h k (.int .i64 v)).1
theorem Own.lt {w:World} {base g n:Nat} {l:List Int} (h:Own w base g n l) : base<=g/\g < w.heap.size:=World.ownsRow.lt h g rfl
theorem own_below {w w':World} {base n:Nat} {t:TypeId} {g c:Nat} {xs:List Value} (h:w.ownsRow base t 1 (.slice (some ⟨g,0,none⟩) n c) n xs) {B:Nat} (hb:Below B w w') (hB:g < B) : w'.ownsRow base t 1 (.slice (some ⟨g,0,none⟩) n c) n xs:=by
 refine ⟨h.1,?_⟩;rcases h.2 with ⟨h2,_⟩|⟨g',cap,cur,e,h3,h4,h5⟩
 ·cases h2
 ·refine Or.inr ⟨g',cap,cur,e,h3,?_,h5⟩;simp only [Value.slice.injEq,Option.some.injEq,Addr.mk.injEq] at e;rw [hb.block g' (by omega)];exact h4
theorem Own.below {w w':World} {base g n:Nat} {l:List Int} (h:Own w base g n l) {B:Nat} (hb:Below B w w') (hB:g < B) : Own w' base g n l:=own_below h hb hB
theorem Own.alloc {w:World} {base g n:Nat} {l:List Int} (h:Own w base g n l) (o:Obj) : Own (w.alloc o) base g n l:=h.below (af _ _) h.lt.2
theorem Own.ints {w:World} {base g n:Nat} {l:List Int} (h:Own w base g n l) : Ints w (some ⟨g,0,none⟩) n l :=
 ⟨h.len.symm,Or.inr ⟨g,0,rfl,h.lt.2,fun j hj=>by rw [Nat.zero_add];exact (h.cell j hj).1⟩⟩
theorem aV {B:Nat} {a w:World} (h:Below B a w) {g k:Nat} (hg:B<=g) (v:Value) : Below B a (w.setCell ⟨g,k,none⟩ v):=h.setCell hg v
theorem bY {w w':World} (h:w.grownBy w' none) : Below w.heap.size w w':=(Below.refl _ _).grown h (Nat.le_refl _) (fun _ hk=>by cases hk)
theorem nG (ca:Option Addr) (cl cc:Nat) (ra:Option Addr) (rl rc:Nat) (w:World) (N:Nat) (hN:cl+rl=N) (h:N<=8) :
  Calls Tryz.prog 85 #[.agg #[.slice ca cl cc,.slice ra rl rc]] w fun e w'=>e=.returned (.int .i64 N)/\Below w.heap.size w w':=by
 have HN:Hid ((cl:Int)+rl=N):=by show (cl:Int)+rl=N;omega
 have h':cl+rl<=8:=by omega
 clear hN;go_enter Tryz.func85,Tryz.ntmps85;go_wp2_with fail;go_ret;exact ⟨iV HN.out,af _ _⟩
theorem xZ (ca:Option Addr) (cl cc:Nat) (ra:Option Addr) (rl rc:Nat) (costs:List Int) (w:World) (hc:Ints w ca cl costs) (j:Nat) :
  Calls Tryz.prog 97 #[.agg #[.slice ca cl cc,.slice ra rl rc],.int .i64 j] w fun e w'=>e=.returned (.int .i64 (costs[j]?.getD 0))/\Below w.heap.size w w':=by
 have HL:Hid (cl=costs.length):=hc.1;by_cases hj:(j:Int) < cl
 ·rcases (Ints.below hc (af w (.cells #[.slice ca cl cc,.slice ra rl rc] 28)) (Nat.le_refl _)).2 with hi|⟨b,off,ha,hb,hcc⟩
  ·omega
  have hck:=hcc j (by omega);clear hcc;generalize costs[j]?.getD 0=x at *;clear hc;subst ha;go_enter Tryz.func97,Tryz.ntmps97;go_wp2_with fail;go_ret;exact ⟨rfl,af _ _⟩
 ·have hj':decide ((j:Int) < cl)=false:=by simpa using hj
  have HZ:Hid (costs[j]?.getD 0=0):=by have:=HL.out;show costs[j]?.getD 0=0;rw [List.getElem?_eq_none (by omega)];rfl
  clear hc;go_enter Tryz.func97,Tryz.ntmps97;go_wp2_with fail;go_ret;exact ⟨iV HZ.out.symm,af _ _⟩
def Num.dw (p:Num.Lp) (i:Nat) : Int:=(p.rows[i]?.getD ([],0)).2
theorem Bd (ca:Option Addr) (cl cc:Nat) (ra:Option Addr) (rl rc:Nat) (p:Num.Lp) (w:World) (hr:ay w ra rl p.rows) (h4:rl<=4) :
  Calls Tryz.prog 61 #[.agg #[.slice ca cl cc,.slice ra rl rc]] w fun e w'=>∃g,e=.returned (.slice (some ⟨g,0,none⟩) rl rl)/\w.heap.size<=g/\Ints w' (some ⟨g,0,none⟩) rl ((List.range rl).map (Num.dw p))/\Below w.heap.size w w':=by
 have HR:Hid (ay w ra rl p.rows):=hr;clear hr;obtain ⟨i0,hif,hz0,hz1,hz2⟩:=info_parts Tryz.ja;have hB0:=af w (.cells #[.slice ca cl cc,.slice ra rl rc] 28);have hc2:=aU (w:=w) rfl (.slice ca cl cc) (.slice ra rl rc) 28;have hs0:(w.alloc (.cells #[.slice ca cl cc,.slice ra rl rc] 28)).heap.size=w.heap.size+1:=by simp
 go_enter Tryz.func61,Tryz.ntmps61;go_wp2_with (at_make;refine wpList_make_full _ rfl (.tmp 8) (.tmp 8) 25 rfl (w.heap.size+1) 2 i0 (.int .i64 0) 1 Tryz.underlying25 hif hz0 hz1 .i64 .i64 _ _ rl rfl rfl rfl rfl (by rw [hz2];omega) (by unfold maxLen;omega) (by simp) ?_;intro w3 hown hgrow;have hb3:=bY hgrow;obtain ⟨⟨k0,k1⟩,_⟩:=fO hb3;have HO:Hid _:=hown;clear hown hgrow);have rD:Hid (Own w3 (w.heap.size+1) (w.heap.size+1) rl (Num.fill (Num.dw p) rl 0)):=Own.made _ (by rw [hs0] at HO;exact HO.out);clear HO;go_loopw [13] (fun i wr=>∃k:Nat,k<=rl/\i=.int .i64 k/\Own wr (w.heap.size+1) (w.heap.size+1) rl (Num.fill (Num.dw p) rl k)/\Below (w.alloc (.cells #[.slice ca cl cc,.slice ra rl rc] 28)).heap.size (w.alloc (.cells #[.slice ca cl cc,.slice ra rl rc] 28)) wr) (fun i _=>rl - (intOf i).toNat)
 case atStart=>exact ⟨0,Nat.zero_le _,rfl,rD.out,hb3⟩
 case round =>
  obtain ⟨k,hk,rfl,hO,hbl⟩:=hrel;have HO:Hid _:=hO;clear rD hb3 k0 k1;have hB:Below w.heap.size w wr:=dN hbl;by_cases hlt:k < rl
  ·rcases (ay.below HR.out hB (Nat.le_refl _)).2 with h|⟨b,off,ha,hbs,hc⟩
   ·omega
   obtain ⟨xa,xl,xc,c0,c1,hx,hxl⟩:=hc k hlt;clear hc hx;obtain ⟨⟨u,u0⟩,u1⟩:=hO.cell' k hlt;have hg:=hO.lt.2;clear hO;have HE:Hid ((p.rows[k]?.getD ([],0)).2=Num.dw p k):=rfl;generalize (p.rows[k]?.getD ([],0)).2=x at *;subst ha;go_wp2_with fail;go_roundw
   case rel=>exact ⟨k+1,hlt,by go_num,by rw [<-Num.gJ _ _ _ x hlt HE.out];exact (Own.store HO.out k x).alloc _,ai (aV hbl (by simp) _) (af _ _)⟩
   case measure=>simp [intOf];omega
  ·have hke:k=rl:=by omega
   subst hke;clear hO;go_wp2_with fail;go_ret;refine ⟨w.heap.size+1,rfl,by omega,?_,hB⟩;rw [<-Num.iN];exact Own.ints HO.out
def Num.aZ (at':List Int) (k:Nat) : Nat:=(at'[k]?.getD 0).toNat
theorem Hr (ca:Option Addr) (cl cc:Nat) (ra:Option Addr) (rl rc:Nat) (p:Num.Lp) (w:World) (hc:Ints w ca cl p.costs) (aa:Option Addr) (al ac:Nat) (at':List Int) (ha:Ints w aa al at')
  (h4:al<=4) (hat:∀k,k < al->0<=at'[k]?.getD 0) :
  Calls Tryz.prog 58 #[.agg #[.slice ca cl cc,.slice ra rl rc],.slice aa al ac] w fun e w'=>∃g,e=.returned (.slice (some ⟨g,0,none⟩) al al)/\w.heap.size<=g/\
   Ints w' (some ⟨g,0,none⟩) al ((List.range al).map fun k=>p.costs[Num.aZ at' k]?.getD 0)/\Below w.heap.size w w':=by
 have HC:Hid (Ints w ca cl p.costs):=hc;have HA:Hid (Ints w aa al at'):=ha;have HAT:Hid (∀k,k < al->0<=at'[k]?.getD 0):=hat;clear hc ha hat;generalize hf:(fun k=>p.costs[Num.aZ at' k]?.getD 0)=f;have HF:Hid _:=hf;clear hf;obtain ⟨i0,hif,hz0,hz1,hz2⟩:=info_parts Tryz.ja;have hs0:(w.alloc (.cells #[.slice ca cl cc,.slice ra rl rc] 28)).heap.size=w.heap.size+1:=by simp
 go_enter Tryz.func58,Tryz.ntmps58;go_wp2_with (at_make;refine wpList_make_full _ rfl (.tmp 9) (.tmp 9) 25 rfl (w.heap.size+1) 2 i0 (.int .i64 0) 1 Tryz.underlying25 hif hz0 hz1 .i64 .i64 _ _ al rfl rfl rfl rfl (by rw [hz2];omega) (by unfold maxLen;omega) (by simp) ?_;intro w3 hown hgrow;have hb3:=bY hgrow;have HO:Hid _:=hown;clear hown hgrow);have rD:Hid (Own w3 (w.heap.size+1) (w.heap.size+1) al (Num.fill f al 0)):=Own.made _ (by rw [hs0] at HO;exact HO.out);clear HO;go_loopw [13] (fun i wr=>∃k:Nat,k<=al/\i=.int .i64 k/\Own wr (w.heap.size+1) (w.heap.size+1) al (Num.fill f al k)/\Below (w.alloc (.cells #[.slice ca cl cc,.slice ra rl rc] 28)).heap.size (w.alloc (.cells #[.slice ca cl cc,.slice ra rl rc] 28)) wr) (fun i _=>al - (intOf i).toNat)
 case atStart=>exact ⟨0,Nat.zero_le _,rfl,rD.out,hb3⟩
 case round =>
  obtain ⟨k,hk,rfl,hO,hbl⟩:=hrel;have HO:Hid _:=hO;clear rD hb3;have hB:Below w.heap.size w wr:=dN hbl;by_cases hlt:k < al
  ·rcases (Ints.below HA.out hB (Nat.le_refl _)).2 with h|⟨b,off,ha,hbs,hc⟩
   ·omega
   have hck:=hc k hlt;have h0:=HAT.out k hlt;clear hc;obtain ⟨⟨e0,e1⟩,_⟩:=fO hbl;have HE:Hid (p.costs[Num.aZ at' k]?.getD 0=f k):=by rw [<-HF.out];exact rfl
   obtain ⟨j,hj⟩ : ∃j:Nat,at'[k]?.getD 0=j:=⟨_,(Int.toNat_of_nonneg h0).symm⟩;have HJ:Hid (Num.aZ at' k=j):=by show (at'[k]?.getD 0).toNat=j;rw [hj];rfl
   rw [hj] at hck;clear h0 hj;obtain ⟨⟨u,u0⟩,u1⟩:=hO.cell' k hlt;have hg:=hO.lt.2;clear hO;subst ha;go_wp2_with fail;refine (xZ _ _ _ _ _ _ p.costs _ (Ints.below HC.out hB (Nat.le_refl _)) j).mono ?_;rintro e w5 ⟨rfl,hb5⟩;have NQ:Hid (Own w5 (w.heap.size+1) (w.heap.size+1) al (Num.fill f al k)):=Own.below HO.out hb5 hg;obtain ⟨⟨v,v0⟩,v1⟩:=NQ.out.cell' k hlt;have L9:=ai hbl hb5;clear e0 e1 u0 u1 hb5 hbl;rw [<-HJ.out,HE.out];go_wp2_with fail;go_roundw
   case rel=>exact ⟨k+1,hlt,by go_num,by rw [<-Num.gJ _ _ _ (f k) hlt rfl];exact Own.store NQ.out k (f k),aV L9 (by simp) _⟩
   case measure=>simp [intOf];omega
  ·have hke:k=al:=by omega
   subst hke;clear hO;go_wp2_with fail;go_ret;refine ⟨w.heap.size+1,rfl,by omega,?_,hB⟩;rw [<-Num.iN];exact Own.ints HO.out
open Go.RowKit
namespace Num
def aC (p:Lp) (j i:Nat) : Int:=if j < p.costs.length then (p.rows[i]?.getD ([],0)).1[j]?.getD 0 else if j=p.costs.length+i then 1 else 0
theorem CR (p:Lp) (j i:Nat) (r:List Int×Int) (hr:p.rows[i]?.getD ([],0)=r) (h:j < p.costs.length) : aC p j i=r.1[j]?.getD 0:=by unfold aC;rw [if_pos h,hr]
theorem EI (p:Lp) (j i:Nat) (h:j=p.costs.length+i) : aC p j i=1:=by unfold aC;rw [if_neg (by omega),if_pos h]
theorem Be (p:Lp) (j i:Nat) (h:¬ j < p.costs.length) (h2:j≠p.costs.length+i) : aC p j i=0:=by unfold aC;rw [if_neg h,if_neg h2]
theorem mO (p:Lp) (hm:p.may=true) (j i:Nat) : -12<=aC p j i/\aC p j i<=12:=by
 unfold aC;split
 ·by_cases hi:i < p.rows.length
  ·exact aJ _ _ (p.row_of hm i hi).2.1 (by omega) j
  ·rw [List.getElem?_eq_none (l:=p.rows) (by omega)];simp
 ·split<;>omega
end Num
theorem om (ca:Option Addr) (cl cc:Nat) (ra:Option Addr) (rl rc:Nat) (p:Num.Lp) (w:World) (hr:ay w ra rl p.rows) (hm:p.may=true) (j:Nat) (hj8:j<=8) :
  Calls Tryz.prog 94 #[.agg #[.slice ca cl cc,.slice ra rl rc],.int .i64 j] w fun e w'=>∃g,e=.returned (.slice (some ⟨g,0,none⟩) rl rl)/\w.heap.size<=g/\Ints w' (some ⟨g,0,none⟩) rl ((List.range rl).map (Num.aC p j))/\Below w.heap.size w w':=by
 have HR:Hid (ay w ra rl p.rows):=hr;have HM:Hid (p.may=true):=hm;have NR:=(p.aj hm).1.2;have h4:rl<=4:=by have:=hr.1;have:=(p.aj hm).2.2.1.2;omega
 have kz:Hid (rl=p.rows.length):=hr.1;clear hr hm;obtain ⟨i0,hif,hz0,hz1,hz2⟩:=info_parts Tryz.ja;have hs0:(w.alloc (.cells #[.slice ca cl cc,.slice ra rl rc] 28)).heap.size=w.heap.size+1:=by simp
 go_enter Tryz.func94,Tryz.ntmps94;go_wp2_with (at_make;refine wpList_make_full _ rfl (.tmp 10) (.tmp 10) 25 rfl (w.heap.size+1) 2 i0 (.int .i64 0) 1 Tryz.underlying25 hif hz0 hz1 .i64 .i64 _ _ rl rfl rfl rfl rfl (by rw [hz2];omega) (by unfold maxLen;omega) (by simp) ?_;intro w3 hown hgrow;have hb3:=bY hgrow;obtain ⟨⟨k0,k1⟩,_⟩:=fO hb3;have HO:Hid _:=hown;clear hown hgrow);have rD:Hid (Own w3 (w.heap.size+1) (w.heap.size+1) rl (Num.fill (Num.aC p j) rl 0)):=Own.made _ (by rw [hs0] at HO;exact HO.out);clear HO;go_loopw [15] (fun i wr=>∃k:Nat,k<=rl/\i=.int .i64 k/\Own wr (w.heap.size+1) (w.heap.size+1) rl (Num.fill (Num.aC p j) rl k)/\Below (w.alloc (.cells #[.slice ca cl cc,.slice ra rl rc] 28)).heap.size (w.alloc (.cells #[.slice ca cl cc,.slice ra rl rc] 28)) wr) (fun i _=>rl - (intOf i).toNat)
 case atStart=>exact ⟨0,Nat.zero_le _,rfl,rD.out,hb3⟩
 case round =>
  obtain ⟨k,hk,rfl,hO,hbl⟩:=hrel;have HO:Hid _:=hO;clear rD hb3 k0 k1;have hB:Below w.heap.size w wr:=dN hbl;by_cases hlt:k < rl
  ·rcases (ay.below HR.out hB (Nat.le_refl _)).2 with h|⟨b,off,ha,hbs,hc⟩
   ·omega
   obtain ⟨xa,xl,xc,c0,c1,hx,hxl⟩:=hc k hlt;clear hc;have hxn:xl=p.costs.length:=by have:=hx.1;have:=(p.row_of HM.out k (by have:=kz.out;omega)).1;omega
   obtain ⟨⟨u,u0⟩,u1⟩:=hO.cell' k hlt;have hg:=hO.lt.2;clear hO;have HE1:Hid (j < xl->Num.aC p j k=(p.rows[k]?.getD ([],0)).1[j]?.getD 0):=fun h=>Num.CR p j k _ rfl (by omega);have HE2:Hid (j=xl+k->Num.aC p j k=1):=fun h=>Num.EI p j k (by omega);have HE3:Hid (¬ j < xl->j≠xl+k->Num.aC p j k=0):=fun h h2=>Num.Be p j k (by omega) (by omega);generalize (p.rows[k]?.getD ([],0))=r at *;obtain ⟨r1,r2⟩:=r;dsimp only at *;have hx4:xl<=4:=by omega
   clear hxn NR hxl;subst ha;by_cases hj:(j:Int) < xl
   ·rcases hx.2 with h|⟨b',o',ha,hb',hc'⟩
    ·omega
    have hck:=hc' j (by omega);clear hc' hx;generalize r1[j]?.getD 0=x at hck HE1;subst ha;go_wp2_with fail;go_roundw
    case rel=>exact ⟨k+1,hlt,by go_num,by rw [<-Num.gJ _ _ _ x hlt (HE1.out (by omega)).symm];exact (Own.store HO.out k x).alloc _,ai (aV hbl (by simp) _) (af _ _)⟩
    case measure=>simp [intOf];omega
   ·have hj':decide ((j:Int) < xl)=false:=by simpa using hj
    clear hx;by_cases hj2:j=xl+k
    ·have ac8:((j:Int) == xl+k)=true:=beq_iff_eq.2 (by omega);have HJ2:Hid _:=hj2;clear hj2;go_wp2_with fail;go_roundw
     case rel=>exact ⟨k+1,hlt,by go_num,by rw [<-Num.gJ _ _ _ 1 hlt (HE2.out HJ2.out).symm];exact (Own.store HO.out k 1).alloc _,ai (aV hbl (by simp) _) (af _ _)⟩
     case measure=>simp [intOf];omega
    ·have ac8:((j:Int) == xl+k)=false:=beq_eq_false_iff_ne.2 (by omega);go_wp2_with fail;go_roundw
     case rel=>exact ⟨k+1,hlt,by go_num,by rw [<-Num.L8 _ _ _ (HE3.out (by omega) hj2)];exact Own.alloc HO.out _,ai hbl (af _ _)⟩
     case measure=>simp [intOf];omega
  ·have hke:k=rl:=by omega
   subst hke;clear hO;go_wp2_with fail;go_ret;refine ⟨w.heap.size+1,rfl,by omega,?_,hB⟩;rw [<-Num.iN];exact Own.ints HO.out
open Go.RowKit
theorem Tryz.Ht:(Tryz.prog.info? 25).map (fun i=>(i.zero,i.size,i.bytes))=some (some (.slice none 0 0),1,24):=by kernel_rfl
def iC (w:World) (base g n k:Nat) (f:Nat->List Int) : Prop :=
 ∃vs:List Value,w.ownsRow base 25 1 (.slice (some ⟨g,0,none⟩) n n) n vs/\∀j,j < k->∃gj m,vs[j]? = some (.slice (some ⟨gj,0,none⟩) m m)/\g < gj/\Ints w (some ⟨gj,0,none⟩) m (f j)
theorem iC.made {w:World} {base g n:Nat} {xs:List Value} (f:Nat->List Int) (h:w.ownsRow base 25 1 (.slice (some ⟨g,0,none⟩) n n) n xs) : iC w base g n 0 f :=
 ⟨xs,h,fun _ hj=>absurd hj (Nat.not_lt_zero _)⟩
theorem iC.lt {w:World} {base g n k:Nat} {f:Nat->List Int} (h:iC w base g n k f) : base<=g/\g < w.heap.size:=by obtain ⟨vs,h,_⟩:=h;exact World.ownsRow.lt h g rfl
theorem iC.cell' {w:World} {base g n k:Nat} {f:Nat->List Int} (h:iC w base g n k f) (j:Nat) (hj:j < n) : (∃u,w.cell? ⟨g,j,none⟩=some u)/\w.frozen? ⟨g,j,none⟩=false:=by
 obtain ⟨vs,h,_⟩:=h;have hl:vs.length=n:=by simpa using h.1
 refine ⟨⟨vs[j],?_⟩,World.ownsRow.frozenAt h j⟩;rw [World.ownsRow.cellAt h j (by omega)];exact List.getElem?_eq_getElem (by omega)
theorem Ints.jU {w:World} {g' n:Nat} {l:List Int} (h:Ints w (some ⟨g',0,none⟩) n l) {g j:Nat} (hg:g < g') (u:Value) : Ints (w.setCell ⟨g,j,none⟩ u) (some ⟨g',0,none⟩) n l :=
 Ints.set (base:=g+1) h (Or.inr ⟨g',rfl,by omega⟩) (by show g < g+1;omega) u
theorem iC.store {w:World} {base g n k:Nat} {f:Nat->List Int} (h:iC w base g n k f) (hk:k < n) {gk m:Nat} (hg:g < gk) (hi:Ints w (some ⟨gk,0,none⟩) m (f k)) :
  iC (w.setCell ⟨g,k,none⟩ (.slice (some ⟨gk,0,none⟩) m m)) base g n (k+1) f:=by
 obtain ⟨vs,h,hin⟩:=h;have hl:vs.length=n:=by simpa using h.1
 refine ⟨vs.set k (.slice (some ⟨gk,0,none⟩) m m),(World.ownsRow.stored h k _).1,fun j hj=>?_⟩;by_cases hjk:j=k
 ·subst hjk;exact ⟨gk,m,by rw [List.getElem?_set_self (by omega)],hg,hi.jU hg _⟩
 ·obtain ⟨gj,m',h1,h2,h3⟩:=hin j (by omega);exact ⟨gj,m',by rw [List.getElem?_set_ne (by omega)];exact h1,h2,h3.jU h2 _⟩
theorem iC.below {w w':World} {base g n k:Nat} {f:Nat->List Int} (h:iC w base g n k f) {B:Nat} (hb:Below B w w') (hB:w.heap.size<=B) : iC w' base g n k f:=by have hlt:=h.lt.2;obtain ⟨vs,h,hin⟩:=h;refine ⟨vs,own_below h hb (by omega),fun j hj=>?_⟩;obtain ⟨gj,m',h1,h2,h3⟩:=hin j hj;exact ⟨gj,m',h1,h2,h3.below hb hB⟩
theorem x9 {α:Type} (f:Nat->α) (n j:Nat) (d:α) (h:j < n) : ((List.range n).map f)[j]?.getD d=f j:=by rw [List.getElem?_map];simp [h]
theorem iC.lines {w:World} {base g n:Nat} {f:Nat->List Int} (h:iC w base g n n f) : dL w (some ⟨g,0,none⟩) n ((List.range n).map f):=by
 have hlt:=h.lt.2;obtain ⟨vs,h,hin⟩:=h;have hl:vs.length=n:=by simpa using h.1
 refine ⟨by simp,Or.inr ⟨g,0,rfl,hlt,fun j hj=>?_⟩⟩;obtain ⟨gj,m',h1,h2,h3⟩:=hin j hj;refine ⟨_,_,_,?_,by rw [x9 f n j [] hj];exact h3,Nat.le_refl _⟩;rw [Nat.zero_add,World.ownsRow.cellAt h j (by omega)];exact h1
theorem wF (ca:Option Addr) (cl cc:Nat) (ra:Option Addr) (rl rc:Nat) (p:Num.Lp) (w:World) (hr:ay w ra rl p.rows) (hm:p.may=true) (aa:Option Addr) (al ac:Nat) (at':List Int) (ha:Ints w aa al at')
  (h4:al<=4) (hat:∀k,k < al->0<=at'[k]?.getD 0/\at'[k]?.getD 0<=8) :
  Calls Tryz.prog 54 #[.agg #[.slice ca cl cc,.slice ra rl rc],.slice aa al ac] w fun e w'=>∃g,e=.returned (.slice (some ⟨g,0,none⟩) al al)/\w.heap.size<=g/\
   dL w' (some ⟨g,0,none⟩) al ((List.range al).map fun k=>(List.range rl).map (Num.aC p (Num.aZ at' k)))/\Below w.heap.size w w':=by
 have HR:Hid (ay w ra rl p.rows):=hr;have HM:Hid (p.may=true):=hm;have HA:Hid (Ints w aa al at'):=ha;have HAT:Hid (∀k,k < al->0<=at'[k]?.getD 0/\at'[k]?.getD 0<=8):=hat;clear hr ha hat hm;generalize hf:(fun k=>(List.range rl).map (Num.aC p (Num.aZ at' k)))=f;have HF:Hid _:=hf;clear hf;obtain ⟨i0,hif,hz0,hz1,hz2⟩:=info_parts Tryz.Ht;have hs0:(w.alloc (.cells #[.slice ca cl cc,.slice ra rl rc] 28)).heap.size=w.heap.size+1:=by simp
 go_enter Tryz.func54,Tryz.ntmps54;go_wp2_with (at_make;refine wpList_make_full _ rfl (.tmp 9) (.tmp 9) 115 rfl (w.heap.size+1) 25 i0 (.slice none 0 0) 1 Tryz.underlying115 hif hz0 hz1 .i64 .i64 _ _ al rfl rfl rfl rfl (by rw [hz2];omega) (by unfold maxLen;omega) (by simp) ?_;intro w3 hown hgrow;have hb3:=bY hgrow;have HO:Hid _:=hown;clear hown hgrow);have rD:Hid (iC w3 (w.heap.size+1) (w.heap.size+1) al 0 f):=iC.made _ (by rw [hs0] at HO;exact HO.out);clear HO;go_loopw [13] (fun i wr=>∃k:Nat,k<=al/\i=.int .i64 k/\iC wr (w.heap.size+1) (w.heap.size+1) al k f/\Below (w.alloc (.cells #[.slice ca cl cc,.slice ra rl rc] 28)).heap.size (w.alloc (.cells #[.slice ca cl cc,.slice ra rl rc] 28)) wr) (fun i _=>al - (intOf i).toNat)
 case atStart=>exact ⟨0,Nat.zero_le _,rfl,rD.out,hb3⟩
 case round =>
  obtain ⟨k,hk,rfl,hO,hbl⟩:=hrel;have HO:Hid (iC wr (w.heap.size+1) (w.heap.size+1) al k f):=hO;clear rD hb3;have hB:Below w.heap.size w wr:=dN hbl;by_cases hlt:k < al
  ·rcases (Ints.below HA.out hB (Nat.le_refl _)).2 with h|⟨b,off,ha,hbs,hc⟩
   ·omega
   have hck:=hc k hlt;have h0:=HAT.out k hlt;clear hc;obtain ⟨⟨e0,e1⟩,_⟩:=fO hbl;have HE:Hid ((List.range rl).map (Num.aC p (Num.aZ at' k))=f k):=by rw [<-HF.out];exact rfl
   obtain ⟨j,hj⟩ : ∃j:Nat,at'[k]?.getD 0=j:=⟨_,(Int.toNat_of_nonneg h0.1).symm⟩;have HJ:Hid (Num.aZ at' k=j):=by show (at'[k]?.getD 0).toNat=j;rw [hj];rfl
   rw [hj] at hck h0;clear hj;have hg:=hO.lt.2;clear hO;subst ha;go_wp2_with fail;refine (om _ _ _ _ _ _ p _ (ay.below HR.out hB (Nat.le_refl _)) HM.out j (by omega)).mono ?_;rintro e w5 ⟨g5,rfl,hg5,hi5,hb5⟩;have NQ:Hid (iC w5 (w.heap.size+1) (w.heap.size+1) al k f):=iC.below HO.out hb5 (Nat.le_refl _);have VZ:Hid (Ints w5 (some ⟨g5,0,none⟩) rl (f k)):=by rw [<-HE.out,HJ.out];exact hi5
   obtain ⟨⟨v,v0⟩,v1⟩:=iC.cell' NQ.out k hlt;have L9:=ai hbl hb5;clear e0 e1 hb5 hbl hi5;go_wp2_with fail;go_roundw
   case rel=>exact ⟨k+1,hlt,by go_num,iC.store NQ.out hlt (by omega) VZ.out,aV L9 (by simp) _⟩
   case measure=>simp [intOf];omega
  ·have hke:k=al:=by omega
   subst hke;clear hO;go_wp2_with fail;go_ret;exact ⟨w.heap.size+1,rfl,by omega,iC.lines HO.out,hB⟩
namespace Num
def spreadN (N:Nat) (at' nums:List Int) : Nat->List Int
 | 0=>List.replicate N 0
 | k+1=>(spreadN N at' nums k).set (aZ at' k) (nums[k]?.getD 0)
end Num
theorem Hu (ca:Option Addr) (cl cc:Nat) (ra:Option Addr) (rl rc:Nat) (w:World) (aa:Option Addr) (al ac:Nat) (at':List Int) (ha:Ints w aa al at') (na:Option Addr) (nc:Nat) (nums:List Int) (hn:Ints w na al nums)
  (h4:al<=4) (N:Nat) (hN:cl+rl=N) (h8:N<=8) (hat:∀k,k < al->0<=at'[k]?.getD 0/\at'[k]?.getD 0 < N) :
  Calls Tryz.prog 60 #[.agg #[.slice ca cl cc,.slice ra rl rc],.slice aa al ac,.slice na al nc] w fun e w'=>∃g,e=.returned (.slice (some ⟨g,0,none⟩) N N)/\w.heap.size<=g/\
   Ints w' (some ⟨g,0,none⟩) N (Num.spreadN N at' nums al)/\Below w.heap.size w w':=by
 have HA:Hid (Ints w aa al at'):=ha;have HN:Hid (Ints w na al nums):=hn;have HAT:Hid (∀k,k < al->0<=at'[k]?.getD 0/\at'[k]?.getD 0 < N):=hat;have D9:Hid (cl+rl=N):=hN;clear ha hn hat hN;obtain ⟨i0,hif,hz0,hz1,hz2⟩:=info_parts Tryz.ja;have hs0:(w.alloc (.cells #[.slice ca cl cc,.slice ra rl rc] 28)).heap.size=w.heap.size+1:=by simp
 go_enter Tryz.func60,Tryz.ntmps60;go_wp2_with fail;refine (nG _ _ _ _ _ _ _ N D9.out h8).mono ?_;rintro e w1 ⟨rfl,hb1⟩;obtain ⟨⟨e0,e1⟩,_⟩:=fO hb1;go_wp2_with (at_make;refine wpList_make_full _ rfl (.tmp 11) (.tmp 11) 25 rfl w1.heap.size 2 i0 (.int .i64 0) 1 Tryz.underlying25 hif hz0 hz1 .i64 .i64 _ _ N rfl rfl rfl rfl (by rw [hz2];omega) (by unfold maxLen;omega) (Nat.le_refl _) ?_;intro w3 hown hgrow;have hb3:=bY hgrow;have HO:Hid _:=hown;clear hown hgrow);have rD:Hid (Own w3 w1.heap.size w1.heap.size N (Num.spreadN N at' nums 0)):=by have:=Own.made (fun _=>0) HO.out;rw [Num.qO] at this;exact this
 have hW:w.heap.size < w1.heap.size:=by have:=hb1.size;simp at this;omega
 have OT:Below (w.alloc (.cells #[.slice ca cl cc,.slice ra rl rc] 28)).heap.size (w.alloc (.cells #[.slice ca cl cc,.slice ra rl rc] 28)) w3:=ai hb1 hb3;clear HO hb1 hb3 e0 e1;go_loopw [15] (fun i wr=>∃k:Nat,k<=al/\i=.int .i64 k/\Own wr w1.heap.size w1.heap.size N (Num.spreadN N at' nums k)/\Below w.heap.size w wr) (fun i _=>al - (intOf i).toNat)
 case atStart=>exact ⟨0,Nat.zero_le _,rfl,rD.out,dN OT⟩
 case round =>
  obtain ⟨k,hk,rfl,hO,hB⟩:=hrel;have HO:Hid _:=hO;clear rD OT;by_cases hlt:k < al
  ·rcases (Ints.below HA.out hB (Nat.le_refl _)).2 with h|⟨b,off,ha,hbs,hc⟩
   ·omega
   rcases (Ints.below HN.out hB (Nat.le_refl _)).2 with h|⟨b',off',ha',az2,hc'⟩
   ·omega
   have hck:=hc k hlt;have ac9:=hc' k hlt;have h0:=HAT.out k hlt;clear hc hc';obtain ⟨j,hj⟩ : ∃j:Nat,at'[k]?.getD 0=j:=⟨_,(Int.toNat_of_nonneg h0.1).symm⟩;have HJ:Hid (Num.aZ at' k=j):=by show (at'[k]?.getD 0).toNat=j;rw [hj];rfl
   have CU:j < N:=by have:=h0.2;rw [hj] at this;omega
   rw [hj] at hck;clear hj h0;obtain ⟨⟨u,u0⟩,u1⟩:=hO.cell' j CU;have hg:=hO.lt.2;clear hO;have HX:Hid (Num.spreadN N at' nums (k+1)=(Num.spreadN N at' nums k).set j (nums[k]?.getD 0)):=by rw [<-HJ.out];exact rfl
   generalize nums[k]?.getD 0=x at ac9 HX;subst ha ha';go_wp2_with fail;go_roundw
   case rel=>exact ⟨k+1,hlt,by go_num,by rw [HX.out];exact Own.store HO.out j x,aV hB (by omega) _⟩
   case measure=>simp [intOf];omega
  ·have hke:k=al:=by omega
   subst hke;clear hO;go_wp2_with fail;go_ret;exact ⟨w1.heap.size,rfl,by omega,Own.ints HO.out,hB⟩
open Go.RowKit
structure eP (V:World) (base g n k:Nat) (l:List Int) (x:Int) (w:World) : Prop where
 dS:Below V.heap.size V w
 row:∃l',Own w base g n l'/\(l'=l\/l'=l.set k x)
theorem eP.start {V:World} {base g n k:Nat} {l:List Int} {x:Int} {w:World} (h:Below V.heap.size V w) (ho:Own w base g n l) : eP V base g n k l x w:=⟨h,l,ho,Or.inl rfl⟩
theorem eP.drew {V:World} {base g n k:Nat} {l:List Int} {x:Int} {w:World} (h:eP V base g n k l x w) : eP V base g n k l x w.drew :=
 ⟨h.dS.drew,by obtain ⟨l',ho,hl⟩:=h.row;exact ⟨l',ho,hl⟩⟩
theorem eP.step {V:World} {base g n k:Nat} {l:List Int} {x:Int} {w w':World} (h:eP V base g n k l x w) (hb:Below w.heap.size w w') : eP V base g n k l x w' :=
 ⟨ai h.dS hb,by obtain ⟨l',ho,hl⟩:=h.row;exact ⟨l',ho.below hb ho.lt.2,hl⟩⟩
theorem eP.stored {V:World} {base g n k:Nat} {l:List Int} {x:Int} {w:World} (h:eP V base g n k l x w) : Own (w.setCell ⟨g,k,none⟩ (.int .i64 x)) base g n (l.set k x):=by
 obtain ⟨l',ho,hl⟩:=h.row;have:=ho.store k x;rcases hl with rfl|rfl
 ·exact this
 ·rw [List.set_set] at this;exact this
theorem eP.set {V:World} {base g n k:Nat} {l:List Int} {x:Int} {w:World} (h:eP V base g n k l x w) (hg:V.heap.size<=g) : eP V base g n k l x (w.setCell ⟨g,k,none⟩ (.int .i64 x)) :=
 ⟨aV h.dS hg _,_,h.stored,Or.inr rfl⟩
theorem eP.cell {V:World} {base g n k:Nat} {l:List Int} {x:Int} (hk:k < n) : ∃F:World->Value,(∀w,eP V base g n k l x w->w.cell? ⟨g,k,none⟩=some (F w))/\(∀w,eP V base g n k l x w->w.frozen? ⟨g,k,none⟩=false):=by
 refine ⟨fun w=>(w.cell? ⟨g,k,none⟩).getD undef,?_,?_⟩
 ·intro w h;obtain ⟨l',ho,_⟩:=h.row;show w.cell? ⟨g,k,none⟩=some ((w.cell? ⟨g,k,none⟩).getD undef);rw [(ho.cell k hk).1];rfl
 ·intro w h;obtain ⟨l',ho,_⟩:=h.row;exact (ho.cell k hk).2
def Num.bV (p:Num.Lp) (y:List Int) (d:Int) (j:Nat) : Int:=p.costs[j]?.getD 0*d - Num.dotN ((List.range p.rows.length).map (Num.aC p j)) y p.rows.length
theorem nH (ca:Option Addr) (cl cc:Nat) (ra:Option Addr) (rl rc:Nat) (p:Num.Lp) (w:World) (hc:Ints w ca cl p.costs) (hr:ay w ra rl p.rows) (hm:p.may=true) (ya:Option Addr) (yc:Nat) (y:List Int) (hy:Ints w ya rl y) (d:Int)
  (N:Nat) (hN:cl+rl=N) (hd : -6553600000000<=d/\d<=6553600000000) (hyb:∀j:Nat,-6553600000000<=y[j]?.getD 0/\y[j]?.getD 0<=6553600000000) :
  Calls Tryz.prog 62 #[.agg #[.slice ca cl cc,.slice ra rl rc],.slice ya rl yc,.int .i64 d] w fun e w'=>∃g,e=.returned (.slice (some ⟨g,0,none⟩) N N)/\w.heap.size<=g/\
   Ints w' (some ⟨g,0,none⟩) N ((List.range N).map (Num.bV p y d))/\Below w.heap.size w w':=by
 have HC:Hid (Ints w ca cl p.costs):=hc;have HR:Hid (ay w ra rl p.rows):=hr;have HY:Hid (Ints w ya rl y):=hy;have HM:Hid (p.may=true):=hm;have D9:Hid (cl+rl=N):=hN;have RF:Hid (∀j:Nat,-6553600000000<=y[j]?.getD 0/\y[j]?.getD 0<=6553600000000):=hyb;have h4:rl<=4:=by have:=hr.1;have:=(p.aj hm).2.2.1.2;omega
 have h8:N<=8:=by have:=hc.1;have:=(p.aj hm).1.2;omega
 have kz:Hid (rl=p.rows.length):=hr.1;have V4:Hid (∀j:Nat,-400<=p.costs[j]?.getD 0/\p.costs[j]?.getD 0<=400):=Num.aJ _ _ (p.aj hm).2.1 (by omega);clear hc hr hy hm hN hyb;obtain ⟨i0,hif,hz0,hz1,hz2⟩:=info_parts Tryz.ja;go_enter Tryz.func62,Tryz.ntmps62;go_wp2_with fail;refine (nG _ _ _ _ _ _ _ N D9.out h8).mono ?_;rintro e w1 ⟨rfl,hb1⟩;obtain ⟨⟨e0,e1⟩,_⟩:=fO hb1;go_wp2_with (at_make;refine wpList_make_full _ rfl (.tmp 10) (.tmp 10) 25 rfl w1.heap.size 2 i0 (.int .i64 0) 1 Tryz.underlying25 hif hz0 hz1 .i64 .i64 _ _ N rfl rfl rfl rfl (by rw [hz2];omega) (by unfold maxLen;omega) (Nat.le_refl _) ?_;intro w3 hown hgrow;have hb3:=bY hgrow;have HO:Hid _:=hown;clear hown hgrow);have rD:Hid (Own w3 w1.heap.size w1.heap.size N (Num.fill (Num.bV p y d) N 0)):=Own.made _ HO.out;have hW:w.heap.size < w1.heap.size:=by have:=hb1.size;simp at this;omega
 generalize ZG:w.alloc (.cells #[.slice ca cl cc,.slice ra rl rc] 28)=V0 at *;have hs0:V0.heap.size=w.heap.size+1:=by rw [<-ZG];simp
 have tQ:Below w.heap.size w V0:=by rw [<-ZG];exact af _ _
 have hcv:V0.cell? ⟨w.heap.size,0,none⟩=some (.slice ca cl cc)/\V0.cell? ⟨w.heap.size,1,none⟩=some (.slice ra rl rc):=by rw [<-ZG];exact aU rfl _ _ _
 have OT:Below V0.heap.size V0 w3:=ai hb1 hb3;clear HO hb1 hb3 e0 e1 ZG;go_loopw [14] (fun i wr=>∃k:Nat,k<=N/\i=.int .i64 k/\Own wr w1.heap.size w1.heap.size N (Num.fill (Num.bV p y d) N k)/\Below V0.heap.size V0 wr) (fun i _=>N - (intOf i).toNat)
 case atStart=>exact ⟨0,Nat.zero_le _,rfl,rD.out,OT⟩
 case round =>
  obtain ⟨k,hk,rfl,hO,hB⟩:=hrel;have HO:Hid _:=hO;clear rD OT;by_cases hlt:k < N
  ·have HX:Hid (Num.bV p y d k=p.costs[k]?.getD 0*d - Num.dotN ((List.range rl).map (Num.aC p k)) y rl):=by have:=kz.out;rw [this];exact rfl
   have hcb:=V4.out k;have hq:=Num.ko _ _ _ _ hcb hd;have hD:=Num.jq ((List.range rl).map (Num.aC p k)) y 12 6553600000000 (fun j=>by rw [Num.aA];split;exact Num.mO p HM.out k j;omega) RF.out rl;have hD' : -314572800000000<=Num.dotN ((List.range rl).map (Num.aC p k)) y rl/\Num.dotN ((List.range rl).map (Num.aC p k)) y rl<=314572800000000:=by omega
   have KW:Hid (∀w',eP V0 w1.heap.size w1.heap.size N k (Num.fill (Num.bV p y d) N k) (Num.bV p y d k) w'->Calls Tryz.prog 97 #[.agg #[.slice ca cl cc,.slice ra rl rc],.int .i64 k] w' fun e w''=>e=.returned (.int .i64 (p.costs[k]?.getD 0))/\
     eP V0 w1.heap.size w1.heap.size N k (Num.fill (Num.bV p y d) N k) (Num.bV p y d k) w''/\Below w'.heap.size w' w''):=by
    intro w' h;exact (xZ _ _ _ _ _ _ p.costs w' (Ints.below HC.out (tQ.trans (h.dS.mono (by omega))) (Nat.le_refl _)) k).mono fun _ _ q=>⟨q.1,h.step q.2,q.2⟩
   have KC:Hid (∀w',eP V0 w1.heap.size w1.heap.size N k (Num.fill (Num.bV p y d) N k) (Num.bV p y d k) w'->Calls Tryz.prog 94 #[.agg #[.slice ca cl cc,.slice ra rl rc],.int .i64 k] w' fun e w''=>∃g2,e=.returned (.slice (some ⟨g2,0,none⟩) rl rl)/\
     eP V0 w1.heap.size w1.heap.size N k (Num.fill (Num.bV p y d) N k) (Num.bV p y d k) w''/\Ints w'' (some ⟨g2,0,none⟩) rl ((List.range rl).map (Num.aC p k))):=by
    intro w' h;refine (om _ _ _ _ _ _ p w' (ay.below HR.out (tQ.trans (h.dS.mono (by omega))) (Nat.le_refl _)) HM.out k (by omega)).mono ?_;rintro e w'' ⟨g2,rfl,_,hi,hb⟩;exact ⟨g2,rfl,h.step hb,hi⟩
   have KT:Hid (∀w' g2,eP V0 w1.heap.size w1.heap.size N k (Num.fill (Num.bV p y d) N k) (Num.bV p y d k) w'->Ints w' (some ⟨g2,0,none⟩) rl ((List.range rl).map (Num.aC p k))->Calls Tryz.prog 99 #[.slice (some ⟨g2,0,none⟩) rl rl,.slice ya rl yc] w' fun e w''=>e=.returned (.int .i64 (Num.dotN ((List.range rl).map (Num.aC p k)) y rl))/\
     eP V0 w1.heap.size w1.heap.size N k (Num.fill (Num.bV p y d) N k) (Num.bV p y d k) w''):=by
    intro w' g2 h hi;exact (fE (kY _ _ _ _ _ _ ((List.range rl).map (Num.aC p k)) y w' 12 6553600000000 hi (Ints.below HY.out (tQ.trans (h.dS.mono (by omega))) (Nat.le_refl _)) rfl (by omega) (fun j=>by rw [Num.aA];split;exact Num.mO p HM.out k j;omega) RF.out (by omega))).mono fun _ _ q=>⟨q.1,h.step q.2⟩
   obtain ⟨F,qF,qZ⟩:=eP.cell (V:=V0) (base:=w1.heap.size) (g:=w1.heap.size) (l:=Num.fill (Num.bV p y d) N k) (x:=Num.bV p y d k) hlt;have hR:=eP.drew (eP.start (k:=k) (x:=Num.bV p y d k) hB hO);have HST:Hid (∀w',eP V0 w1.heap.size w1.heap.size N k (Num.fill (Num.bV p y d) N k) (Num.bV p y d k) w'->Own (w'.setCell ⟨w1.heap.size,k,none⟩ (.int .i64 (Num.bV p y d k))) w1.heap.size w1.heap.size N (Num.fill (Num.bV p y d) N (k+1))/\Below V0.heap.size V0 (w'.setCell ⟨w1.heap.size,k,none⟩ (.int .i64 (Num.bV p y d k)))):=by intro w' h;refine ⟨?_,aV h.dS (by omega) _⟩;rw [<-Num.gJ _ _ _ (Num.bV p y d k) hlt rfl];exact h.stored
   have Xo:Hid (∀w',eP V0 w1.heap.size w1.heap.size N k (Num.fill (Num.bV p y d) N k) (Num.bV p y d k) w'->eP V0 w1.heap.size w1.heap.size N k (Num.fill (Num.bV p y d) N k) (Num.bV p y d k) (w'.setCell ⟨w1.heap.size,k,none⟩ (.int .i64 (Num.bV p y d k)))):=fun w' h=>h.set (by omega);have q0:∀w',eP V0 w1.heap.size w1.heap.size N k (Num.fill (Num.bV p y d) N k) (Num.bV p y d k) w'->w'.cell? ⟨w.heap.size,0,none⟩=some (.slice ca cl cc):=fun w' h=>by rw [h.dS.cell (by show w.heap.size < _;omega)];exact hcv.1
   have q1:∀w',eP V0 w1.heap.size w1.heap.size N k (Num.fill (Num.bV p y d) N k) (Num.bV p y d k) w'->w'.cell? ⟨w.heap.size,1,none⟩=some (.slice ra rl rc):=fun w' h=>by rw [h.dS.cell (by show w.heap.size < _;omega)];exact hcv.2
   clear hO;generalize Num.bV p y d k=x at *;generalize Num.fill (Num.bV p y d) N k=l0 at *;generalize Num.dotN ((List.range rl).map (Num.aC p k)) y rl=D at *;generalize p.costs[k]?.getD 0=c at HX hcb hq KW;have e1:wrap64 (c*d)=c*d:=IntWalk.wrap64_in _ (by omega);have e2:wrap64 (c*d - D)=x:=by rw [HX.out];exact IntWalk.wrap64_in _ (by omega)
   have e3:IntKind.i64.wrap (IntKind.i64.wrap (c*d) - D)=x:=by rw [IntWalk.i64_left,IntWalk.i64_left,e1,e2]
   have E3:Hid _:=e3;clear hcb hD hcv e1 e2 e3;go_wp2_with fail;go_region_held3 (fun w'=>eP V0 w1.heap.size w1.heap.size N k l0 x w') (first|assumption|(rw [E3.out];apply Xo.out;assumption))
    (first|(go_at_call 97;refine (KW.out _ ?_).mono ?_;assumption;rintro e v1 ⟨rfl,hb1,hk1⟩;(try (have hI:=Ints.below hI hk1 (Nat.le_refl _))))
               | (go_at_call 94;refine (KC.out _ ?_).mono ?_;assumption;rintro e v2 ⟨g2,rfl,hb2,hI⟩)
               | (go_at_call 99;refine (KT.out _ _ ?_ hI).mono ?_;assumption;rintro e v3 ⟨rfl,hb3⟩))
   all_goals
    rename_i hfin;obtain ⟨r1,r2⟩:=HST.out v3 hb3;have R1:Hid _:=r1;clear q0 q1 qF qZ KW KC KT r1 hfin;rw [E3.out];go_wp2_with fail;go_roundw
    case rel=>exact ⟨k+1,hlt,by go_num,R1.out,r2⟩
    case measure=>simp [intOf];omega
  ·have hke:k=N:=by omega
   subst hke;clear hO;go_wp2_with fail;go_ret;exact ⟨w1.heap.size,rfl,by omega,by rw [<-Num.iN];exact Own.ints HO.out,tQ.trans (hB.mono (by omega))⟩
open Go.RowKit
theorem dL.shape {w:World} {a:Option Addr} {n:Nat} {ls:List (List Int)} (h:dL w a n ls) (h1:1<=n) : ∃b off,a=some ⟨b,off,none⟩/\b < w.heap.size/\∃vs:List Value,vs.length=n/\(∀j,j < n->w.cell? ⟨b,off+j,none⟩=vs[j]?)/\
  ∀j,j < n->∃ra rl rc,vs[j]? = some (.slice ra rl rc)/\Ints w ra rl (ls[j]?.getD [])/\rl<=rc:=by
 rcases h.2 with h0|⟨b,off,ha,hs,hc⟩
 ·omega
 ·refine ⟨b,off,ha,hs,(List.range n).map (fun j=>(w.cell? ⟨b,off+j,none⟩).getD undef),by simp,fun j hj=>?_,fun j hj=>?_⟩
  ·obtain ⟨ra,rl,rc,c0,_⟩:=hc j hj;rw [List.getElem?_map];simp [hj,c0]
  ·obtain ⟨ra,rl,rc,c0,c1,c2⟩:=hc j hj;refine ⟨ra,rl,rc,?_,c1,c2⟩;rw [List.getElem?_map];simp [hj,c0]
theorem addr_add (b off j:Nat) : (⟨b,off,none⟩ : Addr).add j=⟨b,off+j,none⟩:=by unfold Addr.add;split<;>simp_all
theorem J5 {w w':World} {b off n:Nat} {vs:List Value} (hb:Below w.heap.size w w') (hlt:b < w.heap.size) (hv:vs.length=n) (hc:∀j,j < n->w.cell? ⟨b,off+j,none⟩=vs[j]?) :
  ∀(j:Nat) (u:Value),vs[j]? = some u->w'.cell? ((⟨b,off,none⟩ : Addr).add j)=some u:=by
 intro j u hu;have hj:j < n:=by
  rcases Nat.lt_or_ge j vs.length with h|h
  ·omega
  ·rw [List.getElem?_eq_none h] at hu;cases hu
 rw [addr_add,hb.cell (p:=⟨b,off+j,none⟩) hlt,hc j hj,hu]
theorem Ma {vs:List Value} {n:Nat} (hv:vs.length=n) (hs:∀j,j < n->∃ra rl rc,vs[j]? = some (.slice ra rl rc)) : ∀u∈vs,u.oneCell'=true:=by intro u hu;obtain ⟨j,hj,rfl⟩:=List.getElem_of_mem hu;obtain ⟨ra,rl,rc,h⟩:=hs j (by omega);rw [List.getElem?_eq_getElem hj] at h;simp only [Option.some.injEq] at h;rw [h];rfl
theorem EJ {w:World} {base n:Nat} {t:TypeId} {v:Value} {xs:List Value} (h:w.ownsRow base t 1 v n xs) (h1:1<=n) : ∃g c,v=.slice (some ⟨g,0,none⟩) n c/\base<=g/\n<=c:=by
 rcases h.2 with ⟨_,h0⟩|⟨g,cap,cur,hv,hb,_,hc,_⟩
 ·omega
 ·exact ⟨g,cap,hv,hb,hc⟩
theorem Mc (b off n cap:Nat) (w:World) (vs:List Value) (hv:vs.length=n) (hc:∀j,j < n->w.cell? ⟨b,off+j,none⟩=vs[j]?) (hs:∀j,j < n->∃ra rl rc,vs[j]? = some (.slice ra rl rc)) (h1:1<=n) (h4:n<=4) (hb:b < w.heap.size) :
  Calls Tryz.prog 96 #[.slice (some ⟨b,off,none⟩) n cap] w fun e w'=>∃g c,e=.returned (.slice (some ⟨g,0,none⟩) n c)/\w.heap.size<=g/\n<=c/\w'.ownsRow w.heap.size 25 1 (.slice (some ⟨g,0,none⟩) n c) n vs/\Below w.heap.size w w':=by
 have HC:Hid (∀j,j < n->w.cell? ⟨b,off+j,none⟩=vs[j]?):=hc;have HS:Hid (∀j,j < n->∃ra rl rc,vs[j]? = some (.slice ra rl rc)):=hs;have HV:Hid (vs.length=n):=hv;clear hc hs hv;obtain ⟨i0,hif,hz0,hz1,hz2⟩:=info_parts Tryz.Ht;go_enter Tryz.func96,Tryz.ntmps96;have qn:∀(w:World) (a:Option Addr) (n c n' c':Nat),(binOp .eql 115 (.slice a n c) (.slice none n' c')).run Tryz.prog w=.ok (.bool a.isNone) w:=fun w a n c n' c'=>Lib.run_eql_slice_nil w _ _ a n c n' c' Tryz.underlying115;go_wp2_with (at_builtin;refine wpList_append_own _ rfl (.tmp 5) (.tmp 6) 115 rfl w.heap.size 25 i0 (.slice none 0 0) 1 24 Tryz.underlying115 hif hz0 hz1 hz2 rfl (by decide) _ 0 [] rfl ?o1 ⟨b,off,none⟩ n cap vs rfl ?o2 ?o3 ?o4 ?o5 ?o6 ?o7 ?_)
 case o1=>exact World.ownsRow_made w #[] 0 (Nat.le_refl _) (Nat.zero_le _) rfl
 case o2=>rw [HV.out,Nat.mul_one]
 case o3=>exact J5 (af _ _) hb HV.out HC.out
 case o4=>exact Ma HV.out HS.out
 case o5=>unfold maxLen;omega
 case o6=>omega
 case o7=>simp
 intro v' w1 hown hgrow _;obtain ⟨g,c,hv,hg,hn⟩:=EJ hown h1;subst hv;have HO:Hid _:=hown;have hB:Below w.heap.size w w1:=Below.grown (af _ _) hgrow (by simp) (fun j hj=>by simp [Value.ownBlock] at hj;omega);clear hown hgrow;go_wp2_with fail;go_ret;exact ⟨g,c,rfl,hg,hn,HO.out,hB⟩
namespace Num
theorem wB.set {B:Int} {ls:List (List Int)} (h:wB B ls) (k:Nat) (l:List Int) (hl:∀j:Nat,-B<=l[j]?.getD 0/\l[j]?.getD 0<=B) : wB B (ls.set k l):=by
 intro i j;unfold at2;rw [List.getElem?_set];by_cases hk:k=i
 ·by_cases hi:k < ls.length
  ·simp only [hk,if_true];rw [if_pos (by omega)];exact hl j
  ·rw [if_pos hk,if_neg hi];have:=hl 0;simp;omega
 ·rw [if_neg hk];exact h i j
theorem yg {ls:List (List Int)} {n:Nat} (h:∀l∈ls,l.length<=n) (k:Nat) (x:List Int) (hx:x.length<=n) : ∀l∈ls.set k x,l.length<=n:=by
 intro l hl;rcases List.mem_or_eq_of_mem_set hl with h1|rfl
 ·exact h l h1
 ·exact hx
end Num
theorem Md {w w':World} {base g c n k:Nat} {vs:List Value} {ls:List (List Int)} {wa:Option Addr} {wl wc:Nat} {want:List Int} (hls:ls.length=n) (ho:w'.ownsRow base 25 1 (.slice (some ⟨g,0,none⟩) n c) n vs) (hb:Below w.heap.size w w') (hg:w.heap.size<=g)
  (hin:∀j,j < n->∃ra rl rc,vs[j]? = some (.slice ra rl rc)/\Ints w ra rl (ls[j]?.getD [])/\rl<=rc) (hk:k < n) (hw:Ints w wa wl want) (hwc:wl<=wc) :
  dL (w'.setCell ⟨g,k,none⟩ (.slice wa wl wc)) (some ⟨g,0,none⟩) n (ls.set k want):=by
 have hst:=World.ownsRow.stored ho k (.slice wa wl wc);have hlt:=(World.ownsRow.lt hst.1 g rfl).2;have hb':Below w.heap.size w (w'.setCell ⟨g,k,none⟩ (.slice wa wl wc)):=aV hb hg _;have hl:vs.length=n:=by simpa using ho.1
 refine ⟨by simp [hls],Or.inr ⟨g,0,rfl,hlt,fun j hj=>?_⟩⟩;rw [Nat.zero_add,World.ownsRow.cellAt hst.1 j (by omega)];by_cases hjk:k=j
 ·subst hjk;refine ⟨wa,wl,wc,by rw [List.getElem?_set_self (by omega)],?_,hwc⟩;rw [List.getElem?_set_self (by omega)];exact hw.below hb' (Nat.le_refl _)
 ·obtain ⟨ra,rl,rc,h1,h2,h3⟩:=hin j hj;refine ⟨ra,rl,rc,by rw [List.getElem?_set_ne hjk];exact h1,?_,h3⟩;rw [List.getElem?_set_ne hjk];exact h2.below hb' (Nat.le_refl _)
theorem yh (a:Option Addr) (n cap:Nat) (ls:List (List Int)) (w:World) (hl:dL w a n ls) (wa:Option Addr) (wl wc:Nat) (want:List Int) (hw:Ints w wa wl want) (hwl:wl<=wc) (h1:1<=n) (h4:n<=4) (h4w:wl<=4) (hlen:∀l∈ls,l.length<=4) (hB:Num.wB 400 ls) (hwB:∀j:Nat,-400<=want[j]?.getD 0/\want[j]?.getD 0<=400) :
  Calls Tryz.prog 56 #[.slice a n cap,.slice wa wl wc] w fun e w'=>∃g,e=.returned (.slice (some ⟨g,0,none⟩) n n)/\w.heap.size<=g/\Ints w' (some ⟨g,0,none⟩) n ((List.range n).map fun k=>Num.vol (ls.set k want) Num.aI)/\Below w.heap.size w w':=by
 have J4:Hid (n=ls.length):=hl.1;obtain ⟨b,off,ha,hbs,vs,hvl,hvc,hvs⟩:=hl.shape h1;have KC:Hid (∀w',Below w.heap.size w w'->Calls Tryz.prog 96 #[.slice (some ⟨b,off,none⟩) n cap] w' fun e w''=>∃g c,e=.returned (.slice (some ⟨g,0,none⟩) n c)/\w'.heap.size<=g/\n<=c/\w''.ownsRow w'.heap.size 25 1 (.slice (some ⟨g,0,none⟩) n c) n vs/\Below w'.heap.size w' w''):=by intro w' h;exact Mc b off n cap w' vs hvl (fun j hj=>by rw [h.cell (p:=⟨b,off+j,none⟩) hbs];exact hvc j hj) (fun j hj=>by obtain ⟨ra,rl,rc,q,_⟩:=hvs j hj;exact ⟨ra,rl,rc,q⟩) h1 h4 (Nat.lt_of_lt_of_le hbs h.size)
 have KL:Hid (∀(w':World) (base g c k:Nat),w'.ownsRow base 25 1 (.slice (some ⟨g,0,none⟩) n c) n vs->Below w.heap.size w w'->w.heap.size<=g->k < n->dL (w'.setCell ⟨g,k,none⟩ (.slice wa wl wc)) (some ⟨g,0,none⟩) n (ls.set k want)) :=
  fun w' base g c k ho hb hg hk=>Md J4.out.symm ho hb hg hvs hk hw hwl
 have KV:Hid (∀(w':World) (g c k:Nat),dL w' (some ⟨g,0,none⟩) n (ls.set k want)->n<=c->Calls Tryz.prog 55 #[.slice (some ⟨g,0,none⟩) n c] w' fun e w''=>e=.returned (.int .i64 (Num.vol (ls.set k want) Num.aI))/\Below w'.heap.size w' w'') :=
  fun w' g c k hl hc=>rY _ _ _ _ w' hl hc h4 (Num.yg hlen k want (by have:=hw.1;omega)) (hB.set k want hwB)
 clear hl hvs hw hlen hB hwB hvc hvl;generalize hf:(fun k=>Num.vol (ls.set k want) Num.aI)=f;have HF:Hid (∀k,Num.vol (ls.set k want) Num.aI=f k):=fun k=>by rw [<-hf]
 clear hf;subst ha;obtain ⟨i0,hif,hz0,hz1,hz2⟩:=info_parts Tryz.ja;go_enter Tryz.func56,Tryz.ntmps56;go_wp2_with (at_make;refine wpList_make_full _ rfl (.tmp 9) (.tmp 9) 25 rfl w.heap.size 2 i0 (.int .i64 0) 1 Tryz.underlying25 hif hz0 hz1 .i64 .i64 _ _ n rfl rfl rfl rfl (by rw [hz2];omega) (by unfold maxLen;omega) (Nat.le_refl _) ?_;intro w3 hown hgrow;have hb3:=bY hgrow;have HO:Hid _:=hown;clear hown hgrow);have rD:Hid (Own w3 w.heap.size w.heap.size n (Num.fill f n 0)):=Own.made _ HO.out;clear HO;go_loopw [13] (fun i wr=>∃k:Nat,k<=n/\i=.int .i64 k/\Own wr w.heap.size w.heap.size n (Num.fill f n k)/\Below w.heap.size w wr) (fun i _=>n - (intOf i).toNat)
 case atStart=>exact ⟨0,Nat.zero_le _,rfl,rD.out,hb3⟩
 case round =>
  obtain ⟨k,hk,rfl,hO,hB⟩:=hrel;have HO:Hid (Own wr w.heap.size w.heap.size n (Num.fill f n k)):=hO;clear rD hb3;have hgw:=hO.lt.2;clear hO;by_cases hlt:k < n
  ·go_wp2_with fail;refine (KC.out _ hB).mono ?_;rintro e w5 ⟨g5,c5,rfl,hg5,hc5,Bf,hb5⟩;have HL6:Hid (dL (w5.setCell ⟨g5,k,none⟩ (.slice wa wl wc)) (some ⟨g5,0,none⟩) n (ls.set k want)):=KL.out _ _ _ _ _ Bf (ai hB hb5) (by omega) hlt;obtain ⟨v,v0⟩ : ∃v,w5.cell? ⟨g5,k,none⟩=some v:=by rw [World.ownsRow.cellAt Bf k (by omega)];exact ⟨_,List.getElem?_eq_getElem (by have:=Bf.1;omega)⟩
   have v1:=World.ownsRow.frozenAt Bf k;have NQ:Hid (Own (w5.setCell ⟨g5,k,none⟩ (.slice wa wl wc)) w.heap.size w.heap.size n (Num.fill f n k)):=by have h:=Own.below HO.out hb5 hgw;exact Own.below h (aV (Below.refl (w.heap.size+1) _) (by omega) _) (by omega)
   have ZH:Below w.heap.size w (w5.setCell ⟨g5,k,none⟩ (.slice wa wl wc)):=aV (ai hB hb5) (by omega) _;clear Bf hb5;go_wp2_with fail;refine (KV.out _ _ _ k HL6.out hc5).mono ?_;rintro e w7 ⟨rfl,jJ⟩;rw [HF.out k];have ZI:Hid (Own w7 w.heap.size w.heap.size n (Num.fill f n k)):=Own.below NQ.out jJ (by have:=NQ.out.lt.2;omega);obtain ⟨⟨u,u0⟩,u1⟩:=Own.cell' ZI.out k hlt;have rZ:=ai ZH jJ;clear jJ v0 v1 ZH;go_wp2_with fail;go_roundw
   case rel=>exact ⟨k+1,hlt,by go_num,by rw [<-Num.gJ _ _ _ (f k) hlt rfl];exact Own.store ZI.out k (f k),aV rZ (Nat.le_refl _) _⟩
   case measure=>simp [intOf];omega
  ·have hke:k=n:=by omega
   subst hke;go_wp2_with fail;go_ret;exact ⟨w.heap.size,rfl,Nat.le_refl _,by rw [<-Num.iN];exact Own.ints HO.out,hB⟩
open Go.RowKit
theorem Ints.keep {w w':World} {g n B:Nat} {l:List Int} (h:Ints w (some ⟨g,0,none⟩) n l) (hb:Below B w w') (hg:g < B\/n=0) : Ints w' (some ⟨g,0,none⟩) n l:=by
 obtain ⟨h1,h2⟩:=h;refine ⟨h1,?_⟩;rcases h2 with h2|⟨b,off,ha,hs,hc⟩
 ·exact Or.inl h2
 ·rcases hg with hg|hg
  ·simp only [Option.some.injEq,Addr.mk.injEq] at ha;refine Or.inr ⟨b,off,by simp [ha],Nat.lt_of_lt_of_le hs hb.size,fun j hj=>?_⟩;rw [hb.cell (p:=⟨b,off+j,none⟩) (by dsimp only;omega)];exact hc j hj
  ·exact Or.inl hg
theorem Ints.lt {w:World} {g n:Nat} {l:List Int} (h:Ints w (some ⟨g,0,none⟩) n l) : g < w.heap.size\/n=0:=by
 rcases h.2 with h2|⟨b,off,ha,hs,_⟩
 ·exact Or.inr h2
 ·simp only [Option.some.injEq,Addr.mk.injEq] at ha;exact Or.inl (by omega)
theorem iC.push {wr w5 w7:World} {base g n i m:Nat} {f:Nat->List Int} (h:iC wr base g n i f) (hi:i < n) (h5:Below wr.heap.size wr w5) (h7:Below wr.heap.size (w5.setCell ⟨g,i,none⟩ (.slice (some ⟨wr.heap.size,0,none⟩) m m)) w7)
  (hI:Ints w7 (some ⟨wr.heap.size,0,none⟩) m (f i)) : iC w7 base g n (i+1) f:=by
 have hlt:=h.lt.2;obtain ⟨vs,h,hin⟩:=h;have hl:vs.length=n:=by simpa using h.1
 refine ⟨vs.set i (.slice (some ⟨wr.heap.size,0,none⟩) m m),own_below (World.ownsRow.stored (own_below h h5 hlt) i _).1 h7 hlt,fun j hj=>?_⟩;by_cases hjk:j=i
 ·subst hjk;exact ⟨_,m,by rw [List.getElem?_set_self (by omega)],hlt,hI⟩
 ·obtain ⟨gj,m',h1,h2,h3⟩:=hin j (by omega);exact ⟨gj,m',by rw [List.getElem?_set_ne (by omega)];exact h1,h2,((h3.below h5 (Nat.le_refl _)).jU h2 _).keep h7 h3.lt⟩
theorem Hw (a:Option Addr) (n cap:Nat) (ls:List (List Int)) (w:World) (hl:dL w a n ls) (h1:1<=n) (h4:n<=4) (hlen:∀l∈ls,l.length=n) :
  Calls Tryz.prog 57 #[.slice a n cap] w fun e w'=>∃g,e=.returned (.slice (some ⟨g,0,none⟩) n n)/\w.heap.size<=g/\dL w' (some ⟨g,0,none⟩) n (Num.bP ls)/\Below w.heap.size w w':=by
 have J4:Hid (n=ls.length):=hl.1;have HL:Hid (dL w a n ls):=hl;have HT:Hid (Num.bP ls=(List.range n).map fun i=>(List.range n).map fun k=>Num.at2 ls k i):=by have:=J4.out;rw [this];exact rfl
 have ng:Hid (∀k,k < n->(ls[k]?.getD []).length=n):=fun k hk=>by
  have:=J4.out;rw [List.getElem?_eq_getElem (by omega)];exact hlen _ (List.getElem_mem _)
 obtain ⟨b,off,ha,hbs,_⟩:=hl.shape h1;clear hl hlen;generalize hf:(fun i=>(List.range n).map fun k=>Num.at2 ls k i)=f at HT;have HF:Hid (∀i,f i=(List.range n).map fun k=>Num.at2 ls k i):=fun i=>by rw [<-hf]
 clear hf;obtain ⟨i0,hif,hz0,hz1,hz2⟩:=info_parts Tryz.Ht;obtain ⟨j0,hjf,hy0,hy1,hy2⟩:=info_parts Tryz.ja;subst ha;go_enter Tryz.func57,Tryz.ntmps57;go_wp2_with (at_make;refine wpList_make_full _ rfl (.tmp 8) (.tmp 8) 115 rfl w.heap.size 25 i0 (.slice none 0 0) 1 Tryz.underlying115 hif hz0 hz1 .i64 .i64 _ _ n rfl rfl rfl rfl (by rw [hz2];omega) (by unfold maxLen;omega) (Nat.le_refl _) ?_;intro w3 hown hgrow;have hb3:=bY hgrow;have HO:Hid _:=hown;clear hown hgrow);have rD:Hid (iC w3 w.heap.size w.heap.size n 0 f):=iC.made _ HO.out;clear HO;go_loopw [12] (fun i wr=>∃k:Nat,k<=n/\i=.int .i64 k/\iC wr w.heap.size w.heap.size n k f/\Below w.heap.size w wr) (fun i _=>n - (intOf i).toNat)
 case atStart=>exact ⟨0,Nat.zero_le _,rfl,rD.out,hb3⟩
 case round =>
  obtain ⟨i,hi,rfl,hO,hB⟩:=hrel;have HO:Hid (iC wr w.heap.size w.heap.size n i f):=hO;clear rD hb3;have hgw:=hO.lt.2;by_cases hlt:i < n
  ·obtain ⟨⟨u,u0⟩,u1⟩:=hO.cell' i hlt;clear hO;go_wp2_with (at_make;refine wpList_make_full _ rfl (.tmp 18) (.tmp 18) 25 rfl wr.heap.size 2 j0 (.int .i64 0) 1 Tryz.underlying25 hjf hy0 hy1 .i64 .i64 _ _ n rfl rfl rfl rfl (by rw [hy2];omega) (by unfold maxLen;omega) (Nat.le_refl _) ?_;intro w5 hown hgrow;have hb5:=bY hgrow;have NQ:Hid _:=hown;have x0:=carry hb5 u0;have x1:=iG hb5 u0 u1;clear hown hgrow);have hs5:wr.heap.size < w5.heap.size:=(World.ownsRow.lt NQ.out wr.heap.size rfl).2;have HO6:Hid (Own (w5.setCell ⟨w.heap.size,i,none⟩ (.slice (some ⟨wr.heap.size,0,none⟩) n n)) wr.heap.size wr.heap.size n (Num.fill (fun k=>Num.at2 ls k i) n 0)):=by have h:=Own.made (fun k=>Num.at2 ls k i) NQ.out;exact ownsRow_setCell_below h (by show w.heap.size < _;omega) _
   have hc6:(w5.setCell ⟨w.heap.size,i,none⟩ (.slice (some ⟨wr.heap.size,0,none⟩) n n)).cell? ⟨w.heap.size,i,none⟩=some (.slice (some ⟨wr.heap.size,0,none⟩) n n):=World.cell?_setCell_same' _ _ _ (by rw [x0];rfl);have CV:Below w.heap.size w (w5.setCell ⟨w.heap.size,i,none⟩ (.slice (some ⟨wr.heap.size,0,none⟩) n n)):=aV (ai hB hb5) (Nat.le_refl _) _;have HP:Hid (∀w7,Below wr.heap.size (w5.setCell ⟨w.heap.size,i,none⟩ (.slice (some ⟨wr.heap.size,0,none⟩) n n)) w7->Ints w7 (some ⟨wr.heap.size,0,none⟩) n (f i)->iC w7 w.heap.size w.heap.size n (i+1) f):=fun w7 h hI=>iC.push HO.out hlt hb5 h hI;clear NQ x0 x1 hb5 u0 u1;go_wp2_with fail;generalize w5.setCell ⟨w.heap.size,i,none⟩ (.slice (some ⟨wr.heap.size,0,none⟩) n n)=w6 at *;generalize wr.heap.size=gi at *;go_loopw [23] (fun q wr=>∃k:Nat,k<=n/\q=.int .i64 k/\Own wr gi gi n (Num.fill (fun k=>Num.at2 ls k i) n k)/\Below gi w6 wr) (fun q _=>n - (intOf q).toNat)
   case atStart=>exact ⟨0,Nat.zero_le _,rfl,HO6.out,Below.refl _ _⟩
   case round =>
    obtain ⟨k,hk,rfl,ZJ,hbl⟩:=hrel;have HOs:Hid (Own wr gi gi n (Num.fill (fun k=>Num.at2 ls k i) n k)):=ZJ;have hBs:Below w.heap.size w wr:=CV.trans (hbl.mono (by omega));clear HO6;by_cases hkt:k < n
    ·rcases (dL.below HL.out hBs (Nat.le_refl _)).2 with h|⟨b1,az5,ha1,az6,hc1⟩
     ·omega
     simp only [Option.some.injEq,Addr.mk.injEq] at ha1;obtain ⟨rfl,rfl,_⟩:=ha1;obtain ⟨ra,rl,rc,c0,hi2,hrc⟩:=hc1 k hkt;clear hc1;have hrl:rl=n:=by have:=hi2.1;have:=ng.out k hkt;omega
     subst hrl;rcases hi2.2 with h|⟨b2,o2,ha2,hb2,hc2⟩
     ·omega
     have c1:=hc2 i hlt;clear hc2 hi2;have c2:wr.cell? ⟨w.heap.size,i,none⟩=some (.slice (some ⟨gi,0,none⟩) rl rl):=by rw [hbl.cell (by show w.heap.size < _;omega)];exact hc6
     obtain ⟨⟨v,v0⟩,v1⟩:=ZJ.cell' k hkt;clear ZJ;have HE:Hid ((ls[k]?.getD [])[i]?.getD 0=Num.at2 ls k i):=rfl;generalize (ls[k]?.getD [])[i]?.getD 0=x at c1 HE;subst ha2;go_wp2_with fail;go_region;go_wp2_with fail;go_roundw
     case rel=>exact ⟨k+1,hkt,by go_num,by rw [<-Num.gJ _ _ _ x hkt HE.out];exact Own.store HOs.out k x,(aV hbl (Nat.le_refl _) _).drew⟩
     case measure=>simp [intOf];omega
    ·have hke:k=n:=by omega
     subst hke;clear ZJ;have HI7:Hid (Ints wr (some ⟨gi,0,none⟩) k (f i)):=by rw [HF.out,<-Num.iN];exact Own.ints HOs.out
     have ZI:Hid (iC wr w.heap.size w.heap.size k (i+1) f):=HP.out wr hbl HI7.out;go_wp2_with fail;go_roundw
     case rel=>exact ⟨i+1,hlt,by go_num,ZI.out,hBs⟩
     case measure=>simp [intOf];omega
  ·have hke:i=n:=by omega
   subst hke;clear hO;go_wp2_with fail;go_ret;exact ⟨w.heap.size,rfl,Nat.le_refl _,by rw [HT.out];exact iC.lines HO.out,hB⟩
open Go.RowKit
namespace Num
def jV (at':List Int) : Nat->Int
 | 0=>0
 | k+1=>at'[k]?.getD 0+1
def NS (at':List Int) (N:Nat) : Nat->Bool
 | 0=>true
 | k+1=>NS at' N k && (decide (jV at' k<=at'[k]?.getD 0) && decide (at'[k]?.getD 0 < N))
def aH (at':List Int) (m N:Nat) : Bool:=(at'.length == m) && NS at' N m
theorem tT (at':List Int) (N k:Nat) : NS at' N (k+1)=(NS at' N k && (decide (jV at' k<=at'[k]?.getD 0) && decide (at'[k]?.getD 0 < N))):=rfl
theorem Ta (at':List Int) (N k m:Nat) (hk:k < m) (h:at'[k]?.getD 0 < jV at' k\/(N:Int)<=at'[k]?.getD 0) : NS at' N m=false:=by
 induction m with
 | zero=>omega
 | succ m ih =>
  rw [tT];by_cases hm:k=m
  ·subst hm;rcases h with h|h
   ·have:¬ jV at' k<=at'[k]?.getD 0:=by omega
    simp [this]
   ·have:¬ at'[k]?.getD 0 < N:=by omega
    simp [this]
  ·rw [ih (by omega)];rfl
theorem xC (at':List Int) (N m:Nat) (h:NS at' N m=true) : ∀k,k < m->jV at' k<=at'[k]?.getD 0/\at'[k]?.getD 0 < N:=by
 induction m with
 | zero=>intro k hk;omega
 | succ m ih =>
  rw [tT] at h;simp only [Bool.and_eq_true,decide_eq_true_eq] at h;intro k hk;by_cases hm:k=m
  ·subst hm;exact h.2
  ·exact ih h.1 k (by omega)
theorem ni (at':List Int) (N m:Nat) (h:NS at' N m=true) : ∀k,k<=m->0<=jV at' k:=by
 intro k hk
 induction k with
 | zero=>exact Int.le_refl _
 | succ k ih =>have:=xC at' N m h k (by omega);have:=ih (by omega);show 0<=at'[k]?.getD 0+1;omega
theorem bf (at':List Int) (m N:Nat) (h:aH at' m N=true) : at'.length=m/\∀k,k < m->0<=at'[k]?.getD 0/\at'[k]?.getD 0 < N:=by unfold aH at h;simp only [Bool.and_eq_true,beq_iff_eq] at h;refine ⟨h.1,fun k hk=>?_⟩;have:=xC at' N m h.2 k hk;have:=ni at' N m h.2 k (by omega);omega
end Num
theorem si (ca:Option Addr) (cl cc:Nat) (ra:Option Addr) (rl rc:Nat) (w:World) (aa:Option Addr) (al ac:Nat) (at':List Int) (ha:Ints w aa al at') (hal:al<=9223372036854775807) (N:Nat) (hN:cl+rl=N) (h8:N<=8) :
  Calls Tryz.prog 53 #[.agg #[.slice ca cl cc,.slice ra rl rc],.slice aa al ac] w fun e w'=>e=.returned (.bool (Num.aH at' rl N))/\Below w.heap.size w w':=by
 have HA:Hid (Ints w aa al at'):=ha;have HL:Hid (al=at'.length):=ha.1;have HN:Hid (cl+rl=N):=hN;have hr8:rl<=8:=by omega
 clear ha hN;by_cases h1:al=rl
 ·subst h1;have HF:Hid (Num.aH at' al N=Num.NS at' N al):=by have:=HL.out;show (_ && _)=_;rw [<-this];simp
  go_enter Tryz.func53,Tryz.ntmps53;go_wp2_with fail;go_loopw [5,16] (fun s i wr=>∃k:Nat,k<=al/\i=.int .i64 k/\s=.int .i64 (Num.jV at' k)/\Num.NS at' N k=true/\Below (w.alloc (.cells #[.slice ca cl cc,.slice ra al rc] 28)).heap.size (w.alloc (.cells #[.slice ca cl cc,.slice ra al rc] 28)) wr) (fun _ i _=>al - (intOf i).toNat)
  case atStart=>exact ⟨0,Nat.zero_le _,rfl,rfl,rfl,Below.refl _ _⟩
  case round =>
   obtain ⟨k,hk,rfl,rfl,hok,hbl⟩:=hrel;have Ac:Hid _:=hok;clear hok;have hB:Below w.heap.size w wr:=dN hbl;by_cases hlt:k < al
   ·rcases (Ints.below HA.out hB (Nat.le_refl _)).2 with h|⟨b,off,ha,hbs,hc⟩
    ·omega
    have hck:=hc k hlt;clear hc;obtain ⟨⟨e0,e1⟩,_⟩:=fO hbl;have HB:Hid (at'[k]?.getD 0 < Num.jV at' k\/(N:Int)<=at'[k]?.getD 0->Num.aH at' al N=false):=fun h=>by rw [HF.out];exact Num.Ta at' N k al hlt h
    have HS:Hid (Num.NS at' N (k+1)=(Num.NS at' N k && (decide (Num.jV at' k<=at'[k]?.getD 0) && decide (at'[k]?.getD 0 < N)))):=Num.tT at' N k;have OU:Hid (Num.jV at' (k+1)=at'[k]?.getD 0+1):=rfl;have hl0:=Num.ni at' N k Ac.out k (Nat.le_refl _);generalize at'[k]?.getD 0=x at hck HB HS OU;generalize Num.jV at' k=y at *;subst ha;by_cases hx:x < y
    ·go_wp2_with fail;go_ret;exact ⟨aK (HB.out (Or.inl hx)).symm,hB⟩
    ·have hx':decide (x < y)=false:=by simpa using hx
     by_cases hx2:(N:Int)<=x
     ·go_wp2_with fail;refine (nG _ _ _ _ _ _ _ N HN.out h8).mono ?_;rintro e w5 ⟨rfl,hb5⟩;go_wp2_with fail;go_ret;exact ⟨aK (HB.out (Or.inr hx2)).symm,ai hB hb5⟩
     ·have az8:decide ((N:Int)<=x)=false:=by simpa using hx2
      go_wp2_with fail;refine (nG _ _ _ _ _ _ _ N HN.out h8).mono ?_;rintro e w5 ⟨rfl,hb5⟩;go_wp2_with fail;go_roundw
      case rel=>exact ⟨k+1,hlt,by go_num,by rw [OU.out],by rw [HS.out,Ac.out];simp;omega,ai hbl hb5⟩
      case measure=>simp [intOf];omega
   ·have hke:k=al:=by omega
    subst hke;go_wp2_with fail;go_ret;exact ⟨aK (by rw [HF.out,Ac.out]),hB⟩
 ·have h1':((al:Int) == (rl:Int))=false:=beq_eq_false_iff_ne.2 (by omega);have az9:((al:Int) != (rl:Int))=true:=by simp;omega
  have HF:Hid (Num.aH at' rl N=false):=by have:=HL.out;show (_ && _)=_;rw [show (at'.length == rl)=false from beq_eq_false_iff_ne.2 (by omega)];rfl
  go_enter Tryz.func53,Tryz.ntmps53;go_wp2_with fail;go_ret;exact ⟨aK HF.out.symm,af _ _⟩
namespace Num
def aG (p:Lp) (at':List Int) (m:Nat) : List (List Int):=(List.range m).map fun k=>(List.range m).map (aC p (aZ at' k))
def bI (p:Lp) (at':List Int) (m:Nat) : List Int:=(List.range m).map fun k=>p.costs[aZ at' k]?.getD 0
def bF (p:Lp) (m:Nat) : List Int:=(List.range m).map (dw p)
def aL (ls:List (List Int)) (want:List Int) (m:Nat) : List Int:=(List.range m).map fun k=>vol (ls.set k want) aI
def aF (p:Lp) (at':List Int) (m:Nat) : Int:=vol (aG p at' m) aI
def av (p:Lp) (at':List Int) (m:Nat) : List Int:=aL (bP (aG p at' m)) (bI p at' m) m
def xL (p:Lp) (at':List Int) (m N:Nat) : List Int:=spreadN N at' (aL (aG p at' m) (bF p m) m) m
def aO (p:Lp) (at':List Int) (m N:Nat) : List Int:=(List.range N).map (bV p (av p at' m) (aF p at' m))
theorem jW (f:Nat->List Int) (n i j:Nat) : at2 ((List.range n).map f) i j=if i < n then (f i)[j]?.getD 0 else 0:=by
 unfold at2;by_cases h:i < n
 ·rw [x9 f n i [] h,if_pos h]
 ·rw [List.getElem?_eq_none (l:=(List.range n).map f) (by simp;omega),if_neg h];simp
theorem qP (p:Lp) (hm:p.may=true) (at':List Int) (m:Nat) : wB 400 (aG p at' m):=by
 intro i j;unfold aG;rw [jW];split
 ·rw [aA];split
  ·have:=mO p hm (aZ at' i) j;omega
  ·omega
 ·omega
theorem jc (p:Lp) (at':List Int) (m:Nat) : (aG p at' m).length=m/\∀l∈aG p at' m,l.length=m:=by unfold aG;refine ⟨by simp,fun l hl=>?_⟩;obtain ⟨k,_,rfl⟩:=List.mem_map.1 hl;simp
theorem yj (ls:List (List Int)) (m:Nat) (h:ls.length=m) : (bP ls).length=m/\∀l∈bP ls,l.length=m:=by unfold bP;refine ⟨by simp [h],fun l hl=>?_⟩;obtain ⟨k,_,rfl⟩:=List.mem_map.1 hl;simp [h]
theorem CW (ls:List (List Int)) (B:Int) (h:wB B ls) : wB B (bP ls):=by
 intro i j;have h0:=h 0 0;unfold bP;rw [jW];split
 ·rw [aA];split
  ·exact h j i
  ·omega
 ·omega
theorem vg (p:Lp) (hm:p.may=true) (at':List Int) (m:Nat) : ∀j:Nat,-400<=(bI p at' m)[j]?.getD 0/\(bI p at' m)[j]?.getD 0<=400:=by
 intro j;unfold bI;rw [aA];split
 ·exact aJ _ _ (p.aj hm).2.1 (by omega) _
 ·omega
theorem EK (p:Lp) (hm:p.may=true) (m:Nat) : ∀j:Nat,-400<=(bF p m)[j]?.getD 0/\(bF p m)[j]?.getD 0<=400:=by
 intro j;unfold bF;rw [aA];split
 ·unfold dw;by_cases hj:j < p.rows.length
  ·have:=(p.row_of hm j hj).2.2;omega
  ·rw [List.getElem?_eq_none (l:=p.rows) (by omega)];simp
 ·omega
theorem Me (ls:List (List Int)) (want:List Int) (m:Nat) (h:wB 400 ls) (hl:ls.length<=4) (h4:∀l∈ls,l.length<=4) (hw:∀j:Nat,-400<=want[j]?.getD 0/\want[j]?.getD 0<=400) (hw4:want.length<=4) :
  ∀j:Nat,-6553600000000<=(aL ls want m)[j]?.getD 0/\(aL ls want m)[j]?.getD 0<=6553600000000:=by
 intro j;unfold aL;rw [aA];split
 ·exact Cn _ _ (h.set j want hw) (yg h4 j want hw4) (by simpa using hl)
 ·omega
theorem V6 (p:Lp) (hm:p.may=true) (at':List Int) (m:Nat) (h4:m<=4) : -6553600000000<=aF p at' m/\aF p at' m<=6553600000000 :=
 Cn _ _ (qP p hm at' m) (fun l hl=>by have:=(jc p at' m).2 l hl;omega) (by have:=(jc p at' m).1;omega)
theorem OV (p:Lp) (hm:p.may=true) (at':List Int) (m:Nat) (h4:m<=4) : ∀j:Nat,-6553600000000<=(av p at' m)[j]?.getD 0/\(av p at' m)[j]?.getD 0<=6553600000000:=by have h:=yj (aG p at' m) m (jc p at' m).1;exact Me _ _ m (CW _ _ (qP p hm at' m)) (by omega) (fun l hl=>by have:=h.2 l hl;omega) (vg p hm at' m) (by unfold bI;simpa using h4)
structure XZ where
 err:Int
 x:List Int
 xd:Int
 y:List Int
 yd:Int
 g:List Int
 gd:Int
def iH (e:Int) : XZ:=⟨e,[],0,[],0,[],0⟩
def look (p:Lp) (at':List Int) : XZ :=
 if p.may=false then iH 2
 else if aH at' p.rows.length (p.costs.length+p.rows.length)=false then iH 3
 else if aF p at' p.rows.length=0 then iH 4
 else
  let m:=p.rows.length;let N:=p.costs.length+m
  ⟨0,(pt (xL p at' m N) (aF p at' m)).1,(pt (xL p at' m N) (aF p at' m)).2.1,(pt (av p at' m) (aF p at' m)).1,(pt (av p at' m) (aF p at' m)).2.1,
   (pt (aO p at' m N) (aF p at' m)).1,(pt (aO p at' m N) (aF p at' m)).2.1⟩
end Num
end Go.Proofs.YtipcbhodlgoflabGreatDoor
