/- What sweep.worth does. -/
import Derived.Test.YtipcbhodlgoflabGreatDoorBxs
import Derived.Test.YtipcbhodlgoflabGreatDoorLayH
import Derived.Deep.RegionHeld3
set_option maxHeartbeats 1600000
namespace Go.Proofs.YtipcbhodlgoflabGreatDoor
open Go.RowKit
theorem wT (a b:Option Addr) (la ca lb cb:Nat) (l m:List Int) (w:World) (A B:Int) (hl:Ints w a la l) (hm:Ints w b lb m) (hle:la<=lb) (hlen:lb<=9223372036854775807)
  (hA:∀j:Nat,-A<=l[j]?.getD 0/\l[j]?.getD 0<=A) (hB:∀j:Nat,-B<=m[j]?.getD 0/\m[j]?.getD 0<=B) (VR:A*B*la<=4611686018427387904) :
  Calls Tryz.prog 99 #[.slice a la ca,.slice b lb cb] w fun e w'=>e=.returned (.int .i64 (Num.dotN l m la))/\∃n,w'=w.drewN n:=by
 have HD:Hid (∀k:Nat,k<=la->-4611686018427387904<=Num.dotN l m k/\Num.dotN l m k<=4611686018427387904):=by intro k hk;have h0:0<=A*B:=Int.mul_nonneg (by have:=hA 0;omega) (by have:=hB 0;omega);have h1:A*B*k<=A*B*la:=Int.mul_le_mul_of_nonneg_left (by omega) h0;have:=Num.jq l m A B hA hB k;omega
 have HP:Hid (∀k:Nat,k < la->-4611686018427387904<=l[k]?.getD 0*m[k]?.getD 0/\l[k]?.getD 0*m[k]?.getD 0<=4611686018427387904):=by intro k hk;have h0:0<=A*B:=Int.mul_nonneg (by have:=hA 0;omega) (by have:=hB 0;omega);have h1:A*B*(1:Int)<=A*B*la:=Int.mul_le_mul_of_nonneg_left (by omega) h0;have:=Num.ko _ _ _ _ (hA k) (hB k);omega
 clear hA hB VR;obtain ⟨hll,hl⟩:=hl;obtain ⟨He,hm⟩:=hm;have HL:Hid (la=l.length):=hll;have HM:Hid (lb=m.length):=He;clear hll He;have hmin:min (la:Int) (lb:Int)=la:=by omega
 go_enter Tryz.func99,Tryz.ntmps99;go_wp2;go_loopw [5,12] (fun c i wr=>∃(k:Nat),k<=la/\i=.int .i64 k/\c=.int .i64 (Num.dotN l m k)/\∃n,wr=w.drewN n) (fun _ i _=>la - (intOf i).toNat)
 case atStart=>exact ⟨0,Nat.zero_le _,rfl,rfl,0,rfl⟩
 case round =>
  obtain ⟨k,hk,rfl,rfl,n,rfl⟩:=hrel;by_cases hlt:k < la
  ·rcases hl with h|⟨b1,o1,ha,hb1,hc1⟩
   ·omega
   rcases hm with h|⟨b2,o2,hb,hb2,hc2⟩
   ·omega
   have hck:=hc1 k hlt;have XO:=hc2 k (by omega);clear hc1 hc2;have hp:=HP.out k hlt;have hs0:=HD.out k hk;have hs1:=HD.out (k+1) hlt;have he:Num.dotN l m (k+1)=Num.dotN l m k+l[k]?.getD 0*m[k]?.getD 0:=rfl;rw [he] at hs1;have HE:Hid _:=he;clear he;generalize Num.dotN l m k=s at *;generalize l[k]?.getD 0=x at *;generalize m[k]?.getD 0=y at *;generalize RB:x*y=p at *;have XP:Hid _:=RB;clear RB;subst ha hb;go_wp2;go_region;go_wp2;go_roundw
   case rel=>exact ⟨k+1,hlt,by go_num,by rw [HE.out,XP.out,IntWalk.wrap64_in p (by omega),IntWalk.wrap64_in _ (by omega)],n+1,rfl⟩
   case measure=>simp [intOf];omega
  ·go_wp2;go_ret;have hke:k=la:=by omega
   subst hke;exact ⟨rfl,n,rfl⟩
theorem Y3 {w w1:World} {a b c d:Value} {t s:TypeId} (hb:Below ((w.alloc (.cells #[a,b] t)).alloc (.cells #[c,d] s)).heap.size ((w.alloc (.cells #[a,b] t)).alloc (.cells #[c,d] s)) w1) :
  Bx w.heap.size [a,b] w1/\Bx (w.heap.size+1) [c,d] w1/\Below w.heap.size w w1 :=
 ⟨((Bx.new rfl [a,b] t).step (af _ _)).step hb,(Bx.new (by simp) [c,d] s).step hb,dN (dN hb)⟩
theorem zA (ca:Option Addr) (cl cc:Nat) (c:List Int) (xa:Option Addr) (xl xc:Nat) (x:List Int) (d u v z:Int) (w:World) (hc:Ints w ca cl c) (hx:Ints w xa xl x) (hle:cl<=xl) (TS:xl<=8)
  (hA:∀j:Nat,-400<=c[j]?.getD 0/\c[j]?.getD 0<=400) (hB:∀j:Nat,-1073741824<=x[j]?.getD 0/\x[j]?.getD 0<=1073741824) (hmk:Num.mk (Num.dotN c x cl) d=(u,v,z)) :
  Calls Tryz.prog 105 #[.slice ca cl cc,.agg #[.slice xa xl xc,.int .i64 d]] w fun e w'=>e=.returned (.agg #[.int .i64 u,.int .i64 v])/\Below w.heap.size w w':=by
 have HC:Hid (Ints w ca cl c):=hc;have HX:Hid (Ints w xa xl x):=hx;have HA:Hid (∀j:Nat,-400<=c[j]?.getD 0/\c[j]?.getD 0<=400):=hA;have HB:Hid (∀j:Nat,-1073741824<=x[j]?.getD 0/\x[j]?.getD 0<=1073741824):=hB;have NU:Hid (Num.mk (Num.dotN c x cl) d=(u,v,z)):=hmk;clear hc hx hA hB hmk;generalize hV:(w.alloc (.cells #[.slice xa xl xc,.int .i64 d] 64)).alloc (.cells #[.int .i64 0,.int .i64 0] 66)=V;have iy:Hid (∀w1,Below V.heap.size V w1->Bx w.heap.size [.slice xa xl xc,.int .i64 d] w1/\Bx (w.heap.size+1) [.int .i64 0,.int .i64 0] w1/\Below w.heap.size w w1):=by intro w1 hb;rw [<-hV] at hb;exact Y3 hb
 have q0:∀w',Below V.heap.size V w'->w'.cell? ⟨w.heap.size,0,none⟩=some (.slice xa xl xc):=fun w' h=>(iy.out w' h).1.c 0 _ rfl;have q1:∀w',Below V.heap.size V w'->w'.cell? ⟨w.heap.size,1,none⟩=some (.int .i64 d):=fun w' h=>(iy.out w' h).1.c 1 _ rfl;have hzV:w.heap.size+1 < V.heap.size:=(iy.out V (Below.refl _ _)).2.1.lt;have KT:Hid (∀w',Below V.heap.size V w'->Calls Tryz.prog 99 #[.slice ca cl cc,.slice xa xl xc] w' fun e w''=>e=.returned (.int .i64 (Num.dotN c x cl))/\Below V.heap.size V w''/\Below w'.heap.size w' w''):=by intro w' h;have hB:=(iy.out w' h).2.2;exact (fE (wT ca xa cl cc xl xc c x w' 400 1073741824 (Ints.below HC.out hB (Nat.le_refl _)) (Ints.below HX.out hB (Nat.le_refl _)) hle (by omega) HA.out HB.out (by omega))).mono fun _ _ k=>⟨k.1,ai h k.2,k.2⟩
 have KM:Hid (∀w',Below V.heap.size V w'->Calls Tryz.prog 117 #[.int .i64 (Num.dotN c x cl),.int .i64 d] w' fun e w''=>e=.returned (.tuple #[.agg #[.int .i64 u,.int .i64 v],.int .i64 z])/\Below V.heap.size V w''/\Below w'.heap.size w' w''):=by intro w' h;exact (jv _ _ w' _ _ _ NU.out).mono fun _ _ k=>⟨k.1,ai h k.2,k.2⟩
 generalize Num.dotN c x cl=D at *;go_enter Tryz.func105,Tryz.ntmps105;go_wp2_with fail;clear hV;go_region_held3 (fun w'=>Below V.heap.size V w') (first|assumption|exact (Below.refl _ _).drew|exact ((Below.refl _ _).alloc (Nat.le_refl _) _).drew|(refine Below.alloc ?_ ?_ _<;>first|assumption|(apply Below.size;assumption))|(refine Below.setCell (Below.setCell ?_ ?_ _) ?_ _<;>first|assumption|exact Nat.le_refl _|(apply Below.size;assumption)))
  (first|(go_at_call 99;refine (KT.out _ ?_).mono ?_;assumption;rintro e v1 ⟨rfl,hb1,hk1⟩;(try (have hz2:=lQ hk1)))
           | (go_at_call 117;refine (KM.out _ ?_).mono ?_;assumption;rintro e v2 ⟨rfl,hb2,hk2⟩;(first|(have hz2:=uY hk2 hz2)|(have hz2:=fO hk2)|(have hz2:=lQ hk2)|skip)))
 ·rename_i hfin;have n0:=(aU (w:=v2) rfl (.int .i64 u) (.int .i64 v) 66).1;have n1:=(aU (w:=v2) rfl (.int .i64 u) (.int .i64 v) 66).2;generalize v2.alloc (.cells #[.int .i64 u,.int .i64 v] 66)=X at *;obtain ⟨_,hR,vN⟩:=iy.out _ hfin;obtain ⟨r0,r1,f0,f1⟩:=hR.all2;have kg:=aV (aV vN (show w.heap.size<=w.heap.size+1 by omega) (k:=0) (.int .i64 u)) (show w.heap.size<=w.heap.size+1 by omega) (k:=1) (.int .i64 v);obtain ⟨x0,x1,_⟩:=(hR.set2 (.int .i64 u) (.int .i64 v)).all2;clear q0 q1 KT KM;go_wp2_with fail;exact bodyPost_ret (v:=.agg #[.int .i64 u,.int .i64 v]) (by simp [results,Tryz.results105,go_sem,x0,x1]) rfl ⟨rfl,kg⟩
 ·rename_i hfin;obtain ⟨⟨y0,y1⟩,_,_⟩:=hz2;have n0:((v2.setCell ⟨v1.heap.size,0,none⟩ (.int .i64 u)).setCell ⟨v1.heap.size,1,none⟩ (.int .i64 v)).cell? ⟨v1.heap.size,0,none⟩=some (.int .i64 u):=by rw [ag (by decide)];exact aN y0
  have n1:((v2.setCell ⟨v1.heap.size,0,none⟩ (.int .i64 u)).setCell ⟨v1.heap.size,1,none⟩ (.int .i64 v)).cell? ⟨v1.heap.size,1,none⟩=some (.int .i64 v):=aN (by rw [ag (by decide)];exact y1);generalize (v2.setCell ⟨v1.heap.size,0,none⟩ (.int .i64 u)).setCell ⟨v1.heap.size,1,none⟩ (.int .i64 v)=X at *;obtain ⟨_,hR,vN⟩:=iy.out _ hfin;obtain ⟨r0,r1,f0,f1⟩:=hR.all2;have kg:=aV (aV vN (show w.heap.size<=w.heap.size+1 by omega) (k:=0) (.int .i64 u)) (show w.heap.size<=w.heap.size+1 by omega) (k:=1) (.int .i64 v);obtain ⟨x0,x1,_⟩:=(hR.set2 (.int .i64 u) (.int .i64 v)).all2;clear q0 q1 KT KM;go_wp2_with fail;exact bodyPost_ret (v:=.agg #[.int .i64 u,.int .i64 v]) (by simp [results,Tryz.results105,go_sem,x0,x1]) rfl ⟨rfl,kg⟩
 ·rename_i hfin;obtain ⟨⟨y0,y1⟩,_,_⟩:=hz2;have n0:((v2.setCell ⟨V.heap.size,0,none⟩ (.int .i64 u)).setCell ⟨V.heap.size,1,none⟩ (.int .i64 v)).cell? ⟨V.heap.size,0,none⟩=some (.int .i64 u):=by rw [ag (by decide)];exact aN y0
  have n1:((v2.setCell ⟨V.heap.size,0,none⟩ (.int .i64 u)).setCell ⟨V.heap.size,1,none⟩ (.int .i64 v)).cell? ⟨V.heap.size,1,none⟩=some (.int .i64 v):=aN (by rw [ag (by decide)];exact y1);generalize (v2.setCell ⟨V.heap.size,0,none⟩ (.int .i64 u)).setCell ⟨V.heap.size,1,none⟩ (.int .i64 v)=X at *;obtain ⟨_,hR,vN⟩:=iy.out _ hfin;obtain ⟨r0,r1,f0,f1⟩:=hR.all2;have kg:=aV (aV vN (show w.heap.size<=w.heap.size+1 by omega) (k:=0) (.int .i64 u)) (show w.heap.size<=w.heap.size+1 by omega) (k:=1) (.int .i64 v);obtain ⟨x0,x1,_⟩:=(hR.set2 (.int .i64 u) (.int .i64 v)).all2;clear q0 q1 KT KM;go_wp2_with fail;exact bodyPost_ret (v:=.agg #[.int .i64 u,.int .i64 v]) (by simp [results,Tryz.results105,go_sem,x0,x1]) rfl ⟨rfl,kg⟩
end Go.Proofs.YtipcbhodlgoflabGreatDoor
