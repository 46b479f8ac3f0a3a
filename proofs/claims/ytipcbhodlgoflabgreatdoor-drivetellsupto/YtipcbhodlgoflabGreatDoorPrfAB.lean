/- What proof.isThere and proof.partsOf do. -/
import Derived.Test.YtipcbhodlgoflabGreatDoorPrfN
import Derived.Test.YtipcbhodlgoflabGreatDoorLayH
set_option maxHeartbeats 3200000
namespace Go.Proofs.YtipcbhodlgoflabGreatDoor
open Go.RowKit
theorem vS (a:Option Addr) (len cap:Nat) (d:Int) (l:List Int) (w:World) (hi:len=l.length) :
  Calls Tryz.prog 147 #[.agg #[.slice a len cap,.int .i64 d]] w fun e w'=>e=.returned (.bool (Num.bS l d))/\Below w.heap.size w w':=by
 by_cases h:0 < len
 ·have h':decide (0 < (len:Int))=true:=by simpa using h
  have HE:Hid (Num.bS l d=true):=Num.EU l d (by omega);clear hi;go_enter Tryz.func147,Tryz.ntmps147;go_wp2_with fail;go_ret;exact ⟨aK HE.out.symm,af _ _⟩
 ·have h':decide (0 < (len:Int))=false:=by simpa using h
  have HE:Hid (Num.bS l d=(d != 0)):=by
   show Num.bS l d=(d != 0);unfold Num.bS;have:¬ 0 < l.length:=by omega
   simp [this]
  clear hi;go_enter Tryz.func147,Tryz.ntmps147;go_wp2_with fail;go_ret;exact ⟨aK HE.out.symm,af _ _⟩
structure xm (b:Nat) (c0 c1 c2 c3 c4 c5 c6 c7 c8:Value) (w:World) : Prop where
 n0:w.cell? ⟨b,0,none⟩=some c0
 n1:w.cell? ⟨b,1,none⟩=some c1
 n2:w.cell? ⟨b,2,none⟩=some c2
 n3:w.cell? ⟨b,3,none⟩=some c3
 n4:w.cell? ⟨b,4,none⟩=some c4
 n5:w.cell? ⟨b,5,none⟩=some c5
 n6:w.cell? ⟨b,6,none⟩=some c6
 n7:w.cell? ⟨b,7,none⟩=some c7
 n8:w.cell? ⟨b,8,none⟩=some c8
theorem xm.new (w:World) (c0 c1 c2 c3 c4 c5 c6 c7 c8:Value) (t:TypeId) : xm w.heap.size c0 c1 c2 c3 c4 c5 c6 c7 c8 (w.alloc (.cells #[c0,c1,c2,c3,c4,c5,c6,c7,c8] t)) :=
 ⟨by simp,by simp,by simp,by simp,by simp,by simp,by simp,by simp,by simp⟩
theorem xm.step {b:Nat} {c0 c1 c2 c3 c4 c5 c6 c7 c8:Value} {w w':World} (h:xm b c0 c1 c2 c3 c4 c5 c6 c7 c8 w) (hb:Below w.heap.size w w') : xm b c0 c1 c2 c3 c4 c5 c6 c7 c8 w' :=
 ⟨carry hb h.n0,carry hb h.n1,carry hb h.n2,carry hb h.n3,carry hb h.n4,carry hb h.n5,carry hb h.n6,carry hb h.n7,carry hb h.n8⟩
structure bT (B:Nat) (V:World) (r n:Nat) (w:World) : Prop where
 dS:Below B V w
 lo:B<=r
 many:∃cs t,w.heap[r]? = some (.cells cs t (0,0))/\cs.size=n
theorem bT.drew {B:Nat} {V:World} {r n:Nat} {w:World} (h:bT B V r n w) : bT B V r n w.drew:=⟨h.dS.drew,h.lo,h.many⟩
theorem bT.lt {B:Nat} {V:World} {r n:Nat} {w:World} (h:bT B V r n w) : r < w.heap.size:=by
 obtain ⟨cs,t,e,_⟩:=h.many;rcases Nat.lt_or_ge r w.heap.size with h|h
 ·exact h
 ·rw [Array.getElem?_eq_none h] at e;cases e
theorem bT.step {B:Nat} {V:World} {r n:Nat} {w w':World} (h:bT B V r n w) (k:Below w.heap.size w w') : bT B V r n w':=by have hr:=h.lt;refine ⟨h.dS.trans (k.mono (by have:=h.lo;omega)),h.lo,?_⟩;obtain ⟨cs,t,e,hs⟩:=h.many;exact ⟨cs,t,by rw [k.block r hr];exact e,hs⟩
theorem bT.set {B:Nat} {V:World} {r n:Nat} {w:World} (h:bT B V r n w) (i:Nat) (u:Value) : bT B V r n (w.setCell ⟨r,i,none⟩ u):=by refine ⟨h.dS.setCell h.lo _,h.lo,?_⟩;obtain ⟨cs,t,e,hs⟩:=h.many;exact ⟨_,t,Joins.block_setCell (i:=i) e u,by simpa using hs⟩
theorem bT.cell {B:Nat} {V:World} {r n i:Nat} (hi:i < n) : ∃F:World->Value,(∀w,bT B V r n w->w.cell? ⟨r,i,none⟩=some (F w))/\(∀w,bT B V r n w->w.frozen? ⟨r,i,none⟩=false):=by
 refine ⟨fun w=>(w.cell? ⟨r,i,none⟩).getD undef,?_,?_⟩
 ·intro w h;obtain ⟨cs,t,e,hs⟩:=h.many;show w.cell? ⟨r,i,none⟩=some ((w.cell? ⟨r,i,none⟩).getD undef);rw [Joins.cell_of_block e,Array.getElem?_eq_getElem (by omega)];rfl
 ·intro w h;obtain ⟨cs,t,e,_⟩:=h.many;exact Joins.unfrozen_of_block e i
theorem zo {w:World} {b:Nat} {a0 a1 a2 a3:Value} (c0:w.cell? ⟨b,0,none⟩=some a0) (c1:w.cell? ⟨b,1,none⟩=some a1) (c2:w.cell? ⟨b,2,none⟩=some a2) (c3:w.cell? ⟨b,3,none⟩=some a3)
  (u0 u1 u2 u3:Value) (X:World) (hX:X=(((w.setCell ⟨b,0,none⟩ u0).setCell ⟨b,1,none⟩ u1).setCell ⟨b,2,none⟩ u2).setCell ⟨b,3,none⟩ u3) :
  X.cell? ⟨b,0,none⟩=some u0/\X.cell? ⟨b,1,none⟩=some u1/\X.cell? ⟨b,2,none⟩=some u2/\X.cell? ⟨b,3,none⟩=some u3:=by
 subst hX;refine ⟨?_,?_,?_,?_⟩
 ·rw [ag (by decide),ag (by decide),ag (by decide)];exact aN c0
 ·rw [ag (by decide),ag (by decide)];exact aN (by rw [ag (by decide)];exact c1)
 ·rw [ag (by decide)];exact aN (by rw [ag (by decide),ag (by decide)];exact c2)
 ·exact aN (by rw [ag (by decide),ag (by decide),ag (by decide)];exact c3)
theorem M8 (kd:Int) (xa:Option Addr) (xl xc:Nat) (xd:Int) (ya:Option Addr) (yl yc:Nat) (yd:Int) (za:Option Addr) (zl zc:Nat) (zd:Int) (wn wd:Int) (x y z:List Int) (w:World)
  (hx:xl=x.length) (hy:yl=y.length) (hz:zl=z.length) :
  Calls Tryz.prog 123 #[.agg #[.int .i64 kd,.slice xa xl xc,.int .i64 xd,.slice ya yl yc,.int .i64 yd,.slice za zl zc,.int .i64 zd,.int .i64 wn,.int .i64 wd]] w fun e w' =>
   e=.returned (.agg #[.bool (Num.bS x xd),.bool (Num.bS y yd),.bool (Num.bS z zd),.bool (!Num.oP wn wd)])/\Below w.heap.size w w':=by
 have HX:Hid _:=hx;have HY:Hid _:=hy;have HZ:Hid _:=hz;clear hx hy hz;have hN:=xm.step (xm.new w (.int .i64 kd) (.slice xa xl xc) (.int .i64 xd) (.slice ya yl yc) (.int .i64 yd) (.slice za zl zc) (.int .i64 zd) (.int .i64 wn) (.int .i64 wd) 68) (af _ (.cells #[.bool false,.bool false,.bool false,.bool false] 183));go_enter Tryz.func123,Tryz.ntmps123;go_wp2_with fail;have hH:bT (w.heap.size+1) ((w.alloc (.cells #[.int .i64 kd,.slice xa xl xc,.int .i64 xd,.slice ya yl yc,.int .i64 yd,.slice za zl zc,.int .i64 zd,.int .i64 wn,.int .i64 wd] 68)).alloc (.cells #[.bool false,.bool false,.bool false,.bool false] 183)) (w.heap.size+1) 4 ((w.alloc (.cells #[.int .i64 kd,.slice xa xl xc,.int .i64 xd,.slice ya yl yc,.int .i64 yd,.slice za zl zc,.int .i64 zd,.int .i64 wn,.int .i64 wd] 68)).alloc (.cells #[.bool false,.bool false,.bool false,.bool false] 183)).drew :=
  bT.drew ⟨Below.refl _ _,Nat.le_refl _,_,_,fM (by simp) _,rfl⟩
 have HB0:Hid (Below w.heap.size w ((w.alloc (.cells #[.int .i64 kd,.slice xa xl xc,.int .i64 xd,.slice ya yl yc,.int .i64 yd,.slice za zl zc,.int .i64 zd,.int .i64 wn,.int .i64 wd] 68)).alloc (.cells #[.bool false,.bool false,.bool false,.bool false] 183))):=ai (af _ _) (af _ _);generalize hV:(w.alloc (.cells #[.int .i64 kd,.slice xa xl xc,.int .i64 xd,.slice ya yl yc,.int .i64 yd,.slice za zl zc,.int .i64 zd,.int .i64 wn,.int .i64 wd] 68)).alloc (.cells #[.bool false,.bool false,.bool false,.bool false] 183)=V at *;have hVs:V.heap.size=w.heap.size+2:=by rw [<-hV];simp
 clear hV;have q1:∀w',bT (w.heap.size+1) V (w.heap.size+1) 4 w'->w'.cell? ⟨w.heap.size,1,none⟩=some (.slice xa xl xc):=fun w' h=>by rw [h.dS.cell (p:=⟨w.heap.size,1,none⟩) (Nat.lt_succ_self _)];exact hN.n1
 have q2:∀w',bT (w.heap.size+1) V (w.heap.size+1) 4 w'->w'.cell? ⟨w.heap.size,2,none⟩=some (.int .i64 xd):=fun w' h=>by rw [h.dS.cell (p:=⟨w.heap.size,2,none⟩) (Nat.lt_succ_self _)];exact hN.n2
 have q3:∀w',bT (w.heap.size+1) V (w.heap.size+1) 4 w'->w'.cell? ⟨w.heap.size,3,none⟩=some (.slice ya yl yc):=fun w' h=>by rw [h.dS.cell (p:=⟨w.heap.size,3,none⟩) (Nat.lt_succ_self _)];exact hN.n3
 have q4:∀w',bT (w.heap.size+1) V (w.heap.size+1) 4 w'->w'.cell? ⟨w.heap.size,4,none⟩=some (.int .i64 yd):=fun w' h=>by rw [h.dS.cell (p:=⟨w.heap.size,4,none⟩) (Nat.lt_succ_self _)];exact hN.n4
 have q5:∀w',bT (w.heap.size+1) V (w.heap.size+1) 4 w'->w'.cell? ⟨w.heap.size,5,none⟩=some (.slice za zl zc):=fun w' h=>by rw [h.dS.cell (p:=⟨w.heap.size,5,none⟩) (Nat.lt_succ_self _)];exact hN.n5
 have q6:∀w',bT (w.heap.size+1) V (w.heap.size+1) 4 w'->w'.cell? ⟨w.heap.size,6,none⟩=some (.int .i64 zd):=fun w' h=>by rw [h.dS.cell (p:=⟨w.heap.size,6,none⟩) (Nat.lt_succ_self _)];exact hN.n6
 have q7:∀w',bT (w.heap.size+1) V (w.heap.size+1) 4 w'->w'.cell? ⟨w.heap.size,7,none⟩=some (.int .i64 wn):=fun w' h=>by rw [h.dS.cell (p:=⟨w.heap.size,7,none⟩) (Nat.lt_succ_self _)];exact hN.n7
 have q8:∀w',bT (w.heap.size+1) V (w.heap.size+1) 4 w'->w'.cell? ⟨w.heap.size,8,none⟩=some (.int .i64 wd):=fun w' h=>by rw [h.dS.cell (p:=⟨w.heap.size,8,none⟩) (Nat.lt_succ_self _)];exact hN.n8
 obtain ⟨F0,r0,s0⟩:=bT.cell (B:=w.heap.size+1) (V:=V) (r:=w.heap.size+1) (n:=4) (i:=0) (by omega);obtain ⟨F1,r1,s1⟩:=bT.cell (B:=w.heap.size+1) (V:=V) (r:=w.heap.size+1) (n:=4) (i:=1) (by omega);obtain ⟨F2,r2,s2⟩:=bT.cell (B:=w.heap.size+1) (V:=V) (r:=w.heap.size+1) (n:=4) (i:=2) (by omega);obtain ⟨F3,r3,s3⟩:=bT.cell (B:=w.heap.size+1) (V:=V) (r:=w.heap.size+1) (n:=4) (i:=3) (by omega);have KX:Hid (∀w',bT (w.heap.size+1) V (w.heap.size+1) 4 w'->Calls Tryz.prog 147 #[.agg #[.slice xa xl xc,.int .i64 xd]] w' fun e w''=>e=.returned (.bool (Num.bS x xd))/\bT (w.heap.size+1) V (w.heap.size+1) 4 w''):=fun w' h=>(vS xa xl xc xd x w' HX.out).mono fun _ _ k=>⟨k.1,h.step k.2⟩;have KY:Hid (∀w',bT (w.heap.size+1) V (w.heap.size+1) 4 w'->Calls Tryz.prog 147 #[.agg #[.slice ya yl yc,.int .i64 yd]] w' fun e w''=>e=.returned (.bool (Num.bS y yd))/\bT (w.heap.size+1) V (w.heap.size+1) 4 w''):=fun w' h=>(vS ya yl yc yd y w' HY.out).mono fun _ _ k=>⟨k.1,h.step k.2⟩;have KZ:Hid (∀w',bT (w.heap.size+1) V (w.heap.size+1) 4 w'->Calls Tryz.prog 147 #[.agg #[.slice za zl zc,.int .i64 zd]] w' fun e w''=>e=.returned (.bool (Num.bS z zd))/\bT (w.heap.size+1) V (w.heap.size+1) 4 w''):=fun w' h=>(vS za zl zc zd z w' HZ.out).mono fun _ _ k=>⟨k.1,h.step k.2⟩;clear hN;generalize hbx:Num.bS x xd=bx at *;generalize hby:Num.bS y yd=by' at *
 generalize hbz:Num.bS z zd=bz at *;have iy:Hid _:=hbx;have Xm:Hid _:=hby;have HBZ:Hid _:=hbz;clear hbx hby hbz;by_cases hw0:wn=0
 ·by_cases hw1:wd=0
  ·subst hw0 hw1;go_region_held3 (fun w'=>bT (w.heap.size+1) V (w.heap.size+1) 4 w') (first|assumption|(refine bT.set (bT.set (bT.set (bT.set ?_ 0 _) 1 _) 2 _) 3 _;assumption))
    (first|(go_at_call_of 147 (Value.slice xa xl xc);refine (KX.out _ ?_).mono ?_;assumption;rintro e v1 ⟨rfl,hb1⟩)
               | (go_at_call_of 147 (Value.slice ya yl yc);refine (KY.out _ ?_).mono ?_;assumption;rintro e v2 ⟨rfl,hb2⟩)
               | (go_at_call_of 147 (Value.slice za zl zc);refine (KZ.out _ ?_).mono ?_;assumption;rintro e v3 ⟨rfl,hb3⟩))
   have HB3:Hid (Below (w.heap.size+1) V v3):=hb3.dS;obtain ⟨z0,z1,z2,z3⟩:=zo (r0 v3 hb3) (r1 v3 hb3) (r2 v3 hb3) (r3 v3 hb3) (.bool bx) (.bool by') (.bool bz) (.bool false) _ rfl;have YO:Hid (Below w.heap.size w ((((v3.setCell ⟨w.heap.size+1,0,none⟩ (.bool bx)).setCell ⟨w.heap.size+1,1,none⟩ (.bool by')).setCell ⟨w.heap.size+1,2,none⟩ (.bool bz)).setCell ⟨w.heap.size+1,3,none⟩ (.bool false))):=aV (aV (aV (aV (HB0.out.trans (HB3.out.mono (by omega))) (by omega) _) (by omega) _) (by omega) _) (by omega) _;clear q1 q2 q3 q4 q5 q6 q7 q8 r0 r1 r2 r3 s0 s1 s2 s3 KX KY KZ hb1 hb2 hb3 hH;generalize (((v3.setCell ⟨w.heap.size+1,0,none⟩ (.bool bx)).setCell ⟨w.heap.size+1,1,none⟩ (.bool by')).setCell ⟨w.heap.size+1,2,none⟩ (.bool bz)).setCell ⟨w.heap.size+1,3,none⟩ (.bool false)=WX at *;go_wp2_with fail;exact bodyPost_ret (v:=.agg #[.bool bx,.bool by',.bool bz,.bool false]) (by simp [results,Tryz.results123,go_sem,z0,z1,z2,z3]) rfl ⟨by rw [iy.out,Xm.out,HBZ.out];simp [Num.oP],YO.out⟩
  ·subst hw0;go_region_held3 (fun w'=>bT (w.heap.size+1) V (w.heap.size+1) 4 w') (first|assumption|(refine bT.set (bT.set (bT.set (bT.set ?_ 0 _) 1 _) 2 _) 3 _;assumption))
    (first|(go_at_call_of 147 (Value.slice xa xl xc);refine (KX.out _ ?_).mono ?_;assumption;rintro e v1 ⟨rfl,hb1⟩)
               | (go_at_call_of 147 (Value.slice ya yl yc);refine (KY.out _ ?_).mono ?_;assumption;rintro e v2 ⟨rfl,hb2⟩)
               | (go_at_call_of 147 (Value.slice za zl zc);refine (KZ.out _ ?_).mono ?_;assumption;rintro e v3 ⟨rfl,hb3⟩))
   have HB3:Hid (Below (w.heap.size+1) V v3):=hb3.dS;obtain ⟨z0,z1,z2,z3⟩:=zo (r0 v3 hb3) (r1 v3 hb3) (r2 v3 hb3) (r3 v3 hb3) (.bool bx) (.bool by') (.bool bz) (.bool true) _ rfl;have YO:Hid (Below w.heap.size w ((((v3.setCell ⟨w.heap.size+1,0,none⟩ (.bool bx)).setCell ⟨w.heap.size+1,1,none⟩ (.bool by')).setCell ⟨w.heap.size+1,2,none⟩ (.bool bz)).setCell ⟨w.heap.size+1,3,none⟩ (.bool true))):=aV (aV (aV (aV (HB0.out.trans (HB3.out.mono (by omega))) (by omega) _) (by omega) _) (by omega) _) (by omega) _;clear q1 q2 q3 q4 q5 q6 q7 q8 r0 r1 r2 r3 s0 s1 s2 s3 KX KY KZ hb1 hb2 hb3 hH;generalize (((v3.setCell ⟨w.heap.size+1,0,none⟩ (.bool bx)).setCell ⟨w.heap.size+1,1,none⟩ (.bool by')).setCell ⟨w.heap.size+1,2,none⟩ (.bool bz)).setCell ⟨w.heap.size+1,3,none⟩ (.bool true)=WX at *;go_wp2_with fail;exact bodyPost_ret (v:=.agg #[.bool bx,.bool by',.bool bz,.bool true]) (by simp [results,Tryz.results123,go_sem,z0,z1,z2,z3]) rfl ⟨by rw [iy.out,Xm.out,HBZ.out];simp [Num.oP,hw1],YO.out⟩
 ·go_region_held3 (fun w'=>bT (w.heap.size+1) V (w.heap.size+1) 4 w') (first|assumption|(refine bT.set (bT.set (bT.set (bT.set ?_ 0 _) 1 _) 2 _) 3 _;assumption))
    (first|(go_at_call_of 147 (Value.slice xa xl xc);refine (KX.out _ ?_).mono ?_;assumption;rintro e v1 ⟨rfl,hb1⟩)
               | (go_at_call_of 147 (Value.slice ya yl yc);refine (KY.out _ ?_).mono ?_;assumption;rintro e v2 ⟨rfl,hb2⟩)
               | (go_at_call_of 147 (Value.slice za zl zc);refine (KZ.out _ ?_).mono ?_;assumption;rintro e v3 ⟨rfl,hb3⟩))
  have HB3:Hid (Below (w.heap.size+1) V v3):=hb3.dS;obtain ⟨z0,z1,z2,z3⟩:=zo (r0 v3 hb3) (r1 v3 hb3) (r2 v3 hb3) (r3 v3 hb3) (.bool bx) (.bool by') (.bool bz) (.bool true) _ rfl;have YO:Hid (Below w.heap.size w ((((v3.setCell ⟨w.heap.size+1,0,none⟩ (.bool bx)).setCell ⟨w.heap.size+1,1,none⟩ (.bool by')).setCell ⟨w.heap.size+1,2,none⟩ (.bool bz)).setCell ⟨w.heap.size+1,3,none⟩ (.bool true))):=aV (aV (aV (aV (HB0.out.trans (HB3.out.mono (by omega))) (by omega) _) (by omega) _) (by omega) _) (by omega) _;clear q1 q2 q3 q4 q5 q6 q7 q8 r0 r1 r2 r3 s0 s1 s2 s3 KX KY KZ hb1 hb2 hb3 hH;generalize (((v3.setCell ⟨w.heap.size+1,0,none⟩ (.bool bx)).setCell ⟨w.heap.size+1,1,none⟩ (.bool by')).setCell ⟨w.heap.size+1,2,none⟩ (.bool bz)).setCell ⟨w.heap.size+1,3,none⟩ (.bool true)=WX at *;go_wp2_with fail;exact bodyPost_ret (v:=.agg #[.bool bx,.bool by',.bool bz,.bool true]) (by simp [results,Tryz.results123,go_sem,z0,z1,z2,z3]) rfl ⟨by rw [iy.out,Xm.out,HBZ.out];simp [Num.oP,hw0],YO.out⟩
open Go.RowKit
theorem Num.IV (p:Num.Lp) (hm:p.may=true) (m:Nat) : ∀j:Nat,-12<=(Num.bF p m)[j]?.getD 0/\(Num.bF p m)[j]?.getD 0<=12:=by
 intro j;unfold Num.bF;rw [Num.aA];split
 ·unfold Num.dw;by_cases hj:j < p.rows.length
  ·exact (p.row_of hm j hj).2.2
  ·rw [List.getElem?_eq_none (l:=p.rows) (by omega)];simp
 ·omega
theorem Num.WE (p:Num.Lp) (hm:p.may=true) (m k:Nat) : ∀j:Nat,-12<=(Num.lX p m k)[j]?.getD 0/\(Num.lX p m k)[j]?.getD 0<=12:=by
 intro j;unfold Num.lX;rw [Num.aA];split
 ·exact Num.mO p hm k j
 ·omega
theorem IW (ca:Option Addr) (cl cc:Nat) (ra:Option Addr) (m rc:Nat) (p:Num.Lp) (w:World) (hr:ay w ra m p.rows) (hm:p.may=true)
  (ya:Option Addr) (yc:Nat) (y:List Int) (yd:Int) (hy:Ints w ya m y) (hyb:∀j:Nat,-1073741824<=y[j]?.getD 0/\y[j]?.getD 0<=1073741824) :
  Calls Tryz.prog 150 #[.agg #[.slice ca cl cc,.slice ra m rc],.agg #[.slice ya m yc,.int .i64 yd]] w fun e w'=>e=.returned (.int .i64 (Num.dV p m y))/\Below w.heap.size w w':=by
 have HR:Hid (ay w ra m p.rows):=hr;have HY:Hid (Ints w ya m y):=hy;have RF:Hid (∀j:Nat,-1073741824<=y[j]?.getD 0/\y[j]?.getD 0<=1073741824):=hyb;have HM:Hid (p.may=true):=hm;have h4:m<=4:=by have:=hr.1;have:=(p.aj hm).2.2.1.2;omega
 clear hr hy hm hyb;have hL0:=qN w (.slice ca cl cc) (.slice ra m rc) (.slice ya m yc) (.int .i64 yd) 28 64;go_enter Tryz.func150,Tryz.ntmps150;go_wp2_with fail;generalize hV:(w.alloc (.cells #[.slice ca cl cc,.slice ra m rc] 28)).alloc (.cells #[.slice ya m yc,.int .i64 yd] 64)=V at *;have iy:Hid (∀w',Below V.heap.size V w'->(w'.cell? ⟨w.heap.size,0,none⟩=some (.slice ca cl cc)/\w'.cell? ⟨w.heap.size,1,none⟩=some (.slice ra m rc))/\(w'.cell? ⟨w.heap.size+1,0,none⟩=some (.slice ya m yc)/\w'.cell? ⟨w.heap.size+1,1,none⟩=some (.int .i64 yd))/\w.heap.size+1 < w'.heap.size/\Below w.heap.size w w'):=by intro w' h;rw [<-hV] at h;exact xR h
 have hS0:Below V.heap.size V V.drew:=(Below.refl _ _).drew;clear hV;have q0:∀w',Below V.heap.size V w'->w'.cell? ⟨w.heap.size,0,none⟩=some (.slice ca cl cc):=fun w' h=>(iy.out w' h).1.1;have q1:∀w',Below V.heap.size V w'->w'.cell? ⟨w.heap.size,1,none⟩=some (.slice ra m rc):=fun w' h=>(iy.out w' h).1.2;have q2:∀w',Below V.heap.size V w'->w'.cell? ⟨w.heap.size+1,0,none⟩=some (.slice ya m yc):=fun w' h=>(iy.out w' h).2.1.1;have KM:Hid (∀w',Below V.heap.size V w'->Calls Tryz.prog 61 #[.agg #[.slice ca cl cc,.slice ra m rc]] w' fun e w''=>∃g,e=.returned (.slice (some ⟨g,0,none⟩) m m)/\Below V.heap.size V w''/\Ints w'' (some ⟨g,0,none⟩) m (Num.bF p m)):=by intro w' h;refine (Bd _ _ _ _ _ _ p w' (ay.below HR.out (iy.out w' h).2.2.2 (Nat.le_refl _)) h4).mono ?_;rintro e w'' ⟨g,rfl,_,hl,hb⟩;exact ⟨g,rfl,ai h hb,hl⟩
 have KT:Hid (∀w' g,Below V.heap.size V w'->Ints w' (some ⟨g,0,none⟩) m (Num.bF p m)->Calls Tryz.prog 99 #[.slice (some ⟨g,0,none⟩) m m,.slice ya m yc] w' fun e w''=>e=.returned (.int .i64 (Num.dV p m y))/\Below V.heap.size V w''):=by intro w' g h hi;exact (fE (kY _ _ _ _ _ _ (Num.bF p m) y w' 12 1073741824 hi (Ints.below HY.out (iy.out w' h).2.2.2 (Nat.le_refl _)) rfl (by omega) (Num.IV p HM.out m) RF.out (by omega))).mono fun _ _ k=>⟨k.1,ai h k.2⟩
 clear hL0;go_region_held3 (fun w'=>Below V.heap.size V w') (first|assumption)
  (first|(go_at_call 61;refine (KM.out _ ?_).mono ?_;assumption;rintro e v1 ⟨g1,rfl,hb1,hI1⟩)
           | (go_at_call 99;refine (KT.out _ _ ?_ hI1).mono ?_;assumption;rintro e v2 ⟨rfl,hb2⟩))
 have hB2:=(iy.out _ hb2).2.2.2;clear q0 q1 q2 KM KT hS0 hb1 hb2 hI1;go_wp2_with fail;go_ret;exact ⟨rfl,hB2⟩
theorem Num.zq (f:Nat->Bool) (k:Nat) : (List.range (k+1)).all f=((List.range k).all f && f k):=by rw [List.range_succ,List.all_append];simp
theorem Num.xn (f:Nat->Bool) (n k:Nat) (hk:k < n) (hf:f k=false) : (List.range n).all f=false:=by rw [List.all_eq_false];exact ⟨k,by simpa using hk,by simp [hf]⟩
theorem Num.M9 (m:Nat) (y:List Int) (yd:Int) (h:y.length≠m) : Num.iI m y yd=false:=by
 unfold Num.iI;have:(y.length == m)=false:=by simpa using h
 rw [this];rfl
theorem Num.vT (p:Num.Lp) (m:Nat) (y:List Int) (yd:Int) (c:List Int) (h:Num.iI m y yd=false) : Num.dU p m y yd c=false:=by unfold Num.dU;rw [h];rfl
theorem Num.IX (p:Num.Lp) (m:Nat) (y:List Int) (yd:Int) (c:List Int) (h:Num.iI m y yd=true) : Num.dU p m y yd c=(List.range c.length).all (Num.wI p m y yd c):=by unfold Num.dU;rw [h];rfl
theorem IY (ca:Option Addr) (cl cc:Nat) (ra:Option Addr) (m rc:Nat) (p:Num.Lp) (w:World) (hr:ay w ra m p.rows) (hm:p.may=true)
  (ya:Option Addr) (yl yc:Nat) (y:List Int) (yd:Int) (hy:Ints w ya yl y) (hyl:yl<=9223372036854775807) (wa:Option Addr) (wl wc:Nat) (c:List Int) (hw:Ints w wa wl c) (hw4:wl<=4) (hcb:∀j:Nat,-400<=c[j]?.getD 0/\c[j]?.getD 0<=400) :
  Calls Tryz.prog 149 #[.agg #[.slice ca cl cc,.slice ra m rc],.agg #[.slice ya yl yc,.int .i64 yd],.slice wa wl wc] w fun e w'=>e=.returned (.bool (Num.dU p m y yd c))/\Below w.heap.size w w':=by
 have HR:Hid (ay w ra m p.rows):=hr;have HY:Hid (Ints w ya yl y):=hy;have Qu:Hid (yl=y.length):=hy.1;have HW:Hid (Ints w wa wl c):=hw;have JY:Hid (wl=c.length):=hw.1;have V4:Hid (∀j:Nat,-400<=c[j]?.getD 0/\c[j]?.getD 0<=400):=hcb;have HM:Hid (p.may=true):=hm;have h4:m<=4:=by have:=hr.1;have:=(p.aj hm).2.2.1.2;omega
 clear hr hy hm hw hcb;have hL0:=qN w (.slice ca cl cc) (.slice ra m rc) (.slice ya yl yc) (.int .i64 yd) 28 64;have HB0:Hid _:=(xR hL0).2.2.2;by_cases h1n:yl≠m
 ·have h1':((yl:Int) == (m:Int))=false:=by simp;omega
  have HF:Hid (Num.dU p m y yd c=false):=Num.vT p m y yd c (Num.M9 m y yd (by have:=Qu.out;omega));go_enter Tryz.func149,Tryz.ntmps149;go_wp2_with fail;go_ret;exact ⟨aK HF.out.symm,HB0.out⟩
 obtain rfl:yl=m:=by omega
 clear h1n;cases h2:Num.dn yd y with
 | false =>have HF:Hid (Num.dU p yl y yd c=false):=Num.vT p yl y yd c (by unfold Num.iI;rw [h2];simp);go_enter Tryz.func149,Tryz.ntmps149;go_wp2_with fail;refine (kr yd _ _ _ y _ (Ints.below HY.out HB0.out (Nat.le_refl _)) hyl).mono ?_;rintro e w1 ⟨rfl,hb1⟩;rw [h2];go_wp2_with fail;go_ret;exact ⟨aK HF.out.symm,(xR (ai hL0 hb1)).2.2.2⟩
 | true =>
  cases h3:Num.bO y with
  | true =>have HF:Hid (Num.dU p yl y yd c=false):=Num.vT p yl y yd c (by unfold Num.iI;rw [h3];simp);go_enter Tryz.func149,Tryz.ntmps149;go_wp2_with fail;refine (kr yd _ _ _ y _ (Ints.below HY.out HB0.out (Nat.le_refl _)) hyl).mono ?_;rintro e w1 ⟨rfl,hb1⟩;rw [h2];obtain ⟨⟨c0,c1⟩,⟨c2,c3⟩,hz,hB⟩:=xR (ai hL0 hb1);go_wp2_with fail;refine (lF _ _ _ y _ (Ints.below HY.out hB (Nat.le_refl _)) hyl).mono ?_;rintro e w2 ⟨rfl,rfl⟩;rw [h3];go_wp2_with fail;go_ret;exact ⟨aK HF.out.symm,hB⟩
  | false =>
   have hp:Num.iI yl y yd=true:=by unfold Num.iI;have:=Qu.out;rw [h2,h3,this];simp
   have HF:Hid (Num.dU p yl y yd c=(List.range c.length).all (Num.wI p yl y yd c)):=Num.IX p yl y yd c hp;obtain ⟨_,Yb,Wo,_,_⟩:=Num.kD _ _ _ hp;have RF:Hid (∀j:Nat,-1073741824<=y[j]?.getD 0/\y[j]?.getD 0<=1073741824):=Num.aJ _ _ Wo (by omega);clear hp Wo;go_enter Tryz.func149,Tryz.ntmps149;go_wp2_with fail;refine (kr yd _ _ _ y _ (Ints.below HY.out HB0.out (Nat.le_refl _)) hyl).mono ?_;rintro e w1 ⟨rfl,hb1⟩;rw [h2];have hL1:=ai hL0 hb1;obtain ⟨⟨c0,c1⟩,⟨c2,c3⟩,hz,hB⟩:=xR hL1;go_wp2_with fail;refine (lF _ _ _ y _ (Ints.below HY.out hB (Nat.le_refl _)) hyl).mono ?_;rintro e w2 ⟨rfl,rfl⟩;rw [h3];go_wp2_with fail;generalize hV:(w.alloc (.cells #[.slice ca cl cc,.slice ra yl rc] 28)).alloc (.cells #[.slice ya yl yc,.int .i64 yd] 64)=V at *;have iy:Hid (∀w',Below V.heap.size V w'->(w'.cell? ⟨w.heap.size,0,none⟩=some (.slice ca cl cc)/\w'.cell? ⟨w.heap.size,1,none⟩=some (.slice ra yl rc))/\(w'.cell? ⟨w.heap.size+1,0,none⟩=some (.slice ya yl yc)/\w'.cell? ⟨w.heap.size+1,1,none⟩=some (.int .i64 yd))/\w.heap.size+1 < w'.heap.size/\Below w.heap.size w w'):=by intro w' h;rw [<-hV] at h;exact xR h
   clear hV hL0 hb1 c0 c1 c2 c3 hz hB HB0;go_loopw [28] (fun i wr=>∃k:Nat,k<=wl/\i=.int .i64 k/\(List.range k).all (Num.wI p yl y yd c)=true/\Below V.heap.size V wr) (fun i _=>wl - (intOf i).toNat)
   case atStart=>exact ⟨0,Nat.zero_le _,rfl,rfl,hL1⟩
   case round =>
    obtain ⟨k,hk,rfl,hall,hbl⟩:=hrel;have YP:Hid _:=hall;clear hall hL1;by_cases hlt:k < wl
    ·rcases (Ints.below HW.out (iy.out _ hbl).2.2.2 (Nat.le_refl _)).2 with h|⟨b,off,ha,hbs,hc⟩
     ·omega
     have hck:=hc k hlt;clear hc;have hcb:=V4.out k;have hmul:=Num.ko _ _ 400 1073741824 hcb (by omega : -1073741824<=yd/\yd<=1073741824);have HK:Hid (Num.wI p yl y yd c k=decide (c[k]?.getD 0*yd<=Num.dotN (Num.lX p yl k) y yl)):=rfl;have hwr:wrap64 (c[k]?.getD 0*yd)=c[k]?.getD 0*yd:=IntWalk.wrap64_in _ (by omega);have hwr2:IntKind.i64.wrap (c[k]?.getD 0*yd)=c[k]?.getD 0*yd:=by rw [IntWalk.i64_left];exact hwr
     generalize c[k]?.getD 0=x at hck hcb hmul HK hwr hwr2;subst ha;have q0:∀w',Below wr.heap.size wr w'->w'.cell? ⟨w.heap.size,0,none⟩=some (.slice ca cl cc):=fun w' h=>(iy.out w' (ai hbl h)).1.1;have q1:∀w',Below wr.heap.size wr w'->w'.cell? ⟨w.heap.size,1,none⟩=some (.slice ra yl rc):=fun w' h=>(iy.out w' (ai hbl h)).1.2;have q2:∀w',Below wr.heap.size wr w'->w'.cell? ⟨w.heap.size+1,0,none⟩=some (.slice ya yl yc):=fun w' h=>(iy.out w' (ai hbl h)).2.1.1;have q3:∀w',Below wr.heap.size wr w'->w'.cell? ⟨w.heap.size+1,1,none⟩=some (.int .i64 yd):=fun w' h=>(iy.out w' (ai hbl h)).2.1.2;have KC:Hid (∀w',Below wr.heap.size wr w'->Calls Tryz.prog 94 #[.agg #[.slice ca cl cc,.slice ra yl rc],.int .i64 k] w' fun e w''=>∃g,e=.returned (.slice (some ⟨g,0,none⟩) yl yl)/\Below wr.heap.size wr w''/\Ints w'' (some ⟨g,0,none⟩) yl (Num.lX p yl k)):=by intro w' h;refine (om _ _ _ _ _ _ p w' (ay.below HR.out (iy.out w' (ai hbl h)).2.2.2 (Nat.le_refl _)) HM.out k (by omega)).mono ?_;rintro e w'' ⟨g,rfl,_,hi,hb⟩;exact ⟨g,rfl,ai h hb,hi⟩
     have KT:Hid (∀w' g,Below wr.heap.size wr w'->Ints w' (some ⟨g,0,none⟩) yl (Num.lX p yl k)->Calls Tryz.prog 99 #[.slice (some ⟨g,0,none⟩) yl yl,.slice ya yl yc] w' fun e w''=>e=.returned (.int .i64 (Num.dotN (Num.lX p yl k) y yl))/\Below wr.heap.size wr w''):=by intro w' g h hi;exact (fE (kY _ _ _ _ _ _ (Num.lX p yl k) y w' 12 1073741824 hi (Ints.below HY.out (iy.out w' (ai hbl h)).2.2.2 (Nat.le_refl _)) rfl (by omega) (Num.WE p HM.out yl k) RF.out (by omega))).mono fun _ _ k=>⟨k.1,ai h k.2⟩
     have hS0:Below wr.heap.size wr wr.drew:=(Below.refl _ _).drew;generalize Num.dotN (Num.lX p yl k) y yl=D at HK KT;go_wp2_with fail;go_region_held3 (fun w'=>Below wr.heap.size wr w') (first|assumption)
      (first|(go_at_call 94;refine (KC.out _ ?_).mono ?_;assumption;rintro e v1 ⟨g1,rfl,hb1,hI1⟩)
                   | (go_at_call 99;refine (KT.out _ _ ?_ hI1).mono ?_;assumption;rintro e v2 ⟨rfl,hb2⟩))
     have jT:=ai hbl hb2;clear q0 q1 q2 q3 KC KT hS0 hb1 hb2 hI1 hck;by_cases hg:D < x*yd
     ·go_wp2_with fail;go_ret;refine ⟨aK ?_,(iy.out _ jT).2.2.2⟩;rw [HF.out];exact (Num.xn _ _ k (by have:=JY.out;omega) (by rw [HK.out];simp;omega)).symm
     ·have hg':decide (D < x*yd)=false:=by simpa using hg
      go_wp2_with fail;go_roundw
      case rel=>exact ⟨k+1,hlt,by go_num,by rw [Num.zq,YP.out,HK.out];simp;omega,jT⟩
      case measure=>simp [intOf];omega
    ·have hke:k=c.length:=by have:=JY.out;omega
     have WG:=(iy.out _ hbl).2.2.2;go_wp2_with fail;go_ret;refine ⟨aK ?_,WG⟩;rw [HF.out,<-hke];exact YP.out.symm
open Go.RowKit
open Go.RowKit
section
variable {P:Program} {l:List Oper} {Q:Exit->Act->World->Prop} {md:Region.Mode} {S:World->Prop}
theorem jl {i:Nat} {oi:Oper} {v:Value} {fuel:Nat} {listed:Array Bool} {a:Act} {w:World} (hi:l[i]? = some oi)
  (hs:Region.noSelect l.toArray=true) (hf:Region.free md l.toArray listed i=true) (hr:(Region.ready md l.toArray listed).contains i=true)
  (hQ:∀c a w,Q (.panic c) (a.put oi.dst v) w->Q (.panic c) a w) (hy:YieldsIf P l.toArray S oi v a) (hS:S w)
  (h:wpAnyH P md l.toArray Q S fuel (listed.setIfInBounds i true) (a.put oi.dst v) w) : wpAnyH P md l.toArray Q S (fuel+1) listed a w :=
 wpAnyH_take (by rw [List.getElem?_toArray];exact hi) hs hf hr hQ hy hS h
theorem Qv {i:Nat} {o:Oper} {fuel:Nat} {listed:Array Bool} {a:Act} {w:World} (hi:l[i]? = some o)
  (h:∀K':Act->World->Prop,Shut (∀a w,S w->(S w->wpAnyH P md l.toArray Q S fuel (listed.setIfInBounds i true) a w)->K' a w)->if Region.wanted o (yielded l.toArray a.tmps)=true then Oper.wp P o a w K' Q else K' (a.put o.dst undef) w) :
  AllReadyH P md l.toArray Q S fuel listed a w [i] :=
 AllReadyH.cons (by rw [List.getElem?_toArray];exact hi) h AllReadyH.nil
end
theorem U5 {w w1:World} {a b c0 c1 c2 c3 c4 c5 c6 c7 c8:Value} {t u:TypeId} (hb:Below ((w.alloc (.cells #[a,b] t)).alloc (.cells #[c0,c1,c2,c3,c4,c5,c6,c7,c8] u)).heap.size ((w.alloc (.cells #[a,b] t)).alloc (.cells #[c0,c1,c2,c3,c4,c5,c6,c7,c8] u)) w1) :
  (w1.cell? ⟨w.heap.size,0,none⟩=some a/\w1.cell? ⟨w.heap.size,1,none⟩=some b)/\xm (w.heap.size+1) c0 c1 c2 c3 c4 c5 c6 c7 c8 w1/\w.heap.size+1 < w1.heap.size/\Below w.heap.size w w1:=by
 have hn:=xm.step (xm.new (w.alloc (.cells #[a,b] t)) c0 c1 c2 c3 c4 c5 c6 c7 c8 u) hb;refine ⟨⟨?_,?_⟩,by simpa using hn,?_,?_⟩
 ·rw [hb.cell (by simp;omega)];go_simp
 ·rw [hb.cell (by simp;omega)];go_simp
 ·have:=hb.size;simp at this;omega
 ·exact (((Below.refl _ _).alloc (Nat.le_refl _) _).alloc (by simp) _).trans (hb.mono (by simp;omega))
theorem IZ (n:Nat) (hn:n<=4) : ∃f:World->World,(∀w,(Instr.makeSlice 25 (.int .i64 (n:Int)) (.int .i64 (n:Int))).run Tryz.prog w=.ok (.slice (some ⟨w.heap.size,0,none⟩) n n) (f w))/\(∀w,Below w.heap.size w (f w)/\Ints (f w) (some ⟨w.heap.size,0,none⟩) n (List.replicate n 0)):=by
 obtain ⟨i0,hif,hz0,hz1,hz2⟩:=info_parts Tryz.ja;have key:∀w:World,∃w',(Instr.makeSlice 25 (.int .i64 (n:Int)) (.int .i64 (n:Int))).run Tryz.prog w=.ok (.slice (some ⟨w.heap.size,0,none⟩) n n) w'/\Below w.heap.size w w'/\Ints w' (some ⟨w.heap.size,0,none⟩) n (List.replicate n 0):=by intro w;obtain ⟨w',h1,h2,h3⟩:=run_make_full (P:=Tryz.prog) w w.heap.size 25 2 i0 (.int .i64 0) 1 Tryz.underlying25 hif hz0 hz1 .i64 .i64 n (by rw [hz2];omega) (by unfold maxLen;omega) (Nat.le_refl _);refine ⟨w',h1,bY h3,?_⟩;have:=(Own.made (fun _=>0) h2).ints;rw [Num.qO] at this;exact this
 exact ⟨fun w=>(key w).choose,fun w=>(key w).choose_spec.1,fun w=>(key w).choose_spec.2⟩
theorem Num.I1 (p:Num.Lp) (a:Num.pK) (h:(a.yd == 1)=false) : Num.dI p a=false:=by unfold Num.dI;rw [h];rfl
theorem Num.FZ (p:Num.Lp) (a:Num.pK) (h:Num.dU p p.rows.length a.y a.yd (List.replicate p.costs.length 0)=false) : Num.dI p a=false:=by unfold Num.dI;rw [h];simp
theorem Num.F9 (p:Num.Lp) (a:Num.pK) (h1:(a.yd == 1)=true) (h:Num.dU p p.rows.length a.y a.yd (List.replicate p.costs.length 0)=true) : Num.dI p a=decide (Num.dV p p.rows.length a.y < 0):=by unfold Num.dI;rw [h,h1];simp
theorem Ga (ca:Option Addr) (cl cc:Nat) (ra:Option Addr) (m rc:Nat) (p:Num.Lp) (w:World) (hc:Ints w ca cl p.costs) (hr:ay w ra m p.rows) (hm:p.may=true) (a:Num.pK)
  (xa:Option Addr) (xl xc:Nat) (ya:Option Addr) (yl yc:Nat) (za:Option Addr) (zl zc:Nat) (hy:Ints w ya yl a.y) (hyl:yl<=9223372036854775807) :
  Calls Tryz.prog 126 #[.agg #[.slice ca cl cc,.slice ra m rc],.agg #[.int .i64 a.kind,.slice xa xl xc,.int .i64 a.xd,.slice ya yl yc,.int .i64 a.yd,.slice za zl zc,.int .i64 a.rd,.int .i64 a.wn,.int .i64 a.wd]] w fun e w' =>
   e=.returned (.bool (Num.dI p a))/\Below w.heap.size w w':=by
 have HR:Hid (ay w ra m p.rows):=hr;have HY:Hid (Ints w ya yl a.y):=hy;have HM:Hid (p.may=true):=hm;have kZ:Hid (cl=p.costs.length):=hc.1;have kz:Hid (m=p.rows.length):=hr.1;have YQ:cl<=4:=by have:=hc.1;have:=(p.aj hm).1.2;omega
 clear hr hy hm hc;have hL0:Below ((w.alloc (.cells #[.slice ca cl cc,.slice ra m rc] 28)).alloc (.cells #[.int .i64 a.kind,.slice xa xl xc,.int .i64 a.xd,.slice ya yl yc,.int .i64 a.yd,.slice za zl zc,.int .i64 a.rd,.int .i64 a.wn,.int .i64 a.wd] 68)).heap.size ((w.alloc (.cells #[.slice ca cl cc,.slice ra m rc] 28)).alloc (.cells #[.int .i64 a.kind,.slice xa xl xc,.int .i64 a.xd,.slice ya yl yc,.int .i64 a.yd,.slice za zl zc,.int .i64 a.rd,.int .i64 a.wn,.int .i64 a.wd] 68)) ((w.alloc (.cells #[.slice ca cl cc,.slice ra m rc] 28)).alloc (.cells #[.int .i64 a.kind,.slice xa xl xc,.int .i64 a.xd,.slice ya yl yc,.int .i64 a.yd,.slice za zl zc,.int .i64 a.rd,.int .i64 a.wn,.int .i64 a.wd] 68)):=Below.refl _ _;obtain ⟨f,hmk,hfz⟩:=IZ cl YQ;have Ea:Hid _:=hfz;clear hfz;have Qw:=Num.I1 p a;have G6:=Num.FZ p a;have Gb:=Num.F9 p a;rw [<-kz.out,<-kZ.out] at G6 Gb;have H1:Hid _:=Qw;have H2:Hid _:=G6;have H3:Hid _:=Gb;clear Qw G6 Gb;generalize Num.dI p a=res at *;obtain ⟨kd,x,xd,y,yd,z,zd,wn,wd⟩:=a;dsimp only at *;go_enter Tryz.func126,Tryz.ntmps126;go_wp2_with fail;generalize hV:(w.alloc (.cells #[.slice ca cl cc,.slice ra m rc] 28)).alloc (.cells #[.int .i64 kd,.slice xa xl xc,.int .i64 xd,.slice ya yl yc,.int .i64 yd,.slice za zl zc,.int .i64 zd,.int .i64 wn,.int .i64 wd] 68)=V at *;have iy:Hid (∀w',Below V.heap.size V w'->(w'.cell? ⟨w.heap.size,0,none⟩=some (.slice ca cl cc)/\w'.cell? ⟨w.heap.size,1,none⟩=some (.slice ra m rc))/\xm (w.heap.size+1) (.int .i64 kd) (.slice xa xl xc) (.int .i64 xd) (.slice ya yl yc) (.int .i64 yd) (.slice za zl zc) (.int .i64 zd) (.int .i64 wn) (.int .i64 wd) w'/\w.heap.size+1 < w'.heap.size/\Below w.heap.size w w'):=by intro w' h;rw [<-hV] at h;exact U5 h
 clear hV;have q0:∀w',Below V.heap.size V w'->w'.cell? ⟨w.heap.size,0,none⟩=some (.slice ca cl cc):=fun w' h=>(iy.out w' h).1.1;have q1:∀w',Below V.heap.size V w'->w'.cell? ⟨w.heap.size,1,none⟩=some (.slice ra m rc):=fun w' h=>(iy.out w' h).1.2;have q3:∀w',Below V.heap.size V w'->w'.cell? ⟨w.heap.size+1,3,none⟩=some (.slice ya yl yc):=fun w' h=>(iy.out w' h).2.1.n3;have q4:∀w',Below V.heap.size V w'->w'.cell? ⟨w.heap.size+1,4,none⟩=some (.int .i64 yd):=fun w' h=>(iy.out w' h).2.1.n4;have hS0:Below V.heap.size V V.drew:=(Below.refl _ _).drew;have U3:Hid (∀w',Below V.heap.size V w'->Below V.heap.size V (f w')):=fun w' h=>ai h (Ea.out w').1;cases hd:(yd == 1) with
 | false =>have hf:=H1.out hd;have p4:=q4 V hL0;clear q0 q1 q3 q4;go_region;have WG:=(iy.out V.drew hS0).2.2.2;go_wp2_with fail;go_ret;exact ⟨aK hf.symm,WG⟩
 | true =>
  obtain rfl:yd=1:=by simpa using hd
  have hS1:Below V.heap.size V (f V.drew):=U3.out _ hS0;have KC:Hid (∀w' g,Below V.heap.size V w'->Ints w' (some ⟨g,0,none⟩) cl (List.replicate cl 0)->Calls Tryz.prog 149 #[.agg #[.slice ca cl cc,.slice ra m rc],.agg #[.slice ya yl yc,.int .i64 1],.slice (some ⟨g,0,none⟩) cl cl] w' fun e w''=>e=.returned (.bool (Num.dU p m y 1 (List.replicate cl 0)))/\Below V.heap.size V w''):=by intro w' g h hi;exact (IY _ _ _ _ _ _ p w' (ay.below HR.out (iy.out w' h).2.2.2 (Nat.le_refl _)) HM.out _ _ _ y 1 (Ints.below HY.out (iy.out w' h).2.2.2 (Nat.le_refl _)) hyl _ _ _ (List.replicate cl 0) hi YQ (fun j=>by rw [List.getElem?_replicate];split<;>simp)).mono fun _ _ k=>⟨k.1,ai h k.2⟩
  cases hcv:Num.dU p m y 1 (List.replicate cl 0) with
  | false =>
   rw [hcv] at KC;have hf:=H2.out hcv;refine wp_region_held_drew (S:=fun w'=>Below V.heap.size V w') (by kernel_rfl) ?_ (fun hHeld=>?_)
   ·assumption
   refine jl (i:=0) (v:=?_) rfl (by kernel_rfl) (by kernel_rfl) (by kernel_rfl) (fun _ _ _ h=>h) (Or.inl ⟨by rfl,?_⟩) (by assumption) ?_;rotate_left
   ·(intro w' hSw;go_simp;(try with_reducible rfl))
   simp only [Act.put,List.setIfInBounds_toArray,List.set_cons_zero,List.set_cons_succ];refine jl (i:=1) (v:=?_) rfl (by kernel_rfl) (by kernel_rfl) (by kernel_rfl) (fun _ _ _ h=>h) (Or.inl ⟨by rfl,?_⟩) (by assumption) ?_;rotate_left
   ·(intro w' hSw;go_simp;(try with_reducible rfl))
   simp only [Act.put,List.setIfInBounds_toArray,List.set_cons_zero,List.set_cons_succ];refine jl (i:=2) (v:=?_) rfl (by kernel_rfl) (by kernel_rfl) (by kernel_rfl) (fun _ _ _ h=>h) (Or.inl ⟨by rfl,?_⟩) (by assumption) ?_;rotate_left
   ·(intro w' hSw;go_simp;(try with_reducible rfl))
   simp only [Act.put,List.setIfInBounds_toArray,List.set_cons_zero,List.set_cons_succ];refine jl (i:=3) (v:=?_) rfl (by kernel_rfl) (by kernel_rfl) (by kernel_rfl) (fun _ _ _ h=>h) (Or.inl ⟨by rfl,?_⟩) (by assumption) ?_;rotate_left
   ·(intro w' hSw;go_simp;(try with_reducible rfl))
   simp only [Act.put,List.setIfInBounds_toArray,List.set_cons_zero,List.set_cons_succ];refine jl (i:=4) (v:=?_) rfl (by kernel_rfl) (by kernel_rfl) (by kernel_rfl) (fun _ _ _ h=>h) (Or.inl ⟨by rfl,?_⟩) (by assumption) ?_;rotate_left
   ·(intro w' hSw;go_simp;(try with_reducible rfl))
   simp only [Act.put,List.setIfInBounds_toArray,List.set_cons_zero,List.set_cons_succ];refine jl (i:=5) (v:=?_) rfl (by kernel_rfl) (by kernel_rfl) (by kernel_rfl) (fun _ _ _ h=>h) (Or.inl ⟨by rfl,?_⟩) (by assumption) ?_;rotate_left
   ·(intro w' hSw;go_simp;(try with_reducible rfl))
   simp only [Act.put,List.setIfInBounds_toArray,List.set_cons_zero,List.set_cons_succ];refine jl (i:=6) (v:=?_) rfl (by kernel_rfl) (by kernel_rfl) (by kernel_rfl) (fun _ _ _ h=>h) (Or.inl ⟨by rfl,?_⟩) (by assumption) ?_;rotate_left
   ·(intro w' hSw;go_simp;(try with_reducible rfl))
   simp only [Act.put,List.setIfInBounds_toArray,List.set_cons_zero,List.set_cons_succ];refine jl (i:=7) (v:=?_) rfl (by kernel_rfl) (by kernel_rfl) (by kernel_rfl) (fun _ _ _ h=>h) (Or.inl ⟨by rfl,?_⟩) (by assumption) ?_;rotate_left
   ·(intro w' hSw;go_simp;(try with_reducible rfl))
   simp only [Act.put,List.setIfInBounds_toArray,List.set_cons_zero,List.set_cons_succ];refine jl (i:=8) (v:=?_) rfl (by kernel_rfl) (by kernel_rfl) (by kernel_rfl) (fun _ _ _ h=>h) (Or.inl ⟨by rfl,?_⟩) (by assumption) ?_;rotate_left
   ·(intro w' hSw;go_simp;(try with_reducible rfl))
   simp only [Act.put,List.setIfInBounds_toArray,List.set_cons_zero,List.set_cons_succ];refine jl (i:=9) (v:=?_) rfl (by kernel_rfl) (by kernel_rfl) (by kernel_rfl) (fun _ _ _ h=>h) (Or.inl ⟨by rfl,?_⟩) (by assumption) ?_;rotate_left
   ·(intro w' hSw;go_simp;(try with_reducible rfl))
   simp only [Act.put,List.setIfInBounds_toArray,List.set_cons_zero,List.set_cons_succ];refine jl (i:=10) (v:=?_) rfl (by kernel_rfl) (by kernel_rfl) (by kernel_rfl) (fun _ _ _ h=>h) (Or.inl ⟨by rfl,?_⟩) (by assumption) ?_;rotate_left
   ·(intro w' hSw;go_simp;(try with_reducible rfl))
   simp only [Act.put,List.setIfInBounds_toArray,List.set_cons_zero,List.set_cons_succ];refine wpAnyH_ready (rs:=[11]) (by kernel_rfl) (by simp) ?_;refine Qv rfl (fun K hK=>?_);go_simp;refine hK.out _ _ ?_ (fun hHeld=>?_)
   ·(first|assumption|(apply U3.out;assumption))
   clear hK K;refine wpAnyH_ready (rs:=[12]) (by kernel_rfl) (by simp) ?_;refine Qv rfl (fun K hK=>?_);go_simp;refine (KC.out _ _ ?_ (Ea.out _).2).mono ?_
   ·assumption
   rintro e v1 ⟨rfl,hb1⟩;go_wp2_with fail;refine hK.out _ _ ?_ (fun hHeld=>?_)
   ·(first|assumption|(apply U3.out;assumption))
   clear hK K;refine jl (i:=13) (v:=?_) rfl (by kernel_rfl) (by kernel_rfl) (by kernel_rfl) (fun _ _ _ h=>h) (Or.inl ⟨by rfl,?_⟩) (by assumption) ?_;rotate_left
   ·(intro w' hSw;go_simp;(try with_reducible rfl))
   simp only [Act.put,List.setIfInBounds_toArray,List.set_cons_zero,List.set_cons_succ];refine jl (i:=14) (v:=?_) rfl (by kernel_rfl) (by kernel_rfl) (by kernel_rfl) (fun _ _ _ h=>h) (Or.inl ⟨by rfl,?_⟩) (by assumption) ?_;rotate_left
   ·(intro w' hSw;go_simp;(try with_reducible rfl))
   simp only [Act.put,List.setIfInBounds_toArray,List.set_cons_zero,List.set_cons_succ];refine jl (i:=15) (v:=undef) rfl (by kernel_rfl) (by kernel_rfl) (by kernel_rfl) (fun _ _ _ h=>h) (Or.inr ⟨by rfl,rfl⟩) (by assumption) ?_;simp only [Act.put,List.setIfInBounds_toArray,List.set_cons_zero,List.set_cons_succ];refine jl (i:=16) (v:=undef) rfl (by kernel_rfl) (by kernel_rfl) (by kernel_rfl) (fun _ _ _ h=>h) (Or.inr ⟨by rfl,rfl⟩) (by assumption) ?_;simp only [Act.put,List.setIfInBounds_toArray,List.set_cons_zero,List.set_cons_succ];refine jl (i:=17) (v:=undef) rfl (by kernel_rfl) (by kernel_rfl) (by kernel_rfl) (fun _ _ _ h=>h) (Or.inr ⟨by rfl,rfl⟩) (by assumption) ?_;simp only [Act.put,List.setIfInBounds_toArray,List.set_cons_zero,List.set_cons_succ];refine jl (i:=18) (v:=undef) rfl (by kernel_rfl) (by kernel_rfl) (by kernel_rfl) (fun _ _ _ h=>h) (Or.inr ⟨by rfl,rfl⟩) (by assumption) ?_;simp only [Act.put,List.setIfInBounds_toArray,List.set_cons_zero,List.set_cons_succ];refine jl (i:=19) (v:=undef) rfl (by kernel_rfl) (by kernel_rfl) (by kernel_rfl) (fun _ _ _ h=>h) (Or.inr ⟨by rfl,rfl⟩) (by assumption) ?_;simp only [Act.put,List.setIfInBounds_toArray,List.set_cons_zero,List.set_cons_succ];refine jl (i:=20) (v:=?_) rfl (by kernel_rfl) (by kernel_rfl) (by kernel_rfl) (fun _ _ _ h=>h) (Or.inl ⟨by rfl,?_⟩) (by assumption) ?_;rotate_left
   ·(intro w' hSw;go_simp;(try with_reducible rfl))
   simp only [Act.put,List.setIfInBounds_toArray,List.set_cons_zero,List.set_cons_succ];refine jl (i:=21) (v:=?_) rfl (by kernel_rfl) (by kernel_rfl) (by kernel_rfl) (fun _ _ _ h=>h) (Or.inl ⟨by rfl,?_⟩) (by assumption) ?_;rotate_left
   ·(intro w' hSw;go_simp;(try with_reducible rfl))
   simp only [Act.put,List.setIfInBounds_toArray,List.set_cons_zero,List.set_cons_succ];refine wpAnyH_done (by kernel_rfl) ?_ _;have WG:=(iy.out v1 hb1).2.2.2;clear q0 q1 q3 q4 KC hmk hHeld;go_wp2_with fail;go_ret;exact ⟨aK hf.symm,WG⟩
  | true =>
   rw [hcv] at KC;have hf:=H3.out hd hcv;obtain ⟨hpt,_⟩:=Num.lH _ _ _ _ _ hcv;obtain ⟨hym,_,Wo,_,_⟩:=Num.kD _ _ _ hpt;have RF:Hid (∀j:Nat,-1073741824<=y[j]?.getD 0/\y[j]?.getD 0<=1073741824):=Num.aJ _ _ Wo (by omega);have ag2:yl=m:=by have:=HY.out.1;omega
   clear hpt Wo hcv hym;subst ag2;have KP:Hid (∀w',Below V.heap.size V w'->Calls Tryz.prog 150 #[.agg #[.slice ca cl cc,.slice ra yl rc],.agg #[.slice ya yl yc,.int .i64 1]] w' fun e w''=>e=.returned (.int .i64 (Num.dV p yl y))/\Below V.heap.size V w''):=by intro w' h;exact (IW _ _ _ _ _ _ p w' (ay.below HR.out (iy.out w' h).2.2.2 (Nat.le_refl _)) HM.out _ _ y 1 (Ints.below HY.out (iy.out w' h).2.2.2 (Nat.le_refl _)) RF.out).mono fun _ _ k=>⟨k.1,ai h k.2⟩
   generalize Num.dV p yl y=pr at hf KP;go_region_held3 (fun w'=>Below V.heap.size V w') (first|assumption|(apply U3.out;assumption))
    (first|(go_at_call 149;refine (KC.out _ _ ?_ (Ea.out _).2).mono ?_;assumption;rintro e v1 ⟨rfl,hb1⟩)
               | (go_at_call 150;refine (KP.out _ ?_).mono ?_;assumption;rintro e v2 ⟨rfl,hb2⟩))
   have WG:=(iy.out v2 hb2).2.2.2;clear q0 q1 q3 q4 KC KP hmk;go_wp2_with fail;go_ret;exact ⟨aK hf.symm,WG⟩
open Go.RowKit
open Go.RowKit
open Go.RowKit
theorem Num.TV (p:Num.Lp) (a:Num.pK) (h:p.may=true) (hk:a.kind=3) : Num.holds p a=((!Num.bS a.x a.xd && Num.bS a.y a.yd && !Num.bS a.r a.rd && Num.oP a.wn a.wd) && Num.dI p a):=by
 rw [Num.nu p a h hk];cases hb:Num.dI p a with
 | false=>simp
 | true=>have h1:=Num.Al p h a hb;rw [h1];simp
theorem parts_eq (b0 b1 b2 b3 c0 c1 c2 c3:Bool) (w:World) : (Op.equalIn 10000 183 (.agg #[.bool b0,.bool b1,.bool b2,.bool b3]) (.agg #[.bool c0,.bool c1,.bool c2,.bool c3])).run Tryz.prog w=.ok ((b0 == c0) && (b1 == c1) && (b2 == c2) && (b3 == c3)) w:=by cases b0<;>cases b1<;>cases b2<;>cases b3<;>cases c0<;>cases c1<;>cases c2<;>cases c3<;>kernel_rfl
theorem I4 (ca:Option Addr) (cl cc:Nat) (ra:Option Addr) (m rc:Nat) (p:Num.Lp) (w:World) (hc:Ints w ca cl p.costs) (hcl:cl<=9223372036854775807) (hr:ay w ra m p.rows) (hrl:m<=9223372036854775807) (a:Num.pK)
  (xa:Option Addr) (xl xc:Nat) (ya:Option Addr) (yl yc:Nat) (za:Option Addr) (zl zc:Nat) (hx:Ints w xa xl a.x) (hy:Ints w ya yl a.y) (hyl:yl<=9223372036854775807) (hz:Ints w za zl a.r) (h3:a.kind=3) :
  Calls Tryz.prog 91 #[.agg #[.slice ca cl cc,.slice ra m rc],.agg #[.int .i64 a.kind,.slice xa xl xc,.int .i64 a.xd,.slice ya yl yc,.int .i64 a.yd,.slice za zl zc,.int .i64 a.rd,.int .i64 a.wn,.int .i64 a.wd]] w fun e w' =>
   e=.returned (.bool (Num.holds p a))/\Below w.heap.size w w':=by
 have H3:Hid (a.kind=3):=h3;clear h3;have HC:Hid (Ints w ca cl p.costs):=hc;have HR:Hid (ay w ra m p.rows):=hr;have HX:Hid (Ints w xa xl a.x):=hx;have HY:Hid (Ints w ya yl a.y):=hy;have HZ:Hid (Ints w za zl a.r):=hz;have xA:Hid (xl=a.x.length):=hx.1;have Qu:Hid (yl=a.y.length):=hy.1;have HZL:Hid (zl=a.r.length):=hz.1;clear hr hx hy hz hc;have hL0:Below ((w.alloc (.cells #[.slice ca cl cc,.slice ra m rc] 28)).alloc (.cells #[.int .i64 a.kind,.slice xa xl xc,.int .i64 a.xd,.slice ya yl yc,.int .i64 a.yd,.slice za zl zc,.int .i64 a.rd,.int .i64 a.wn,.int .i64 a.wd] 68)).heap.size ((w.alloc (.cells #[.slice ca cl cc,.slice ra m rc] 28)).alloc (.cells #[.int .i64 a.kind,.slice xa xl xc,.int .i64 a.xd,.slice ya yl yc,.int .i64 a.yd,.slice za zl zc,.int .i64 a.rd,.int .i64 a.wn,.int .i64 a.wd] 68)) ((w.alloc (.cells #[.slice ca cl cc,.slice ra m rc] 28)).alloc (.cells #[.int .i64 a.kind,.slice xa xl xc,.int .i64 a.xd,.slice ya yl yc,.int .i64 a.yd,.slice za zl zc,.int .i64 a.rd,.int .i64 a.wn,.int .i64 a.wd] 68)):=Below.refl _ _;have ZZ:Hid _:=Num.qb p a;have HH4:Hid _:=Num.TV p a;generalize Num.holds p a=res at *;go_enter Tryz.func91,Tryz.ntmps91;go_wp2_with fail;generalize hV:(w.alloc (.cells #[.slice ca cl cc,.slice ra m rc] 28)).alloc (.cells #[.int .i64 a.kind,.slice xa xl xc,.int .i64 a.xd,.slice ya yl yc,.int .i64 a.yd,.slice za zl zc,.int .i64 a.rd,.int .i64 a.wn,.int .i64 a.wd] 68)=V at *;have iy:Hid (∀w',Below V.heap.size V w'->(w'.cell? ⟨w.heap.size,0,none⟩=some (.slice ca cl cc)/\w'.cell? ⟨w.heap.size,1,none⟩=some (.slice ra m rc))/\xm (w.heap.size+1) (.int .i64 a.kind) (.slice xa xl xc) (.int .i64 a.xd) (.slice ya yl yc) (.int .i64 a.yd) (.slice za zl zc) (.int .i64 a.rd) (.int .i64 a.wn) (.int .i64 a.wd) w'/\w.heap.size+1 < w'.heap.size/\Below w.heap.size w w'):=by intro w' h;rw [<-hV] at h;exact U5 h
 clear hV;have hB0:=(iy.out V hL0).2.2.2;refine (fA _ _ _ _ _ _ p _ (Ints.below HC.out hB0 (Nat.le_refl _)) hcl (ay.below HR.out hB0 (Nat.le_refl _)) hrl).mono ?_;rintro e w1 ⟨rfl,hk1⟩;have hb1:=ai hL0 hk1;clear hB0 hk1;obtain ⟨⟨c0,c1⟩,⟨n0,n1,n2,n3,n4,n5,n6,n7,n8⟩,hz1,hB1⟩:=iy.out w1 hb1;cases hm:p.may with
 | false =>
  have hf:res=false:=ZZ.out hm;go_wp2_with fail;go_ret
  (first|exact ⟨aK hf.symm,hB1⟩|exact ⟨rfl,hB1⟩)
 | true =>
 have KP:Hid (∀w',Below V.heap.size V w'->Calls Tryz.prog 123 #[.agg #[.int .i64 a.kind,.slice xa xl xc,.int .i64 a.xd,.slice ya yl yc,.int .i64 a.yd,.slice za zl zc,.int .i64 a.rd,.int .i64 a.wn,.int .i64 a.wd]] w' fun e w''=>e=.returned (.agg #[.bool (Num.bS a.x a.xd),.bool (Num.bS a.y a.yd),.bool (Num.bS a.r a.rd),.bool (!Num.oP a.wn a.wd)])/\Below V.heap.size V w''):=by intro w' h;exact (M8 a.kind xa xl xc a.xd ya yl yc a.yd za zl zc a.rd a.wn a.wd a.x a.y a.r w' xA.out Qu.out HZL.out).mono fun _ _ k=>⟨k.1,ai h k.2⟩
 have HK:Hid (∀w',Below V.heap.size V w'->Ints w' ca cl p.costs/\ay w' ra m p.rows/\Ints w' xa xl a.x/\Ints w' ya yl a.y/\Ints w' za zl a.r):=fun w' h =>
  ⟨Ints.below HC.out (iy.out w' h).2.2.2 (Nat.le_refl _),ay.below HR.out (iy.out w' h).2.2.2 (Nat.le_refl _),Ints.below HX.out (iy.out w' h).2.2.2 (Nat.le_refl _),Ints.below HY.out (iy.out w' h).2.2.2 (Nat.le_refl _),Ints.below HZ.out (iy.out w' h).2.2.2 (Nat.le_refl _)⟩
 have KN:Hid (∀w',Below V.heap.size V w'->Calls Tryz.prog 126 #[.agg #[.slice ca cl cc,.slice ra m rc],.agg #[.int .i64 a.kind,.slice xa xl xc,.int .i64 a.xd,.slice ya yl yc,.int .i64 a.yd,.slice za zl zc,.int .i64 a.rd,.int .i64 a.wn,.int .i64 a.wd]] w' fun e w''=>e=.returned (.bool (Num.dI p a))/\Below V.heap.size V w''):=by intro w' h;obtain ⟨k1,k2,k3,k4,k5⟩:=HK.out w' h;exact (Ga _ _ _ _ _ _ p w' k1 k2 hm a _ _ _ _ _ _ _ _ _ k4 hyl).mono fun _ _ k=>⟨k.1,ai h k.2⟩
 clear HK xA Qu HZL HX HY HZ HC HR ZZ hL0;have hcmp:=parts_eq (Num.bS a.x a.xd) (Num.bS a.y a.yd) (Num.bS a.r a.rd) (!Num.oP a.wn a.wd);generalize hb0:Num.bS a.x a.xd=b0 at *;generalize hb1':Num.bS a.y a.yd=b1 at *;generalize hb2':Num.bS a.r a.rd=b2 at *;generalize ag3:Num.oP a.wn a.wd=b3 at *;clear hb0 hb1' hb2' ag3;generalize Num.dI p a=rn at *;obtain ⟨kd,x,xd,y,yd,z,zd,wn,wd⟩:=a;dsimp only at *;by_cases k3:kd=3
 ·subst k3;have hf:=HH4.out hm rfl;have hc':=hcmp false true false false;clear HH4 hcmp;cases hp:(!b0 && b1 && !b2 && b3) with
  | false =>
   have hq:(((b0 == false) && (b1 == true) && (b2 == false) && ((!b3) == false)))=false:=by revert hp;cases b0<;>cases b1<;>cases b2<;>cases b3<;>simp
   rw [hq] at hc';rw [hp] at hf;have hf':res=false:=hf;clear hf hq;go_wp2_with fail;refine (KP.out _ hb1).mono ?_;rintro e w2 ⟨rfl,hb2⟩;have hB2:=(iy.out w2 hb2).2.2.2;go_wp2_with fail;go_ret
   (first|exact ⟨aK hf'.symm,hB2⟩|exact ⟨rfl,hB2⟩)
  | true =>
   have hq:(((b0 == false) && (b1 == true) && (b2 == false) && ((!b3) == false)))=true:=by revert hp;cases b0<;>cases b1<;>cases b2<;>cases b3<;>simp
   rw [hq] at hc';rw [hp] at hf;have HF':Hid (res=rn):=hf;clear hf hq;go_wp2_with fail;refine (KP.out _ hb1).mono ?_;rintro e w2 ⟨rfl,hb2⟩;clear c0 c1 n0 n1 n2 n3 n4 n5 n6 n7 n8 hz1 hB1;obtain ⟨⟨c0,c1⟩,⟨n0,n1,n2,n3,n4,n5,n6,n7,n8⟩,hz2,hB2⟩:=iy.out w2 hb2;go_wp2_with fail;refine (KN.out _ hb2).mono ?_;rintro e w3 ⟨rfl,hb3⟩;have hB3:=(iy.out w3 hb3).2.2.2;go_wp2_with fail;go_ret;exact ⟨aK HF'.out.symm,hB3⟩
 exact absurd H3.out k3
end Go.Proofs.YtipcbhodlgoflabGreatDoor
