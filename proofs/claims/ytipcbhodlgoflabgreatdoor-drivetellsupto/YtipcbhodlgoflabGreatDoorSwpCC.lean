/- What sweep.spanning does. -/
import Derived.Test.YtipcbhodlgoflabGreatDoorSpnAB
import Derived.Test.YtipcbhodlgoflabGreatDoorSwpM
namespace Go.Proofs.YtipcbhodlgoflabGreatDoor
open Go.RowKit
def QJ (x:Num.Pc) : List Value:=[.bool x.f.o,.int .i64 x.f.n,.int .i64 x.f.d,.bool x.t.o,.int .i64 x.t.n,.int .i64 x.t.d]
structure SP (w:World) (x y:Num.Pc) (wr:World) : Prop where
 a:Bx w.heap.size (QJ x) wr
 b:Bx (w.heap.size+1) (QJ y) wr
 r:Bx (w.heap.size+1+1) [.bool false,.int .i64 0,.int .i64 0,.bool false,.int .i64 0,.int .i64 0] wr
 dS:Below w.heap.size w wr
theorem SP.step {w wr wr':World} {x y:Num.Pc} (h:SP w x y wr) (hb:Below wr.heap.size wr wr') : SP w x y wr':=⟨h.a.step hb,h.b.step hb,h.r.step hb,ai h.dS hb⟩
theorem SP.vU {w wr:World} {x y:Num.Pc} (h:SP w x y wr) (f:Num.En) : SP w { x with f:=f } y (((wr.setCell ⟨w.heap.size,0,none⟩ (.bool f.o)).setCell ⟨w.heap.size,1,none⟩ (.int .i64 f.n)).setCell ⟨w.heap.size,2,none⟩ (.int .i64 f.d)) :=
 ⟨((h.a.set 0 _).set 1 _).set 2 _,h.b.dG (by omega) _ _ _,h.r.dG (by omega) _ _ _,iR h.dS (Nat.le_refl _) _ _ _⟩
theorem SP.rz {w wr:World} {x y:Num.Pc} (h:SP w x y wr) (t:Num.En) : SP w { x with t:=t } y (((wr.setCell ⟨w.heap.size,3,none⟩ (.bool t.o)).setCell ⟨w.heap.size,4,none⟩ (.int .i64 t.n)).setCell ⟨w.heap.size,5,none⟩ (.int .i64 t.d)) :=
 ⟨((h.a.set 3 _).set 4 _).set 5 _,((h.b.other (by omega) 3 _).other (by omega) 4 _).other (by omega) 5 _,((h.r.other (by omega) 3 _).other (by omega) 4 _).other (by omega) 5 _,aV (aV (aV h.dS (Nat.le_refl _) _) (Nat.le_refl _) _) (Nat.le_refl _) _⟩
theorem SP.new (w:World) (x y:Num.Pc) (t:TypeId) : SP w x y (((w.alloc (.cells (QJ x).toArray t)).alloc (.cells (QJ y).toArray t)).alloc (.cells #[.bool false,.int .i64 0,.int .i64 0,.bool false,.int .i64 0,.int .i64 0] t)) :=
 ⟨((Bx.new rfl _ _).step (af _ _)).step (af _ _),(Bx.new (by simp) _ _).step (af _ _),Bx.new (by simp) _ _,ai (ai (af _ _) (af _ _)) (af _ _)⟩
theorem SP.fin {w wr:World} {x y:Num.Pc} (h:SP w x y wr) : Bx (w.heap.size+1+1) [.bool x.f.o,.int .i64 x.f.n,.int .i64 x.f.d,.bool x.t.o,.int .i64 x.t.n,.int .i64 x.t.d] ((((((wr.setCell ⟨w.heap.size+1+1,0,none⟩ (.bool x.f.o)).setCell ⟨w.heap.size+1+1,1,none⟩ (.int .i64 x.f.n)).setCell ⟨w.heap.size+1+1,2,none⟩ (.int .i64 x.f.d)).setCell ⟨w.heap.size+1+1,3,none⟩ (.bool x.t.o)).setCell ⟨w.heap.size+1+1,4,none⟩ (.int .i64 x.t.n)).setCell ⟨w.heap.size+1+1,5,none⟩ (.int .i64 x.t.d)) :=
 (((((h.r.set 0 _).set 1 _).set 2 _).set 3 _).set 4 _).set 5 _
theorem kW {B:Nat} {a w:World} (h:Below B a w) {b:Nat} (hg:B<=b) (u0 u1 u2 u3 u4 u5:Value) :
  Below B a ((((((w.setCell ⟨b,0,none⟩ u0).setCell ⟨b,1,none⟩ u1).setCell ⟨b,2,none⟩ u2).setCell ⟨b,3,none⟩ u3).setCell ⟨b,4,none⟩ u4).setCell ⟨b,5,none⟩ u5) :=
 aV (aV (aV (aV (aV (aV h hg _) hg _) hg _) hg _) hg _) hg _
set_option maxHeartbeats 3200000 in
theorem DR (ao:Bool) (an ad:Int) (ap:Bool) (am ae:Int) (bo:Bool) (bn bd:Int) (bp:Bool) (bm be:Int) (r1 r2:Bool) (w:World)
  (k1:ao=false->bo=false->∀w',Calls Tryz.prog 109 #[.agg #[.int .i64 bn,.int .i64 bd],.agg #[.int .i64 an,.int .i64 ad]] w' fun e w''=>e=.returned (.bool r1)/\Below w'.heap.size w' w'')
  (k2:ap=false->bp=false->∀w',Calls Tryz.prog 109 #[.agg #[.int .i64 am,.int .i64 ae],.agg #[.int .i64 bm,.int .i64 be]] w' fun e w''=>e=.returned (.bool r2)/\Below w'.heap.size w' w'') :
  Calls Tryz.prog 106 #[.agg #[.bool ao,.int .i64 an,.int .i64 ad,.bool ap,.int .i64 am,.int .i64 ae],.agg #[.bool bo,.int .i64 bn,.int .i64 bd,.bool bp,.int .i64 bm,.int .i64 be]] w fun e w' =>
   e=.returned (.agg (if bo || (!ao && r1) then (if bp || (!ap && r2) then #[.bool bo,.int .i64 bn,.int .i64 bd,.bool bp,.int .i64 bm,.int .i64 be] else #[.bool bo,.int .i64 bn,.int .i64 bd,.bool ap,.int .i64 am,.int .i64 ae]) else (if bp || (!ap && r2) then #[.bool ao,.int .i64 an,.int .i64 ad,.bool bp,.int .i64 bm,.int .i64 be] else #[.bool ao,.int .i64 an,.int .i64 ad,.bool ap,.int .i64 am,.int .i64 ae])))/\Below w.heap.size w w':=by
 generalize hres:(if bo || (!ao && r1) then (if bp || (!ap && r2) then #[Value.bool bo,.int .i64 bn,.int .i64 bd,.bool bp,.int .i64 bm,.int .i64 be] else #[Value.bool bo,.int .i64 bn,.int .i64 bd,.bool ap,.int .i64 am,.int .i64 ae]) else (if bp || (!ap && r2) then #[Value.bool ao,.int .i64 an,.int .i64 ad,.bool bp,.int .i64 bm,.int .i64 be] else #[Value.bool ao,.int .i64 an,.int .i64 ad,.bool ap,.int .i64 am,.int .i64 ae]))=res;have kS:Hid _:=hres;have K1:Hid _:=k1;have K2:Hid _:=k2;clear hres k1 k2;have hS:=SP.new w ⟨⟨ao,an,ad⟩,⟨ap,am,ae⟩,0,0,0,0⟩ ⟨⟨bo,bn,bd⟩,⟨bp,bm,be⟩,0,0,0,0⟩ 166;simp only [QJ] at hS;generalize hV:((w.alloc (.cells #[.bool ao,.int .i64 an,.int .i64 ad,.bool ap,.int .i64 am,.int .i64 ae] 166)).alloc (.cells #[.bool bo,.int .i64 bn,.int .i64 bd,.bool bp,.int .i64 bm,.int .i64 be] 166)).alloc (.cells #[.bool false,.int .i64 0,.int .i64 0,.bool false,.int .i64 0,.int .i64 0] 166)=V at *;have hz:w.heap.size+1+1 < V.heap.size:=hS.r.lt;have zz:Hid _:=hS;obtain ⟨⟨a0,a1,a2,a3,a4,a5⟩,fa0,fa1,fa2,fa3,fa4,fa5⟩:=hS.a.fH;obtain ⟨⟨b0,b1,b2,b3,b4,b5⟩,-⟩:=hS.b.fH;obtain ⟨⟨r0,r1',r2',r3,r4,r5⟩,RS,RU,RV,RX,RY,RZ⟩:=hS.r.fH;clear hS;cases bo
 ·cases ao
  ·go_enter Tryz.func106,Tryz.ntmps106;go_wp2_with fail;refine (K1.out (by trivial) (by trivial) _).mono ?_;rintro e u1 ⟨rfl,hb1⟩;have hS1:=zz.out.step hb1;clear a0 a1 a2 a3 a4 a5 fa0 fa1 fa2 fa3 fa4 fa5 b0 b1 b2 b3 b4 b5 r0 r1' r2' r3 r4 r5 RS RU RV RX RY RZ;have rM:Hid _:=hS1;obtain ⟨⟨a0,a1,a2,a3,a4,a5⟩,fa0,fa1,fa2,fa3,fa4,fa5⟩:=hS1.a.fH;obtain ⟨⟨b0,b1,b2,b3,b4,b5⟩,-⟩:=hS1.b.fH;obtain ⟨⟨r0,r1',r2',r3,r4,r5⟩,RS,RU,RV,RX,RY,RZ⟩:=hS1.r.fH;clear hS1;cases r1
   ·skip
    cases bp
    ·cases ap
     ·go_wp2_with fail;refine (K2.out (by trivial) (by trivial) _).mono ?_;rintro e u2 ⟨rfl,hb2⟩;have hS2:=(rM.out).step hb2;clear a0 a1 a2 a3 a4 a5 fa0 fa1 fa2 fa3 fa4 fa5 b0 b1 b2 b3 b4 b5 r0 r1' r2' r3 r4 r5 RS RU RV RX RY RZ;have jC:Hid _:=hS2;obtain ⟨⟨a0,a1,a2,a3,a4,a5⟩,fa0,fa1,fa2,fa3,fa4,fa5⟩:=hS2.a.fH;obtain ⟨⟨b0,b1,b2,b3,b4,b5⟩,-⟩:=hS2.b.fH;obtain ⟨⟨r0,r1',r2',r3,r4,r5⟩,RS,RU,RV,RX,RY,RZ⟩:=hS2.r.fH;clear hS2;dsimp only at a0 a1 a2 a3 a4 a5;cases r2
      ·skip
       go_wp2_with fail;have hX:=SP.fin (jC.out);have kg:=kW (jC.out).dS (show w.heap.size<=w.heap.size+1+1 by omega) (.bool false) (.int .i64 an) (.int .i64 ad) (.bool false) (.int .i64 am) (.int .i64 ae);obtain ⟨⟨x0,x1,x2,x3,x4,x5⟩,-⟩:=hX.fH;exact bodyPost_ret (v:=.agg #[.bool false,.int .i64 an,.int .i64 ad,.bool false,.int .i64 am,.int .i64 ae]) (by simp [results,Tryz.results106,go_sem,x0,x1,x2,x3,x4,x5]) rfl ⟨by have:=kS.out;simp at this;rw [<-this],kg⟩
      ·skip
       go_wp2_with fail;have hX:=SP.fin (jC.out.rz ⟨false,bm,be⟩);have kg:=kW (jC.out.rz ⟨false,bm,be⟩).dS (show w.heap.size<=w.heap.size+1+1 by omega) (.bool false) (.int .i64 an) (.int .i64 ad) (.bool false) (.int .i64 bm) (.int .i64 be);obtain ⟨⟨x0,x1,x2,x3,x4,x5⟩,-⟩:=hX.fH;exact bodyPost_ret (v:=.agg #[.bool false,.int .i64 an,.int .i64 ad,.bool false,.int .i64 bm,.int .i64 be]) (by simp [results,Tryz.results106,go_sem,x0,x1,x2,x3,x4,x5]) rfl ⟨by have:=kS.out;simp at this;rw [<-this],kg⟩
     ·skip
      go_wp2_with fail;have hX:=SP.fin (rM.out);have kg:=kW (rM.out).dS (show w.heap.size<=w.heap.size+1+1 by omega) (.bool false) (.int .i64 an) (.int .i64 ad) (.bool true) (.int .i64 am) (.int .i64 ae);obtain ⟨⟨x0,x1,x2,x3,x4,x5⟩,-⟩:=hX.fH;exact bodyPost_ret (v:=.agg #[.bool false,.int .i64 an,.int .i64 ad,.bool true,.int .i64 am,.int .i64 ae]) (by simp [results,Tryz.results106,go_sem,x0,x1,x2,x3,x4,x5]) rfl ⟨by have:=kS.out;simp at this;rw [<-this],kg⟩
    ·skip
     go_wp2_with fail;have hX:=SP.fin (rM.out.rz ⟨true,bm,be⟩);have kg:=kW (rM.out.rz ⟨true,bm,be⟩).dS (show w.heap.size<=w.heap.size+1+1 by omega) (.bool false) (.int .i64 an) (.int .i64 ad) (.bool true) (.int .i64 bm) (.int .i64 be);obtain ⟨⟨x0,x1,x2,x3,x4,x5⟩,-⟩:=hX.fH;exact bodyPost_ret (v:=.agg #[.bool false,.int .i64 an,.int .i64 ad,.bool true,.int .i64 bm,.int .i64 be]) (by simp [results,Tryz.results106,go_sem,x0,x1,x2,x3,x4,x5]) rfl ⟨by have:=kS.out;simp at this;rw [<-this],kg⟩
   ·skip
    cases bp
    ·cases ap
     ·go_wp2_with fail;refine (K2.out (by trivial) (by trivial) _).mono ?_;rintro e u2 ⟨rfl,hb2⟩;have hS2:=(rM.out.vU ⟨false,bn,bd⟩).step hb2;clear a0 a1 a2 a3 a4 a5 fa0 fa1 fa2 fa3 fa4 fa5 b0 b1 b2 b3 b4 b5 r0 r1' r2' r3 r4 r5 RS RU RV RX RY RZ;have jC:Hid _:=hS2;obtain ⟨⟨a0,a1,a2,a3,a4,a5⟩,fa0,fa1,fa2,fa3,fa4,fa5⟩:=hS2.a.fH;obtain ⟨⟨b0,b1,b2,b3,b4,b5⟩,-⟩:=hS2.b.fH;obtain ⟨⟨r0,r1',r2',r3,r4,r5⟩,RS,RU,RV,RX,RY,RZ⟩:=hS2.r.fH;clear hS2;dsimp only at a0 a1 a2 a3 a4 a5;cases r2
      ·skip
       go_wp2_with fail;have hX:=SP.fin (jC.out);have kg:=kW (jC.out).dS (show w.heap.size<=w.heap.size+1+1 by omega) (.bool false) (.int .i64 bn) (.int .i64 bd) (.bool false) (.int .i64 am) (.int .i64 ae);obtain ⟨⟨x0,x1,x2,x3,x4,x5⟩,-⟩:=hX.fH;exact bodyPost_ret (v:=.agg #[.bool false,.int .i64 bn,.int .i64 bd,.bool false,.int .i64 am,.int .i64 ae]) (by simp [results,Tryz.results106,go_sem,x0,x1,x2,x3,x4,x5]) rfl ⟨by have:=kS.out;simp at this;rw [<-this],kg⟩
      ·skip
       go_wp2_with fail;have hX:=SP.fin (jC.out.rz ⟨false,bm,be⟩);have kg:=kW (jC.out.rz ⟨false,bm,be⟩).dS (show w.heap.size<=w.heap.size+1+1 by omega) (.bool false) (.int .i64 bn) (.int .i64 bd) (.bool false) (.int .i64 bm) (.int .i64 be);obtain ⟨⟨x0,x1,x2,x3,x4,x5⟩,-⟩:=hX.fH;exact bodyPost_ret (v:=.agg #[.bool false,.int .i64 bn,.int .i64 bd,.bool false,.int .i64 bm,.int .i64 be]) (by simp [results,Tryz.results106,go_sem,x0,x1,x2,x3,x4,x5]) rfl ⟨by have:=kS.out;simp at this;rw [<-this],kg⟩
     ·skip
      go_wp2_with fail;have hX:=SP.fin (rM.out.vU ⟨false,bn,bd⟩);have kg:=kW (rM.out.vU ⟨false,bn,bd⟩).dS (show w.heap.size<=w.heap.size+1+1 by omega) (.bool false) (.int .i64 bn) (.int .i64 bd) (.bool true) (.int .i64 am) (.int .i64 ae);obtain ⟨⟨x0,x1,x2,x3,x4,x5⟩,-⟩:=hX.fH;exact bodyPost_ret (v:=.agg #[.bool false,.int .i64 bn,.int .i64 bd,.bool true,.int .i64 am,.int .i64 ae]) (by simp [results,Tryz.results106,go_sem,x0,x1,x2,x3,x4,x5]) rfl ⟨by have:=kS.out;simp at this;rw [<-this],kg⟩
    ·skip
     go_wp2_with fail;have hX:=SP.fin ((rM.out.vU ⟨false,bn,bd⟩).rz ⟨true,bm,be⟩);have kg:=kW ((rM.out.vU ⟨false,bn,bd⟩).rz ⟨true,bm,be⟩).dS (show w.heap.size<=w.heap.size+1+1 by omega) (.bool false) (.int .i64 bn) (.int .i64 bd) (.bool true) (.int .i64 bm) (.int .i64 be);obtain ⟨⟨x0,x1,x2,x3,x4,x5⟩,-⟩:=hX.fH;exact bodyPost_ret (v:=.agg #[.bool false,.int .i64 bn,.int .i64 bd,.bool true,.int .i64 bm,.int .i64 be]) (by simp [results,Tryz.results106,go_sem,x0,x1,x2,x3,x4,x5]) rfl ⟨by have:=kS.out;simp at this;rw [<-this],kg⟩
  ·go_enter Tryz.func106,Tryz.ntmps106;cases bp
   ·cases ap
    ·go_wp2_with fail;refine (K2.out (by trivial) (by trivial) _).mono ?_;rintro e u2 ⟨rfl,hb2⟩;have hS2:=(zz.out).step hb2;clear a0 a1 a2 a3 a4 a5 fa0 fa1 fa2 fa3 fa4 fa5 b0 b1 b2 b3 b4 b5 r0 r1' r2' r3 r4 r5 RS RU RV RX RY RZ;have jC:Hid _:=hS2;obtain ⟨⟨a0,a1,a2,a3,a4,a5⟩,fa0,fa1,fa2,fa3,fa4,fa5⟩:=hS2.a.fH;obtain ⟨⟨b0,b1,b2,b3,b4,b5⟩,-⟩:=hS2.b.fH;obtain ⟨⟨r0,r1',r2',r3,r4,r5⟩,RS,RU,RV,RX,RY,RZ⟩:=hS2.r.fH;clear hS2;dsimp only at a0 a1 a2 a3 a4 a5;cases r2
     ·skip
      go_wp2_with fail;have hX:=SP.fin (jC.out);have kg:=kW (jC.out).dS (show w.heap.size<=w.heap.size+1+1 by omega) (.bool true) (.int .i64 an) (.int .i64 ad) (.bool false) (.int .i64 am) (.int .i64 ae);obtain ⟨⟨x0,x1,x2,x3,x4,x5⟩,-⟩:=hX.fH;exact bodyPost_ret (v:=.agg #[.bool true,.int .i64 an,.int .i64 ad,.bool false,.int .i64 am,.int .i64 ae]) (by simp [results,Tryz.results106,go_sem,x0,x1,x2,x3,x4,x5]) rfl ⟨by have:=kS.out;simp at this;rw [<-this],kg⟩
     ·skip
      go_wp2_with fail;have hX:=SP.fin (jC.out.rz ⟨false,bm,be⟩);have kg:=kW (jC.out.rz ⟨false,bm,be⟩).dS (show w.heap.size<=w.heap.size+1+1 by omega) (.bool true) (.int .i64 an) (.int .i64 ad) (.bool false) (.int .i64 bm) (.int .i64 be);obtain ⟨⟨x0,x1,x2,x3,x4,x5⟩,-⟩:=hX.fH;exact bodyPost_ret (v:=.agg #[.bool true,.int .i64 an,.int .i64 ad,.bool false,.int .i64 bm,.int .i64 be]) (by simp [results,Tryz.results106,go_sem,x0,x1,x2,x3,x4,x5]) rfl ⟨by have:=kS.out;simp at this;rw [<-this],kg⟩
    ·skip
     go_wp2_with fail;have hX:=SP.fin (zz.out);have kg:=kW (zz.out).dS (show w.heap.size<=w.heap.size+1+1 by omega) (.bool true) (.int .i64 an) (.int .i64 ad) (.bool true) (.int .i64 am) (.int .i64 ae);obtain ⟨⟨x0,x1,x2,x3,x4,x5⟩,-⟩:=hX.fH;exact bodyPost_ret (v:=.agg #[.bool true,.int .i64 an,.int .i64 ad,.bool true,.int .i64 am,.int .i64 ae]) (by simp [results,Tryz.results106,go_sem,x0,x1,x2,x3,x4,x5]) rfl ⟨by have:=kS.out;simp at this;rw [<-this],kg⟩
   ·skip
    go_wp2_with fail;have hX:=SP.fin (zz.out.rz ⟨true,bm,be⟩);have kg:=kW (zz.out.rz ⟨true,bm,be⟩).dS (show w.heap.size<=w.heap.size+1+1 by omega) (.bool true) (.int .i64 an) (.int .i64 ad) (.bool true) (.int .i64 bm) (.int .i64 be);obtain ⟨⟨x0,x1,x2,x3,x4,x5⟩,-⟩:=hX.fH;exact bodyPost_ret (v:=.agg #[.bool true,.int .i64 an,.int .i64 ad,.bool true,.int .i64 bm,.int .i64 be]) (by simp [results,Tryz.results106,go_sem,x0,x1,x2,x3,x4,x5]) rfl ⟨by have:=kS.out;simp at this;rw [<-this],kg⟩
 ·go_enter Tryz.func106,Tryz.ntmps106;cases bp
  ·cases ap
   ·go_wp2_with fail;refine (K2.out (by trivial) (by trivial) _).mono ?_;rintro e u2 ⟨rfl,hb2⟩;have hS2:=(zz.out.vU ⟨true,bn,bd⟩).step hb2;clear a0 a1 a2 a3 a4 a5 fa0 fa1 fa2 fa3 fa4 fa5 b0 b1 b2 b3 b4 b5 r0 r1' r2' r3 r4 r5 RS RU RV RX RY RZ;have jC:Hid _:=hS2;obtain ⟨⟨a0,a1,a2,a3,a4,a5⟩,fa0,fa1,fa2,fa3,fa4,fa5⟩:=hS2.a.fH;obtain ⟨⟨b0,b1,b2,b3,b4,b5⟩,-⟩:=hS2.b.fH;obtain ⟨⟨r0,r1',r2',r3,r4,r5⟩,RS,RU,RV,RX,RY,RZ⟩:=hS2.r.fH;clear hS2;dsimp only at a0 a1 a2 a3 a4 a5;cases r2
    ·skip
     go_wp2_with fail;have hX:=SP.fin (jC.out);have kg:=kW (jC.out).dS (show w.heap.size<=w.heap.size+1+1 by omega) (.bool true) (.int .i64 bn) (.int .i64 bd) (.bool false) (.int .i64 am) (.int .i64 ae);obtain ⟨⟨x0,x1,x2,x3,x4,x5⟩,-⟩:=hX.fH;exact bodyPost_ret (v:=.agg #[.bool true,.int .i64 bn,.int .i64 bd,.bool false,.int .i64 am,.int .i64 ae]) (by simp [results,Tryz.results106,go_sem,x0,x1,x2,x3,x4,x5]) rfl ⟨by have:=kS.out;simp at this;rw [<-this],kg⟩
    ·skip
     go_wp2_with fail;have hX:=SP.fin (jC.out.rz ⟨false,bm,be⟩);have kg:=kW (jC.out.rz ⟨false,bm,be⟩).dS (show w.heap.size<=w.heap.size+1+1 by omega) (.bool true) (.int .i64 bn) (.int .i64 bd) (.bool false) (.int .i64 bm) (.int .i64 be);obtain ⟨⟨x0,x1,x2,x3,x4,x5⟩,-⟩:=hX.fH;exact bodyPost_ret (v:=.agg #[.bool true,.int .i64 bn,.int .i64 bd,.bool false,.int .i64 bm,.int .i64 be]) (by simp [results,Tryz.results106,go_sem,x0,x1,x2,x3,x4,x5]) rfl ⟨by have:=kS.out;simp at this;rw [<-this],kg⟩
   ·skip
    go_wp2_with fail;have hX:=SP.fin (zz.out.vU ⟨true,bn,bd⟩);have kg:=kW (zz.out.vU ⟨true,bn,bd⟩).dS (show w.heap.size<=w.heap.size+1+1 by omega) (.bool true) (.int .i64 bn) (.int .i64 bd) (.bool true) (.int .i64 am) (.int .i64 ae);obtain ⟨⟨x0,x1,x2,x3,x4,x5⟩,-⟩:=hX.fH;exact bodyPost_ret (v:=.agg #[.bool true,.int .i64 bn,.int .i64 bd,.bool true,.int .i64 am,.int .i64 ae]) (by simp [results,Tryz.results106,go_sem,x0,x1,x2,x3,x4,x5]) rfl ⟨by have:=kS.out;simp at this;rw [<-this],kg⟩
  ·skip
   go_wp2_with fail;have hX:=SP.fin ((zz.out.vU ⟨true,bn,bd⟩).rz ⟨true,bm,be⟩);have kg:=kW ((zz.out.vU ⟨true,bn,bd⟩).rz ⟨true,bm,be⟩).dS (show w.heap.size<=w.heap.size+1+1 by omega) (.bool true) (.int .i64 bn) (.int .i64 bd) (.bool true) (.int .i64 bm) (.int .i64 be);obtain ⟨⟨x0,x1,x2,x3,x4,x5⟩,-⟩:=hX.fH;exact bodyPost_ret (v:=.agg #[.bool true,.int .i64 bn,.int .i64 bd,.bool true,.int .i64 bm,.int .i64 be]) (by simp [results,Tryz.results106,go_sem,x0,x1,x2,x3,x4,x5]) rfl ⟨by have:=kS.out;simp at this;rw [<-this],kg⟩
open Go.RowKit
theorem Num.Je (a b:Num.En) (ha:Num.gm a) (hb:Num.gm b) : Num.oF a b=if (b.o || (!a.o && decide (b.n*a.d < a.n*b.d)))=true then b else a:=by
 unfold Num.oF;cases hbo:b.o with
 | true =>rw [if_pos (Or.inr rfl),hb.open hbo];rfl
 | false =>
  cases hao:a.o with
  | true=>rw [if_pos (Or.inl rfl),ha.open hao];rfl
  | false =>
   rw [if_neg (by simp)];by_cases hc:a.n*b.d<=b.n*a.d
   ·rw [if_pos hc,if_neg (by simp;omega)]
   ·rw [if_neg hc,if_pos (by simp;omega)]
theorem Num.Gm (a b:Num.En) (ha:Num.gm a) (hb:Num.gm b) : Num.lC a b=if (b.o || (!a.o && decide (a.n*b.d < b.n*a.d)))=true then b else a:=by
 unfold Num.lC;cases hbo:b.o with
 | true =>rw [if_pos (Or.inr rfl),hb.open hbo];rfl
 | false =>
  cases hao:a.o with
  | true=>rw [if_pos (Or.inl rfl),ha.open hao];rfl
  | false =>
   rw [if_neg (by simp)];by_cases hc:b.n*a.d<=a.n*b.d
   ·rw [if_pos hc,if_neg (by simp;omega)]
   ·rw [if_neg hc,if_pos (by simp;omega)]
theorem oI (x y:Num.Pc) (xf:Num.gm x.f) (xt:Num.gm x.t) (yf:Num.gm y.f) (yt:Num.gm y.t) (w:World) :
  Calls Tryz.prog 106 #[gQ x,gQ y] w fun e w'=>e=.returned (gQ (Num.dF x y))/\Below w.heap.size w w':=by
 obtain ⟨⟨ao,an,ad⟩,⟨ap,am,ae⟩,_,_,_,_⟩:=x;obtain ⟨⟨bo,bn,bd⟩,⟨bp,bm,be⟩,_,_,_,_⟩:=y;have hl:=Num.Je _ _ xf yf;have hh:=Num.Gm _ _ xt yt;simp only at hl hh;refine (DR ao an ad ap am ae bo bn bd bp bm be (decide (bn*ad < an*bd)) (decide (am*be < bm*ae)) w
  (fun h1 h2 w'=>mW bn bd an ad (yf.may h2) (xf.may h1) _ rfl w') (fun h1 h2 w'=>mW am ae bm be (xt.may h1) (yt.may h2) _ rfl w')).mono ?_
 rintro e w' ⟨rfl,hb⟩;refine ⟨?_,hb⟩;unfold gQ Num.dF;simp only [hl,hh];split<;>split<;>rfl
end Go.Proofs.YtipcbhodlgoflabGreatDoor
