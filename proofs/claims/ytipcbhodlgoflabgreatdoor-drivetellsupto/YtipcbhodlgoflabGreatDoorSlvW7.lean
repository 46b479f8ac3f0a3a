/- What solve.Solve does. -/
import Derived.Test.YtipcbhodlgoflabGreatDoorSlvL
import Derived.Test.YtipcbhodlgoflabGreatDoorSlvAE
set_option maxHeartbeats 3200000
namespace Go.Proofs.YtipcbhodlgoflabGreatDoor
open Go.RowKit Go.Shelf
attribute [local go_sem] Oper.semAt_some
theorem iq {n k l:Nat} {P:Program} {f:FuncId} {args:Array Value} {w:World} {R:Ending->World->Prop} (h:Calls P f args w R) : (Fence.wide.inRound l).fn f/\((Fence.wide.inRound l).depth.isSome=true->1<=n)/\CallsIn (Fence.wide.inRound l) k P f args w R :=
 ⟨trivial,fun h=>(by cases h),CallsIn.inRound l (callsIn_wide.2 h)⟩
theorem fC {W:World} {a:Addr} {v:Value} {l:Nat} {r:Loop} (o:Obj) (hl:W.heap[l]? = some (.loop r)) (h:W.cell? a=some v) : (W.putObj l o).cell? a=some v :=
 cell_kept h (grownBy_putObj' W l o) (fun k e=>by cases e;exact ⟨_,hl,rfl⟩)
theorem Ints.putObj {W:World} {a:Option Addr} {n l:Nat} {x:List Int} {r:Loop} (o:Obj) (hl:W.heap[l]? = some (.loop r)) (h:Ints W a n x) : Ints (W.putObj l o) a n x:=by
 obtain ⟨h1,h2⟩:=h;refine ⟨h1,?_⟩;rcases h2 with h2|⟨b,off,ha,hs,hc⟩
 ·exact Or.inl h2
 ·exact Or.inr ⟨b,off,ha,by simpa using hs,fun j hj=>fC o hl (hc j hj)⟩
theorem oJ {B:Nat} {w W:World} {l:Nat} (o:Obj) (h:Below B w W) (hB:B<=W.heap.size) (hl:B<=l) : Below B w (W.putObj l o) :=
 h.grown (grownBy_putObj' W l o) hB (fun k e=>by cases e;exact hl)
theorem wU (ca:Option Addr) (cl cc:Nat) (ra:Option Addr) (rl rc:Nat) (w:World) :
  Calls Tryz.prog 46 #[.agg #[.slice ca cl cc,.slice ra rl rc]] w fun e w'=>e=.returned (.func (.func 84) #[] #[.pointer (some ⟨w.heap.size,0,none⟩)])/\w'=w.alloc (.cells #[.slice ca cl cc,.slice ra rl rc] 28):=by
 have hmf:∀(fn:Fn) (first cap:Array Value) (w:World),(Instr.makeFunc fn first cap).run Tryz.prog w=.ok (.func fn first cap) w:=fun _ _ _ _=>rfl;go_enter Tryz.func46,Tryz.ntmps46;go_wp2_with fail;go_ret;exact ⟨rfl,rfl⟩
theorem WQ {w w1:World} {a b v0 v1 v2 v3 v4 v5 v6 v7 v8 z:Value} {t s u:TypeId} (hb:Below (((w.alloc (.cells #[a,b] t)).alloc (.cells #[v0,v1,v2,v3,v4,v5,v6,v7,v8] s)).alloc (.cells #[z] u)).heap.size (((w.alloc (.cells #[a,b] t)).alloc (.cells #[v0,v1,v2,v3,v4,v5,v6,v7,v8] s)).alloc (.cells #[z] u)) w1) :
  (w1.cell? ⟨w.heap.size,0,none⟩=some a/\w1.cell? ⟨w.heap.size,1,none⟩=some b)/\iT (w.heap.size+1) v0 v1 v2 v3 v4 v5 v6 v7 v8 w1/\(w1.cell? ⟨w.heap.size+1+1,0,none⟩=some z/\w1.frozen? ⟨w.heap.size+1+1,0,none⟩=false)/\w.heap.size+1+1 < w1.heap.size/\Below w.heap.size w w1:=by
 have h2:=U6 (w:=w) (dN (w:=(w.alloc (.cells #[a,b] t)).alloc (.cells #[v0,v1,v2,v3,v4,v5,v6,v7,v8] s)) hb);have hz:(((w.alloc (.cells #[a,b] t)).alloc (.cells #[v0,v1,v2,v3,v4,v5,v6,v7,v8] s)).alloc (.cells #[z] u)).cell? ⟨w.heap.size+1+1,0,none⟩=some z:=cB (by simp) z u;exact ⟨h2.1,h2.2.1,⟨carry hb hz,iG hb hz (by go_simp)⟩,by have:=hb.size;simp at this;omega,h2.2.2.2⟩
theorem wV {w:World} {b:Nat} (u0 u1 u2 u3 u4 u5 u6 u7 u8:Value) {p:Addr} {v:Value} (hp:p.block≠b) (h:w.cell? p=some v) : (((((((((w.setCell ⟨b,0,none⟩ u0).setCell ⟨b,1,none⟩ u1).setCell ⟨b,2,none⟩ u2).setCell ⟨b,3,none⟩ u3).setCell ⟨b,4,none⟩ u4).setCell ⟨b,5,none⟩ u5).setCell ⟨b,6,none⟩ u6).setCell ⟨b,7,none⟩ u7).setCell ⟨b,8,none⟩ u8).cell? p=some v:=by have ot:∀(W:World) (j:Nat) (u:Value),(W.setCell ⟨b,j,none⟩ u).cell? p=W.cell? p:=fun W j u=>World.cell?_setCell_other _ _ _ _ (by intro e;exact hp (by rw [<-e]));rw [ot,ot,ot,ot,ot,ot,ot,ot,ot];exact h
theorem wW {w:World} {b k:Nat} (u0 u1 u2 u3 u4 u5 u6 u7 u8:Value) (hk:k≠b) : (((((((((w.setCell ⟨b,0,none⟩ u0).setCell ⟨b,1,none⟩ u1).setCell ⟨b,2,none⟩ u2).setCell ⟨b,3,none⟩ u3).setCell ⟨b,4,none⟩ u4).setCell ⟨b,5,none⟩ u5).setCell ⟨b,6,none⟩ u6).setCell ⟨b,7,none⟩ u7).setCell ⟨b,8,none⟩ u8).heap[k]? = w.heap[k]? := by have ot:∀(W:World) (j:Nat) (u:Value),(W.setCell ⟨b,j,none⟩ u).heap[k]? = W.heap[k]? := fun W j u=>Below.heap_setCell _ _ _ _ hk;rw [ot,ot,ot,ot,ot,ot,ot,ot,ot]
def Left (p:Num.Lp) (w:World) (B:World) : Prop :=
 ∃a xa xl xc ya yl yc za zl zc,iT (w.heap.size+1) (.int .i64 a.kind) (.slice xa xl xc) (.int .i64 a.xd) (.slice ya yl yc) (.int .i64 a.yd) (.slice za zl zc) (.int .i64 a.rd) (.int .i64 a.wn) (.int .i64 a.wd) B/\B.cell? ⟨w.heap.size+1+1,0,none⟩=some (.int .i64 0)/\nR (w.heap.size+1+1+1) B a xa xl ya yl za zl/\Num.holds p a=true/\Below w.heap.size w B
theorem nR.Y4 {B b:Nat} {w:World} {a:Num.pK} {xa:Option Addr} {xl:Nat} {ya:Option Addr} {yl:Nat} {za:Option Addr} {zl:Nat} (h:nR B w a xa xl ya yl za zl) (hb:b+1+1<=B) (u0 u1 u2 u3 u4 u5 u6 u7 u8 u:Value) :
  nR B ((((((((((w.setCell ⟨b,0,none⟩ u0).setCell ⟨b,1,none⟩ u1).setCell ⟨b,2,none⟩ u2).setCell ⟨b,3,none⟩ u3).setCell ⟨b,4,none⟩ u4).setCell ⟨b,5,none⟩ u5).setCell ⟨b,6,none⟩ u6).setCell ⟨b,7,none⟩ u7).setCell ⟨b,8,none⟩ u8).setCell ⟨b+1,0,none⟩ u) a xa xl ya yl za zl :=
 ⟨Ints.set (base:=b+1+1) (Ints.AA h.x (bG h.xf (by omega)) _ _ _ _ _ _ _ _ _) (bG h.xf (by omega)) (Nat.lt_succ_self _) u,
  Ints.set (base:=b+1+1) (Ints.AA h.y (bG h.yf (by omega)) _ _ _ _ _ _ _ _ _) (bG h.yf (by omega)) (Nat.lt_succ_self _) u,
  Ints.set (base:=b+1+1) (Ints.AA h.r (bG h.zf (by omega)) _ _ _ _ _ _ _ _ _) (bG h.zf (by omega)) (Nat.lt_succ_self _) u,h.x8,h.y8,h.z8,h.xf,h.yf,h.zf⟩
theorem nR.lower {B B':Nat} {w:World} {a:Num.pK} {xa:Option Addr} {xl:Nat} {ya:Option Addr} {yl:Nat} {za:Option Addr} {zl:Nat} (h:nR B w a xa xl ya yl za zl) (hb:B'<=B) : nR B' w a xa xl ya yl za zl :=
 ⟨h.x,h.y,h.r,h.x8,h.y8,h.z8,bG h.xf hb,bG h.yf hb,bG h.zf hb⟩
theorem iT.kept {b:Nat} {v0 v1 v2 v3 v4 v5 v6 v7 v8:Value} {w w':World} (h:iT b v0 v1 v2 v3 v4 v5 v6 v7 v8 w) (he:w'.heap[b]? = w.heap[b]?) : iT b v0 v1 v2 v3 v4 v5 v6 v7 v8 w' :=
 have hc:∀i,w'.cell? ⟨b,i,none⟩=w.cell? ⟨b,i,none⟩:=fun i=>World.cell?_of_block (a:=⟨b,i,none⟩) he
 ⟨(hc 0).trans h.c0,(hc 1).trans h.c1,(hc 2).trans h.c2,(hc 3).trans h.c3,(hc 4).trans h.c4,(hc 5).trans h.c5,(hc 6).trans h.c6,(hc 7).trans h.c7,(hc 8).trans h.c8,fun i=>(World.frozen?_of_block (a:=⟨b,i,none⟩) he).trans (h.fz i)⟩
theorem Left.intro {p:Num.Lp} {w B:World} {v0 v1 v2 v3 v4 v5 v6 v7 v8:Value} (hN:iT (w.heap.size+1) v0 v1 v2 v3 v4 v5 v6 v7 v8 B) (hz:∃u,B.cell? ⟨w.heap.size+1+1,0,none⟩=some u) (hB:Below w.heap.size w B) {a:Num.pK} {xa:Option Addr} {xl:Nat} {ya:Option Addr} {yl:Nat} {za:Option Addr} {zl:Nat} (xc yc zc:Nat) (hA:nR (w.heap.size+1+1+1) B a xa xl ya yl za zl) (hh:Num.holds p a=true) :
  Left p w ((((((((((B.setCell ⟨w.heap.size+1,0,none⟩ (.int .i64 a.kind)).setCell ⟨w.heap.size+1,1,none⟩ (.slice xa xl xc)).setCell ⟨w.heap.size+1,2,none⟩ (.int .i64 a.xd)).setCell ⟨w.heap.size+1,3,none⟩ (.slice ya yl yc)).setCell ⟨w.heap.size+1,4,none⟩ (.int .i64 a.yd)).setCell ⟨w.heap.size+1,5,none⟩ (.slice za zl zc)).setCell ⟨w.heap.size+1,6,none⟩ (.int .i64 a.rd)).setCell ⟨w.heap.size+1,7,none⟩ (.int .i64 a.wn)).setCell ⟨w.heap.size+1,8,none⟩ (.int .i64 a.wd)).setCell ⟨w.heap.size+1+1,0,none⟩ (.int .i64 0)):=by
 obtain ⟨u,hu⟩:=hz;refine ⟨a,xa,xl,xc,ya,yl,yc,za,zl,zc,(iT.set hN _ _ _ _ _ _ _ _ _ _ rfl).kept (Below.heap_setCell _ _ _ _ (by show w.heap.size+1≠w.heap.size+1+1;omega)),?_,hA.Y4 (by omega) _ _ _ _ _ _ _ _ _ _,hh,aV (BM hB (by omega) _ _ _ _ _ _ _ _ _) (by omega) _⟩;exact aN (wV _ _ _ _ _ _ _ _ _ (by show w.heap.size+1+1≠w.heap.size+1;omega) hu)
theorem Left.below {p:Num.Lp} {w B B':World} (h:Left p w B) (hb:Below B.heap.size B B') : Left p w B':=by obtain ⟨a,xa,xl,xc,ya,yl,yc,za,zl,zc,h1,h2,h3,h4,h5⟩:=h;exact ⟨a,xa,xl,xc,ya,yl,yc,za,zl,zc,h1.step hb,carry hb h2,⟨h3.x.below hb (Nat.le_refl _),h3.y.below hb (Nat.le_refl _),h3.r.below hb (Nat.le_refl _),h3.x8,h3.y8,h3.z8,h3.xf,h3.yf,h3.zf⟩,h4,ai h5 hb⟩
theorem Left.put {p:Num.Lp} {w B:World} (h:Left p w B) (l:Nat) (o o':Obj) (hl:B.heap[l]? = some o') (ho:o'.isCells=false) (hle:w.heap.size+1+1 < l) : Left p w (B.putObj l o):=by
 obtain ⟨a,xa,xl,xc,ya,yl,yc,za,zl,zc,h1,h2,h3,h4,h5⟩:=h;have hI:∀{q:Option Addr} {n:Nat} {x:List Int},Ints B q n x->Ints (B.putObj l o) q n x:=by
  rintro q n x ⟨k1,k2⟩;refine ⟨k1,?_⟩;rcases k2 with k2|⟨b,off,ha,hs,hc⟩
  ·exact Or.inl k2
  ·exact Or.inr ⟨b,off,ha,by simpa using hs,fun j hj=>cell_kept (hc j hj) (grownBy_putObj' B l o) (fun k e=>by cases e;exact ⟨_,hl,ho⟩)⟩
 refine ⟨a,xa,xl,xc,ya,yl,yc,za,zl,zc,h1.kept (World.putObj_heap_other (by omega)),?_,⟨hI h3.x,hI h3.y,hI h3.r,h3.x8,h3.y8,h3.z8,h3.xf,h3.yf,h3.zf⟩,h4,oJ o h5 h5.size (by omega)⟩;rw [World.cell?_of_block (a:=⟨w.heap.size+1+1,0,none⟩) (World.putObj_heap_other (by show w.heap.size+1+1≠l;omega))];exact h2
set_option maxRecDepth 12000 in
theorem BN (ca:Option Addr) (cl cc:Nat) (ra:Option Addr) (rl rc:Nat) (p:Num.Lp) (w:World) (hc:Ints w ca cl p.costs) (hcl:cl<=9223372036854775807) (hr:ay w ra rl p.rows) (hrl:rl<=9223372036854775807) :
  Calls Tryz.prog 20 #[.agg #[.slice ca cl cc,.slice ra rl rc]] w fun e w'=>Below w.heap.size w w'/\((p.may=false/\e=.returned (.tuple #[Nb,.int .i64 2]))\/
   (p.may=true/\∃a xa xl xc ya yl yc za zl zc,e=.returned (.tuple #[Gd a xa xl xc ya yl yc za zl zc,.int .i64 0])/\nR w.heap.size w' a xa xl ya yl za zl/\Num.holds p a=true)):=by
 have HC:Hid (Ints w ca cl p.costs):=hc;have HR:Hid (ay w ra rl p.rows):=hr;have kZ:Hid (cl=p.costs.length):=hc.1;have kz:Hid (rl=p.rows.length):=hr.1;clear hc hr;generalize hV:((w.alloc (.cells #[.slice ca cl cc,.slice ra rl rc] 28)).alloc (.cells #[.int .i64 0,.slice none 0 0,.int .i64 0,.slice none 0 0,.int .i64 0,.slice none 0 0,.int .i64 0,.int .i64 0,.int .i64 0] 68)).alloc (.cells #[.int .i64 0] 35)=V;have HV:Hid (∀w1,Below V.heap.size V w1->(w1.cell? ⟨w.heap.size,0,none⟩=some (.slice ca cl cc)/\w1.cell? ⟨w.heap.size,1,none⟩=some (.slice ra rl rc))/\iT (w.heap.size+1) (.int .i64 0) (.slice none 0 0) (.int .i64 0) (.slice none 0 0) (.int .i64 0) (.slice none 0 0) (.int .i64 0) (.int .i64 0) (.int .i64 0) w1/\(w1.cell? ⟨w.heap.size+1+1,0,none⟩=some (.int .i64 0)/\w1.frozen? ⟨w.heap.size+1+1,0,none⟩=false)/\w.heap.size+1+1 < w1.heap.size/\Below w.heap.size w w1):=by intro w1 hb;rw [<-hV] at hb;exact WQ hb
 obtain ⟨⟨i0,i1⟩,_,_,_,hB0⟩:=HV.out V (Below.refl _ _);obtain ⟨n,hn9⟩ : ∃n:Nat,n=9:=⟨_,rfl⟩;clear hn9;refine (callsIn_wide (n:=n)).1 ?_;refine callsIn_of_wp_marks Tryz.func20 rfl trivial ?_ rfl;simp only [Tryz.ntmps20,List.size_toArray,List.length_cons,List.length_nil,Nat.reduceAdd,Nat.reduceSub,Array.replicate_succ,Array.replicate_zero,List.push_toArray,List.append_toArray,List.nil_append,List.cons_append]
 gi_wp2_with fail
 refine j6 ((fA ca cl cc ra rl rc p V (Ints.below HC.out hB0 (Nat.le_refl _)) hcl (ay.below HR.out hB0 (Nat.le_refl _)) hrl).mono ?_);rintro e w1 ⟨rfl,hb1⟩;clear hV i0 i1 hB0;cases hm:p.may with
 | false =>
  obtain ⟨_,hN,⟨z0,z1⟩,hz,hB⟩:=HV.out w1 hb1;have HN:Hid _:=hN;obtain ⟨n0,n1,n2,n3,n4,n5,n6,n7,n8,nf⟩:=hN;have f0:=nf 0;have f1:=nf 1;have f2:=nf 2;have f3:=nf 3;have f4:=nf 4;have f5:=nf 5;have f6:=nf 6;have f7:=nf 7;have f8:=nf 8;clear nf
  gi_wp2_with fail
  generalize hX:((((((((w1.setCell ⟨w.heap.size+1,0,none⟩ (.int .i64 0)).setCell ⟨w.heap.size+1,1,none⟩ (.slice none 0 0)).setCell ⟨w.heap.size+1,2,none⟩ (.int .i64 0)).setCell ⟨w.heap.size+1,3,none⟩ (.slice none 0 0)).setCell ⟨w.heap.size+1,4,none⟩ (.int .i64 0)).setCell ⟨w.heap.size+1,5,none⟩ (.slice none 0 0)).setCell ⟨w.heap.size+1,6,none⟩ (.int .i64 0)).setCell ⟨w.heap.size+1,7,none⟩ (.int .i64 0)).setCell ⟨w.heap.size+1,8,none⟩ (.int .i64 0)=X;have hXb:=iT.set HN.out _ _ _ _ _ _ _ _ _ X hX.symm;obtain ⟨x0,x1,x2,x3,x4,x5,x6,x7,x8,_⟩:=hXb;have vN:Below w.heap.size w X:=by rw [<-hX];exact BM hB (by omega) _ _ _ _ _ _ _ _ _
  have zX:X.cell? ⟨w.heap.size+1+1,0,none⟩=some (.int .i64 0):=by rw [<-hX];exact wV _ _ _ _ _ _ _ _ _ (by dsimp only;omega) z0
  refine ⟨.tuple #[Nb,.int .i64 2],?_,?_⟩
  ·simp [results,Tryz.results20,go_sem,Nb,x0,x1,x2,x3,x4,x5,x6,x7,x8,zX]
  ·exact ⟨aV vN (by omega) _,Or.inl ⟨hm,rfl⟩⟩
 | true =>
  obtain ⟨⟨i0,i1⟩,_,_,hz1,hB1⟩:=HV.out w1 hb1
  gi_wp2_with fail
  refine j6 ((wU ca cl cc ra rl rc w1).mono ?_);rintro e w2 ⟨rfl,hw2⟩;have p0:w2.cell? ⟨w1.heap.size,0,none⟩=some (.slice ca cl cc):=by rw [hw2];exact (aU rfl _ _ _).1
  have p1:w2.cell? ⟨w1.heap.size,1,none⟩=some (.slice ra rl rc):=by rw [hw2];exact (aU rfl _ _ _).2
  have hb2:Below V.heap.size V w2:=by rw [hw2];exact ai hb1 (af _ _)
  generalize w1.heap.size=b1 at *;obtain ⟨_,_,_,hz2,hB2⟩:=HV.out w2 hb2;have hc4:cl<=4/\1<=cl:=by have:=kZ.out;have:=(p.aj hm).1;omega
  have hr4:rl<=4/\1<=rl:=by have:=kz.out;have:=(p.aj hm).2.2.1;omega
  clear hw2 i0 i1 hb1 hB1 hz1
  gi_wp2_with fail
  refine Nf (gf:=84) (lb := #[.pointer (some ⟨b1,0,none⟩)]) rfl (enters_of Tryz.func84 (by kernel_rfl) rfl) (2 ^ (cl+rl) - 1)
   (fun s=>∀q,s < q->q < 2 ^ (cl+rl)->Num.Tried p rl q) (fun s=>(Num.look p (Num.ax (s+1) 8)).err≠0) (Left p w)
   (fun s A vs=>∃aa al ac xa xl xc ya yl yc ga gl gc,vs=#[.slice aa al ac,.agg #[.slice xa xl xc,.int .i64 (Num.look p (Num.ax (s+1) 8)).xd,.slice ya yl yc,.int .i64 (Num.look p (Num.ax (s+1) 8)).yd,.slice ga gl gc,.int .i64 (Num.look p (Num.ax (s+1) 8)).gd]]/\Handed p (s+1) A aa al xa xl ya yl ga gl)
   ?hsz ?hT ?h0 ?hT0 ?hZ ?zt ?sQ ?hstop
  case hsz =>rintro s A vs ⟨aa,al,ac,xa,xl,xc,ya,yl,yc,ga,gl,gc,rfl,_⟩;rfl
  case hT =>
   intro s h hs q hq hqN;by_cases Eb:q=s+1
   ·subst Eb;exact fun h0=>absurd h0 hs
   ·exact h q (by omega) hqN
  case h0=>intro q hq hqN;omega
  case hT0=>exact fun h=>Num.M7 p rl cl hm kz.out kZ.out h
  case hZ=>exact fun W l o r hl hlo hz=>hz.put l o _ hlo rfl (by omega)
  case zt =>
   intro l J Jx W hbW U7 hJs hY hJ0;have vk:=ai hb2 hbW;have hBW:=ai hB2 hbW;exact QA ca cl cc ra rl rc p W (Ints.below HC.out hBW (Nat.le_refl _)) (ay.below HR.out hBW (Nat.le_refl _)) hm b1 l (n - 1) (carry hbW p0) (carry hbW p1) J Jx U7 hJs
    (fun s A aa al ac xa xl xc ya yl yc ga gl gc hj _ QD hH=>hY s A _ hj QD ⟨aa,al,ac,xa,xl,xc,ya,yl,yc,ga,gl,gc,rfl,hH⟩) hJ0
  case sQ =>
   rintro s A vs hTs ⟨aa,al,ac,xa,xl,xc,ya,yl,yc,ga,gl,gc,rfl,hH⟩ QD ⟨r,hloop⟩;obtain ⟨pJ,hden⟩:=Num.FY p (Num.ax (s+1) 8) rl cl kz.out kZ.out hH.ok;obtain ⟨_,FR,_⟩:=Num.bK p (Num.ax (s+1) 8) rl cl hm kz.out kZ.out pJ hden;have Ac:Hid _:=hH.ok;have hxl:xl=cl+rl:=by have:=hH.x.1;omega
   have Y5:Hid _:=hTs;have WJ:Hid _:=pJ;have CY:Hid _:=hden;have Y6:Hid _:=hH.at';have OM:Hid _:=hH.x;have HGD:Hid (Num.bO (Num.look p (Num.ax (s+1) 8)).x=false->Num.Good p (Num.ax (s+1) 8) rl cl):=fun h=>(Num.iY p _ rl cl hm kz.out kZ.out).1 ⟨Ac.out,h⟩;have hal:al=rl:=by have:=hH.at'.1;have:=(Num.bf _ _ _ pJ).1;omega
   clear hTs pJ hden hH FR;subst hxl hal;generalize hat:Num.ax (s+1) 8=at' at *;have HAT:Hid (Num.ax (s+1) 8=at'):=hat;clear hat
   gi_wp2_with fail
   refine ⟨af _ _,fun o=>?_⟩;have hsx:=H5.new A (.slice xa (cl+al) xc) (.int .i64 (Num.look p at').xd) (.slice ya yl yc) (.int .i64 (Num.look p at').yd) (.slice ga gl gc) (.int .i64 (Num.look p at').gd) 75;have jf:(A.alloc (.cells #[.slice xa (cl+al) xc,.int .i64 (Num.look p at').xd,.slice ya yl yc,.int .i64 (Num.look p at').yd,.slice ga gl gc,.int .i64 (Num.look p at').gd] 75)).heap[w2.heap.size+1]? = some (.loop r):=(Below.heap_alloc _ _ _ (Array.getElem?_eq_some_iff.1 hloop).1).trans hloop;have s0:=fC o jf hsx.c0;have s1:=fC o jf hsx.c1;have s2:=fC o jf hsx.c2;have s3:=fC o jf hsx.c3;have s4:=fC o jf hsx.c4;have s5:=fC o jf hsx.c5;have TZ:Hid (Ints ((A.alloc (.cells #[.slice xa (cl+al) xc,.int .i64 (Num.look p at').xd,.slice ya yl yc,.int .i64 (Num.look p at').yd,.slice ga gl gc,.int .i64 (Num.look p at').gd] 75)).putObj (w2.heap.size+1) o) aa al at'):=Ints.putObj o jf (Ints.below Y6.out hsx.dS (Nat.le_refl _));have kQ:Hid (Ints ((A.alloc (.cells #[.slice xa (cl+al) xc,.int .i64 (Num.look p at').xd,.slice ya yl yc,.int .i64 (Num.look p at').yd,.slice ga gl gc,.int .i64 (Num.look p at').gd] 75)).putObj (w2.heap.size+1) o) xa (cl+al) (Num.look p at').x):=Ints.putObj o jf (Ints.below OM.out hsx.dS (Nat.le_refl _));have Ak:Below V.heap.size V ((A.alloc (.cells #[.slice xa (cl+al) xc,.int .i64 (Num.look p at').xd,.slice ya yl yc,.int .i64 (Num.look p at').yd,.slice ga gl gc,.int .i64 (Num.look p at').gd] 75)).putObj (w2.heap.size+1) o):=oJ o (ai (ai hb2 QD) hsx.dS) (ai (ai hb2 QD) hsx.dS).size (by have:=hb2.size;omega);have hszA:w2.heap.size<=((A.alloc (.cells #[.slice xa (cl+al) xc,.int .i64 (Num.look p at').xd,.slice ya yl yc,.int .i64 (Num.look p at').yd,.slice ga gl gc,.int .i64 (Num.look p at').gd] 75)).putObj (w2.heap.size+1) o).heap.size:=by have:=QD.size;simp;omega
   generalize hA2:(A.alloc (.cells #[.slice xa (cl+al) xc,.int .i64 (Num.look p at').xd,.slice ya yl yc,.int .i64 (Num.look p at').yd,.slice ga gl gc,.int .i64 (Num.look p at').gd] 75)).putObj (w2.heap.size+1) o=A2 at *;generalize A.heap.size=bc at *;clear hA2 hsx jf hloop QD Y6 OM;obtain ⟨⟨i0,i1⟩,_,_,hz3,hBA⟩:=HV.out A2 Ak;have KW:=fun (h:Num.bO (Num.look p at').x=false)=>I7 ca cl cc ra al rc p A2 (Ints.below HC.out hBA (Nat.le_refl _)) (ay.below HR.out hBA (Nat.le_refl _)) hm aa al ac at' TZ.out (HGD.out h);have HKW:Hid _:=KW;have KR:=Gc ca cl cc ra al rc p A2 (Ints.below HC.out hBA (Nat.le_refl _)) (ay.below HR.out hBA (Nat.le_refl _)) hm aa al ac at' TZ.out WJ.out CY.out xa xc (Num.look p at').x kQ.out (.int .i64 (Num.look p at').xd) (.slice ya yl yc) (.int .i64 (Num.look p at').yd) (.slice ga gl gc) (.int .i64 (Num.look p at').gd);have Va:Hid _:=KR;clear KW KR
   gi_wp2_with fail
   refine iq ((lF xa (cl+al) xc (Num.look p at').x A2 kQ.out (by omega)).mono ?_);rintro e A9 ⟨rfl,Y7⟩;rw [Y7];clear Y7 A9;cases hneg:Num.bO (Num.look p at').x with
   | false =>
    gi_wp2_with fail
    refine iq (Calls.mono (HKW.out hneg) ?_);rintro e w3 ⟨a,ya1,yl1,yc1,ya2,yl2,yc2,ya3,yl3,yc3,rfl,hA,hho,hb3⟩;have Na:=ai Ak hb3;obtain ⟨_,wR,⟨z2,z3⟩,hz4,hB3⟩:=HV.out w3 Na;have Gb:Hid _:=wR;have HAA:Hid (nR (w.heap.size+1+1+1) w3 a ya1 yl1 ya2 yl2 ya3 yl3):=hA.lower (by omega);have hkeep:∀k,w2.heap.size<=k->k < A2.heap.size->w3.heap[k]? = A2.heap[k]? := fun k _ h=>hb3.block k h;have f0:=wR.fz 0;have f1:=wR.fz 1;have f2:=wR.fz 2;have f3:=wR.fz 3;have f4:=wR.fz 4;have f5:=wR.fz 5;have f6:=wR.fz 6;have f7:=wR.fz 7;have f8:=wR.fz 8;obtain ⟨n0,n1,n2,n3,n4,n5,n6,n7,n8,_⟩:=wR;have hL:=Left.intro (p:=p) Gb.out ⟨_,z2⟩ hB3 yc1 yc2 yc3 HAA.out hho;have HL:Hid _:=hL;have zB:Hid _:=hkeep;clear hL hkeep hA hb3 HKW Va
    gi_wp2_with fail
    refine ⟨HL.out,fun k h1 h2=>?_⟩;rw [Below.heap_setCell _ _ _ _ (by show k≠w.heap.size+1+1;omega),wW _ _ _ _ _ _ _ _ _ (by omega)];exact zB.out k h1 h2
   | true =>
    gi_wp2_with fail
    refine iq (Calls.mono Va.out ?_);rintro e w3 ⟨hb3,hcase⟩;have Na:=ai Ak hb3;rcases hcase with ⟨g,yc3,k,hk,rfl,hg,G5,hho⟩|⟨rfl,hno⟩
    ·obtain ⟨_,wR,⟨z2,z3⟩,hz4,hB3⟩:=HV.out w3 Na;have Gb:Hid _:=wR;have hAA:nR (w.heap.size+1+1+1) w3 (Num.qo p at' (Num.aZ at' k)) none 0 (some ⟨g,0,none⟩) al none 0:=⟨Ints.empty _,G5,Ints.empty _,by omega,by omega,by omega,Or.inl rfl,Or.inr ⟨g,rfl,by omega⟩,Or.inl rfl⟩;have hL:=Left.intro (p:=p) Gb.out ⟨_,z2⟩ hB3 0 yc3 0 hAA hho;have HL:Hid _:=hL;have hkeep:∀k,w2.heap.size<=k->k < A2.heap.size->w3.heap[k]? = A2.heap[k]? := fun k _ h=>hb3.block k h;have zB:Hid _:=hkeep;have f0:=wR.fz 0;have f1:=wR.fz 1;have f2:=wR.fz 2;have f3:=wR.fz 3;have f4:=wR.fz 4;have f5:=wR.fz 5;have f6:=wR.fz 6;have f7:=wR.fz 7;have f8:=wR.fz 8;obtain ⟨n0,n1,n2,n3,n4,n5,n6,n7,n8,_⟩:=wR;have hz5:w.heap.size+1 < w3.heap.size:=by omega
     have aI9:A2.heap.size<=w3.heap.size:=hb3.size;clear Va HKW G5 hL hkeep hAA hb3
     gi_wp2_with fail
     refine ⟨Left.below HL.out (af _ _),fun q h1 h2=>?_⟩;rw [Below.heap_alloc _ _ _ (by simp;omega),Below.heap_setCell _ _ _ _ (by show q≠w.heap.size+1+1;omega),wW _ _ _ _ _ _ _ _ _ (by omega)];exact zB.out q h1 h2
    ·have hbW:=af w3 (.cells #[.int .i64 0,.slice none 0 0,.int .i64 0,.slice none 0 0,.int .i64 0,.slice none 0 0,.int .i64 0,.int .i64 0,.int .i64 0] 68);have hb4:=ai hb3 hbW;clear Va HKW
     gi_wp2_with fail
     refine ⟨fun q hq hqN=>?_,hb4⟩;by_cases Eb:q=s+1
     ·subst Eb;unfold Num.Tried;rw [HAT.out];exact fun _=>⟨hneg,hno⟩
     ·exact Y5.out q (by omega) hqN
  case hstop =>
   intro B hz hK;obtain ⟨a,xa,xl,xc,ya,yl,yc,za,zl,zc,h1,h2,h3,h4,h5⟩:=hz.put w2.heap.size (.deferred none) _ hK rfl (by omega);obtain ⟨x0,x1,x2,x3,x4,x5,x6,x7,x8,_⟩:=h1;have HZ:Hid (nR w.heap.size (B.putObj w2.heap.size (.deferred none)) a xa xl ya yl za zl/\Num.holds p a=true/\Below w.heap.size w (B.putObj w2.heap.size (.deferred none))):=⟨h3.lower (by omega),h4,h5⟩;clear h3 h4 h5 hz
   gi_wp2_with fail
   refine ⟨by simp,.inl ⟨_,_,rfl,run_takeDeferred hK,?_⟩⟩;refine ⟨.tuple #[Gd a xa xl xc ya yl yc za zl zc,.int .i64 0],?_,?_⟩
   ·simp [results,Tryz.results20,go_sem,Gd,x0,x1,x2,x3,x4,x5,x6,x7,x8,h2]
   ·exact ⟨HZ.out.2.2,Or.inr ⟨hm,a,xa,xl,xc,ya,yl,yc,za,zl,zc,rfl,HZ.out.1,HZ.out.2.1⟩⟩
end Go.Proofs.YtipcbhodlgoflabGreatDoor
