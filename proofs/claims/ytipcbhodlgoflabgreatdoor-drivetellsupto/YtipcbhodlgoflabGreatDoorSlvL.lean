/- What solve.Corners does: the corners of a program, one by one. -/
import Derived.RangeFuncNested
import Derived.RangeFuncBound
import Derived.RangeFuncCalls
import Derived.RangeFuncLeaves
import Derived.Shelf.Abstract
import Derived.Shelf.RegionOpen
import Derived.WalkKit
import Derived.OwnWalkIn
import Derived.TacticsInMore
import Derived.LoopNIn
import Derived.LoopIn
import Derived.Test.YtipcbhodlgoflabGreatDoorSlvWC
import Derived.Test.YtipcbhodlgoflabGreatDoorNum
namespace Go.Proofs.YtipcbhodlgoflabGreatDoor
open Go.RowKit Go.Shelf
theorem j6 {n k:Nat} {P:Program} {f:FuncId} {args:Array Value} {w:World} {R:Ending->World->Prop} (h:Calls P f args w R) : Fence.wide.fn f/\(Fence.wide.depth.isSome=true->1<=n)/\CallsIn Fence.wide k P f args w R :=
 ⟨trivial,fun h=>(by cases h),callsIn_wide.2 h⟩
structure Handed (p:Num.Lp) (s:Nat) (W:World) (aa:Option Addr) (al:Nat) (xa:Option Addr) (xl:Nat) (ya:Option Addr) (yl:Nat) (ga:Option Addr) (gl:Nat) : Prop where
 at':Ints W aa al (Num.ax s 8)
 x:Ints W xa xl (Num.look p (Num.ax s 8)).x
 y:Ints W ya yl (Num.look p (Num.ax s 8)).y
 g:Ints W ga gl (Num.look p (Num.ax s 8)).g
 a8:al<=8
 x8:xl<=8
 y8:yl<=8
 g8:gl<=8
 ok:(Num.look p (Num.ax s 8)).err=0
set_option maxRecDepth 12000 in
set_option maxHeartbeats 3200000 in
theorem Gg (ca:Option Addr) (cl cc:Nat) (ra:Option Addr) (rl rc:Nat) (p:Num.Lp) (W:World) (hcl:cl=p.costs.length) (hrl:rl=p.rows.length) (hm:p.may=true) (b l n:Nat)
  (J:Nat->World->Prop) (Jx:World->Prop)
  (hJr:∀s A,J s A->A.cell? ⟨b,0,none⟩=some (.slice ca cl cc)/\A.cell? ⟨b,1,none⟩=some (.slice ra rl rc)/\Ints A ca cl p.costs/\ay A ra rl p.rows)
  (U7:∀s A B,J s A->Below A.heap.size A B->J s B)
  (hJs:∀s A,J (s+1) A->(Num.look p (Num.ax (s+1) 8)).err≠0->J s A)
  (hY:∀s A aa al ac xa xl xc ya yl yc ga gl gc,J (s+1) A->s+1 < 2 ^ (cl+rl)->Handed p (s+1) A aa al xa xl ya yl ga gl->
   YieldAt Fence.wide (n - 1) Tryz.prog l #[.slice aa al ac,.agg #[.slice xa xl xc,.int .i64 (Num.look p (Num.ax (s+1) 8)).xd,.slice ya yl yc,.int .i64 (Num.look p (Num.ax (s+1) 8)).yd,.slice ga gl gc,.int .i64 (Num.look p (Num.ax (s+1) 8)).gd]] A fun e B =>
    (e=.returned (.bool true)/\J s B)\/(e=.returned (.bool false)/\Jx B))
  (h0:J (2 ^ (cl+rl) - 1) W) :
  CallsIn Fence.wide n Tryz.prog 84 #[.func (.yield l) #[] #[],.pointer (some ⟨b,0,none⟩)] W fun e B=>(∃v,e=.returned v)/\(J 0 B\/Jx B):=by
 have hc4:cl<=4/\1<=cl:=by have:=(p.aj hm).1;omega
 have hr4:rl<=4/\1<=rl:=by have:=(p.aj hm).2.2.1;omega
 have Z6:Hid (∀s A,J s A->A.cell? ⟨b,0,none⟩=some (.slice ca cl cc)/\A.cell? ⟨b,1,none⟩=some (.slice ra rl rc)/\Ints A ca cl p.costs/\ay A ra rl p.rows):=hJr;have Z7:Hid (∀s A B,J s A->Below A.heap.size A B->J s B):=U7;have HJS:Hid (∀s A,J (s+1) A->(Num.look p (Num.ax (s+1) 8)).err≠0->J s A):=hJs;have HY:Hid _:=hY;clear hJr U7 hJs hY hcl hrl;obtain ⟨hb0,hb1,hcW,hrW⟩:=Z6.out _ W h0;have ah7:Hid (Calls Tryz.prog 19 #[.agg #[.slice ca cl cc,.slice ra rl rc]] W fun e w'=>e=.returned (.bool true)/\Below W.heap.size W w'):=by have:=fA ca cl cc ra rl rc p W hcW (by omega) hrW (by omega);rw [hm] at this;exact this
 clear hcW hrW;refine callsIn_of_wp Tryz.func84 rfl trivial ?_ rfl;simp only [Tryz.ntmps84,List.size_toArray,List.length_cons,List.length_nil,Nat.reduceAdd,Nat.reduceSub,Array.replicate_succ,Array.replicate_zero,List.push_toArray,List.append_toArray,List.nil_append,List.cons_append]
 gi_wp2_with fail
 refine j6 (ah7.out.mono ?_);rintro e w0 ⟨rfl,hw0⟩;replace h0:=Z7.out _ _ _ h0 hw0;obtain ⟨hc0,hc1,-,-⟩:=Z6.out _ w0 h0;clear hb0 hb1 hw0
 gi_wp2_with fail
 obtain ⟨N,hN⟩ : ∃N,cl+rl=N:=⟨_,rfl⟩;have RL:N<=8:=by omega
 refine j6 ((nG ca cl cc ra rl rc w0 N hN RL).mono ?_);rintro e w1 ⟨rfl,hw1⟩;have aH0:2 ^ N<=256:=Nat.le_trans (Nat.pow_le_pow_right (by omega) RL) (by decide);have hpos:0 < 2 ^ N:=Nat.pow_pos (by omega);have hp2:((2:Int) ^ N)=((2 ^ N:Nat) : Int):=by simp
 have hsh:wrap64 (wrap64 ((2:Int) ^ N) - 1)=((2 ^ N - 1:Nat) : Int):=by rw [hp2,IntWalk.wrap64_in ((2 ^ N:Nat) : Int) (by omega),IntWalk.wrap64_in (((2 ^ N:Nat) : Int) - 1) (by omega)];omega
 have HSH:Hid _:=hsh;have hJ0:J (2 ^ N - 1) w1:=Z7.out _ _ _ (by rw [<-hN];exact h0) hw1;have HY2:Hid (∀s A aa al ac xa xl xc ya yl yc ga gl gc,J (s+1) A->s+1 < 2 ^ N->Handed p (s+1) A aa al xa xl ya yl ga gl->
   YieldAt Fence.wide (n - 1) Tryz.prog l #[.slice aa al ac,.agg #[.slice xa xl xc,.int .i64 (Num.look p (Num.ax (s+1) 8)).xd,.slice ya yl yc,.int .i64 (Num.look p (Num.ax (s+1) 8)).yd,.slice ga gl gc,.int .i64 (Num.look p (Num.ax (s+1) 8)).gd]] A fun e B =>
    (e=.returned (.bool true)/\J s B)\/(e=.returned (.bool false)/\Jx B)):=by rw [<-hN];exact HY.out
 clear hsh hp2 hN h0 HY hw1 hc0 hc1;generalize hM:2 ^ N=M at *;clear hM
 gi_wp2_with fail
 rw [HSH.out];clear HSH
 gi_loopw [3] (fun i wr=>∃s:Nat,s < M/\i=.int .i64 s/\J s wr) (fun i _=>(intOf i).toNat)
 case atStart=>exact ⟨M - 1,by omega,rfl,hJ0⟩
 case round =>
  obtain ⟨s,hs,rfl,hJ⟩:=hrel;obtain ⟨b0,b1,-,-⟩:=Z6.out _ wr hJ;clear hJ0;cases s with
  | zero =>
   gi_wp2
   go_end0;exact ⟨⟨_,rfl⟩,.inl hJ⟩
  | succ s =>
   have hsI:(0:Int) < ((s+1:Nat) : Int):=by omega
   have KM:Hid (Calls Tryz.prog 86 #[.int .i64 ((s+1:Nat) : Int)] wr fun e w'=>∃a n c,e=.returned (.slice a n c)/\Ints w' a n (Num.ax (s+1) 8)/\(n=0\/∃g,a=some ⟨g,0,none⟩/\wr.heap.size<=g)/\n<=8/\Below wr.heap.size wr w'):=FX (s+1) (by omega) wr;generalize hsv:((s+1:Nat) : Int)=sv at *;have Z8:Hid (sv=(s:Int)+1):=by show sv=_;omega
   gi_wp2_with fail
   refine j6 (KM.out.mono ?_);rintro e w2 ⟨aa,al,ac,rfl,hia,hfa,ha8,hb2⟩;have TZ:Hid (Ints w2 aa al (Num.ax (s+1) 8)):=hia;have hJ2:=Z7.out _ _ _ hJ hb2;obtain ⟨c0,c1,hc2,hr2⟩:=Z6.out _ w2 hJ2;have KL:=yo ca cl cc ra rl rc p w2 hc2 (by omega) hr2 (by omega) aa al ac (Num.ax (s+1) 8) TZ.out (by omega);clear hc2 hr2 b0 b1;have YY:=HJS.out s;have HYS:=HY2.out s;have TT:=fun (A:World) (aa:Option Addr) (al:Nat) (xa:Option Addr) (xl:Nat) (ya:Option Addr) (yl:Nat) (ga:Option Addr) (gl:Nat) (h1:Ints A aa al (Num.ax (s+1) 8)) (h2:Ints A xa xl (Num.look p (Num.ax (s+1) 8)).x) (h3:Ints A ya yl (Num.look p (Num.ax (s+1) 8)).y) (h4:Ints A ga gl (Num.look p (Num.ax (s+1) 8)).g) (h5:al<=8) (h6:xl<=8) (h7:yl<=8) (h8:gl<=8) (h9:(Num.look p (Num.ax (s+1) 8)).err=0)=>(Handed.mk h1 h2 h3 h4 h5 h6 h7 h8 h9:Handed p (s+1) A aa al xa xl ya yl ga gl);generalize Num.look p (Num.ax (s+1) 8)=L at *;obtain ⟨er,lx,dx,ly,dy,lg,dg⟩:=L;dsimp only at *;have YC:Hid _:=KL;have ah9:Hid _:=YY;have ai0:Hid _:=HYS;have ai1:Hid _:=TT;clear KL YY HYS TT hia KM hJ hfa
   gi_wp2_with fail
   refine j6 (Calls.mono YC.out ?_);rintro e w3 ⟨xa,xl,xc,ya,yl,yc,ga,gl,gc,rfl,hix,G5,hig,TS,hy8,YE,hb3⟩;have hsx:=H5.new w3 (.slice xa xl xc) (.int .i64 dx) (.slice ya yl yc) (.int .i64 dy) (.slice ga gl gc) (.int .i64 dg) 75;have hbW:=hsx.dS;have kQ:Hid (Ints (w3.alloc (.cells #[.slice xa xl xc,.int .i64 dx,.slice ya yl yc,.int .i64 dy,.slice ga gl gc,.int .i64 dg] 75)) xa xl lx):=Ints.below hix hbW (Nat.le_refl _);have RP:Hid (Ints (w3.alloc (.cells #[.slice xa xl xc,.int .i64 dx,.slice ya yl yc,.int .i64 dy,.slice ga gl gc,.int .i64 dg] 75)) ya yl ly):=Ints.below G5 hbW (Nat.le_refl _);have yn:Hid (Ints (w3.alloc (.cells #[.slice xa xl xc,.int .i64 dx,.slice ya yl yc,.int .i64 dy,.slice ga gl gc,.int .i64 dg] 75)) ga gl lg):=Ints.below hig hbW (Nat.le_refl _);have T9:Hid (Ints (w3.alloc (.cells #[.slice xa xl xc,.int .i64 dx,.slice ya yl yc,.int .i64 dy,.slice ga gl gc,.int .i64 dg] 75)) aa al (Num.ax (s+1) 8)):=Ints.below (Ints.below TZ.out hb3 (Nat.le_refl _)) hbW (Nat.le_refl _);have hJ3:=Z7.out _ _ _ hJ2 (ai hb3 hbW);obtain ⟨_,_,s0,s1,s2,s3,s4,s5,_⟩:=hsx;clear hix G5 hig TZ hJ2 YC c0 c1;by_cases her:er=0
   ·have ai2:(er == 0)=true:=by rw [her];rfl
    obtain ⟨fn,tmps,assign,body,hy,hR⟩:=ai0.out _ aa al ac xa xl xc ya yl yc ga gl gc hJ3 hs (ai1.out _ _ _ _ _ _ _ _ _ T9.out kQ.out RP.out yn.out ha8 TS hy8 YE her)
    gi_wp2
    refine ⟨fun h=>(by cases h),hR.mono ?_⟩;rintro e W4 (⟨rfl,hJ4⟩|⟨rfl,hJx⟩)
    ·gi_wp2
     go_roundw
     case rel=>exact ⟨s,by omega,by rw [show sv - 1=(s:Int) by have:=Z8.out;omega],hJ4⟩
     case measure=>simp [intOf];have:=Z8.out;omega
    ·gi_wp2
     refine bodyPost_ret (results_none rfl _ _ _) rfl ?_;exact ⟨⟨_,rfl⟩,.inr hJx⟩
   ·have ai2:(er == 0)=false:=by simpa using her
    have hJ4:=ah9.out _ hJ3 her
    gi_wp2
    refine ⟨fun _ h=>(by cases h),?_⟩
    gi_wp2
    go_roundw
    case rel=>exact ⟨s,by omega,by rw [show sv - 1=(s:Int) by have:=Z8.out;omega],hJ4⟩
    case measure=>simp [intOf];have:=Z8.out;omega
theorem QA (ca:Option Addr) (cl cc:Nat) (ra:Option Addr) (rl rc:Nat) (p:Num.Lp) (W:World) (hc:Ints W ca cl p.costs) (hr:ay W ra rl p.rows) (hm:p.may=true) (b l n:Nat)
  (hb0:W.cell? ⟨b,0,none⟩=some (.slice ca cl cc)) (hb1:W.cell? ⟨b,1,none⟩=some (.slice ra rl rc)) (J:Nat->World->Prop) (Jx:World->Prop)
  (U7:∀s A B,J s A->Below A.heap.size A B->J s B)
  (hJs:∀s A,J (s+1) A->(Num.look p (Num.ax (s+1) 8)).err≠0->J s A)
  (hY:∀s A aa al ac xa xl xc ya yl yc ga gl gc,J (s+1) A->s+1 < 2 ^ (cl+rl)->Below W.heap.size W A->Handed p (s+1) A aa al xa xl ya yl ga gl->
   YieldAt Fence.wide (n - 1) Tryz.prog l #[.slice aa al ac,.agg #[.slice xa xl xc,.int .i64 (Num.look p (Num.ax (s+1) 8)).xd,.slice ya yl yc,.int .i64 (Num.look p (Num.ax (s+1) 8)).yd,.slice ga gl gc,.int .i64 (Num.look p (Num.ax (s+1) 8)).gd]] A fun e B =>
    (e=.returned (.bool true)/\J s B/\Below A.heap.size A B)\/(e=.returned (.bool false)/\Jx B))
  (h0:J (2 ^ (cl+rl) - 1) W) :
  CallsIn Fence.wide n Tryz.prog 84 #[.func (.yield l) #[] #[],.pointer (some ⟨b,0,none⟩)] W fun e B=>(∃v,e=.returned v)/\(J 0 B\/Jx B):=by
 refine CallsIn.mono (Gg ca cl cc ra rl rc p W hc.1 hr.1 hm b l n (fun s A=>J s A/\Below W.heap.size W A) Jx
  (fun s A h=>⟨carry h.2 hb0,carry h.2 hb1,Ints.below hc h.2 (Nat.le_refl _),ay.below hr h.2 (Nat.le_refl _)⟩)
  (fun s A B h hb=>⟨U7 s A B h.1 hb,ai h.2 hb⟩) (fun s A h he=>⟨hJs s A h.1 he,h.2⟩) ?_ ⟨h0,Below.refl _ _⟩) ?_
 ·intro s A aa al ac xa xl xc ya yl yc ga gl gc hj hs hH;obtain ⟨fn,tmps,assign,body,hy,hR⟩:=hY s A aa al ac xa xl xc ya yl yc ga gl gc hj.1 hs hj.2 hH;refine ⟨fn,tmps,assign,body,hy,hR.mono ?_⟩;rintro e B (⟨h1,h2,h3⟩|h)
  ·exact Or.inl ⟨h1,h2,ai hj.2 h3⟩
  ·exact Or.inr h
 ·rintro e B ⟨h1,h2|h2⟩
  ·exact ⟨h1,Or.inl h2.1⟩
  ·exact ⟨h1,Or.inr h2⟩
open Go.RowKit
def QB (T:Prop) (Z:World->Prop) (B:Nat) (W:World) : Exit->Act->World->Prop
 | .normal,_,W'=>T/\Below W.heap.size W W'
 | .ret,_,W'=>Z W'/\∀k,B<=k->k < W.heap.size->W'.heap[k]? = W.heap[k]?
 | _,_,_=>False
theorem Nf {P:Program} {n:Nat} {g:Operand} {ps:Array Tmp} {assign body:Code} {Q:Exit->Act->World->Prop} {a:Act} {w:World} {gf:Nat} {lb:Array Value}
  (hg:a.eval g=.func (.func gf) #[] lb) (eg:∀args w,(callFunc gf args).run P w=.ok (.enter gf args) w)
  (S0:Nat) (T:Nat->Prop) (QC:Nat->Prop) (Z:World->Prop) (Val:Nat->World->Array Value->Prop)
  (hsz:∀s W vs,Val s W vs->vs.size=ps.size) (hT:∀s,T (s+1)->QC s->T s) (h0:T S0) (hT0:¬ T 0)
  (hZ:∀W l o r,w.heap.size<=l->W.heap[l]? = some (.loop r)->Z W->Z (W.putObj l o))
  (zt:∀(l:Nat) (J:Nat->World->Prop) (Jx:World->Prop) (W:World),Below w.heap.size w W->(∀s A B,J s A->Below A.heap.size A B->J s B)->(∀s A,J (s+1) A->QC s->J s A)->
   (∀s A vs,J (s+1) A->Below W.heap.size W A->Val s A vs->YieldAt Fence.wide (n - 1 - 1) P l vs A fun e B=>(e=.returned (.bool true)/\J s B/\Below A.heap.size A B)\/(e=.returned (.bool false)/\Jx B))->
   J S0 W->CallsIn Fence.wide (n - 1) P gf (#[.func (.yield l) #[] #[]] ++ lb) W fun e B=>(∃v,e=.returned v)/\(J 0 B\/Jx B))
  (sQ:∀s A vs,T (s+1)->Val s A vs->Below w.heap.size w A->(∃r,A.heap[w.heap.size+1]? = some (.loop r))->assign.wpIn (Fence.wide.inRound (w.heap.size+1)) (n - 1 - 1) P
   (Exit.then (fun a₁ A1=>Below A.heap.size A A1/\∀o,body.wpIn (Fence.wide.inRound (w.heap.size+1)) (n - 1 - 1) P (QB (T s) Z w.heap.size (A1.putObj (w.heap.size+1) o)) a₁ (A1.putObj (w.heap.size+1) o)) (fun _ _ _=>False))
   { tmps:=(ps.zip vs).foldl (fun t (p,v)=>t.setIfInBounds p v) a.tmps,defers:=[] } A)
  (hstop:∀B,Z B->B.heap[w.heap.size]? = some (.deferred (some []))->Code.ret.wpIn Fence.wide n P Q { a with defers:={ target:=.collected w.heap.size,args := #[] } :: a.defers } B) :
  (Code.rangeFunc g ps assign body).wpIn Fence.wide n P Q a w:=by
 refine wpIn_rangeFunc ?_;intro fn hfn;rw [show Fence.wide.round=none from rfl];obtain ⟨rec,hrec⟩ : ∃rec:LoopState->Option Code->Loop,rec=fun st pe=>{ state:=st,pending:=pe,fn,tmps:=a.tmps,params:=ps,assign,body,defers:=w.heap.size }:=⟨_,rfl⟩;obtain ⟨W1,hW1⟩ : ∃W1,(w.alloc (.deferred (some []))).alloc (.loop (rec .ready none))=W1:=⟨_,rfl⟩;have hL1:W1.heap[w.heap.size+1]? = some (.loop (rec .ready none)):=by rw [<-hW1];have:=World.alloc_heap_new (w.alloc (.deferred (some []))) (.loop (rec .ready none));rwa [World.size_alloc] at this
 have hK1:W1.heap[w.heap.size]? = some (.deferred (some [])):=by rw [<-hW1];exact (Below.heap_alloc _ _ _ (by simp)).trans (World.alloc_heap_new w _)
 have hb1:Below w.heap.size w W1:=by rw [<-hW1];exact ((Below.refl _ w).alloc (Nat.le_refl _) _).alloc (by simp) _
 refine ⟨w.heap.size+1,[{ target:=.collected w.heap.size,args := #[] }],W1,{ target:=.fn (.func gf) lb,args := #[.func (.yield (w.heap.size+1)) #[] #[]] },W1,gf,
  #[.func (.yield (w.heap.size+1)) #[] #[]] ++ lb,W1,?_,?_,?_,?_,fun h=>(by cases h),?_⟩
 ·rw [<-hW1,hrec];exact run_enterLoop_outer _ _ _ _ _
 ·simp only [resolve,hg];simp [go_sem]
 ·intro f' hf';trivial
 ·simp [invoke,go_sem,eg]
 ·refine (zt (w.heap.size+1)
   (fun s A=>T s/\Below w.heap.size w A/\A.heap[w.heap.size+1]? = some (.loop (rec .ready none))/\A.heap[w.heap.size]? = some (.deferred (some [])))
   (fun B=>Z B/\B.heap[w.heap.size+1]? = some (.loop (rec .done (some .ret)))/\B.heap[w.heap.size]? = some (.deferred (some [])))
   W1 hb1 (fun s A B h hb=>⟨h.1,h.2.1.trans (hb.mono h.2.1.size),(hb.block _ (Array.getElem?_eq_some_iff.1 h.2.2.1).1).trans h.2.2.1,(hb.block _ (Array.getElem?_eq_some_iff.1 h.2.2.2).1).trans h.2.2.2⟩)
   (fun s A h hs=>⟨hT s h.1 hs,h.2⟩) ?_ ⟨h0,hb1,hL1,hK1⟩).mono ?_
  ·rintro s A vs ⟨hTs,QD,hl,hk⟩ _ hval;have hlt:w.heap.size+1 < A.heap.size:=(Array.getElem?_eq_some_iff.1 hl).1;have hy:=run_yield (P:=P) (args:=vs) hl (by rw [hrec];exact hsz s A vs hval);rw [hrec] at hy;refine ⟨fn,_,assign,body,hy,roundIn_of_wpIn hfn (wpIn_mono (sQ s A vs hTs hval QD ⟨_,hl⟩) ?_)⟩;intro e a₁ A1 hq;cases e with
   | normal =>
    obtain ⟨hb2,hbody⟩:=hq;have hl1:=(hb2.block _ hlt).trans hl;have hk1:=(hb2.block w.heap.size (by omega)).trans hk;have hlt1:w.heap.size+1 < A1.heap.size:=(Array.getElem?_eq_some_iff.1 hl1).1;refine ⟨_,run_beginRound hl1 (by rw [hrec]),?_⟩;refine wpIn_mono (hbody _) ?_;intro e a₂ A3 hp;generalize hA2:A1.putObj (w.heap.size+1) (.loop { rec .ready none with state:=.busy })=A2 at *;have hl2:A2.heap[w.heap.size+1]? = some (.loop { rec .ready none with state:=.busy }):=by rw [<-hA2];exact World.putObj_heap_same hlt1
    have hk2:A2.heap[w.heap.size]? = some (.deferred (some [])):=by rw [<-hA2];exact (World.putObj_heap_other (by omega)).trans hk1
    have ho2:∀k,k≠w.heap.size+1->A2.heap[k]? = A1.heap[k]? := fun k hk=>by rw [<-hA2];exact World.putObj_heap_other hk
    have hs2:A2.heap.size=A1.heap.size:=by rw [<-hA2];simp
    have hg2:A1.grownBy A2 (some (w.heap.size+1)):=by rw [<-hA2];exact grownBy_putObj' _ _ _
    cases e with
    | normal =>
     obtain ⟨hTn,hb3⟩:=hp;have hl3:=(hb3.block _ (by rw [hs2];omega)).trans hl2;have hk3:=(hb3.block w.heap.size (by rw [hs2];omega)).trans hk2;have hend:=run_endRound (P:=P) none hl3;refine ⟨_,_,hend,.inl ⟨rfl,⟨hTn,?_,?_,?_⟩,?_⟩⟩
     ·have h1:Below w.heap.size w A2:=(QD.trans (hb2.mono QD.size)).grown hg2 (by have:=QD.size;have:=hb2.size;omega) (fun k e=>by cases e;omega);have h2:Below w.heap.size w A3:=h1.trans (hb3.mono h1.size);exact h2.grown (grownBy_putObj' _ _ _) h2.size (fun k e=>by cases e;omega)
     ·rw [World.putObj_heap_same (Array.getElem?_eq_some_iff.1 hl3).1,hrec];rfl
     ·exact (World.putObj_heap_other (by omega)).trans hk3
     ·refine ⟨?_,?_,?_,?_,fun k hkA=>?_⟩
      ·show A3.os=A.os;rw [hb3.os,hg2.os,hb2.os]
      ·show A3.tape=A.tape;rw [hb3.tape,hg2.tape,hb2.tape]
      ·show A3.output=A.output;rw [hb3.output,hg2.output,hb2.output]
      ·have h1:=hb3.size;have h2:=hb2.size;simp;omega
      ·by_cases hke:k=w.heap.size+1
       ·subst hke;rw [World.putObj_heap_same (Array.getElem?_eq_some_iff.1 hl3).1,hl,hrec];rfl
       ·rw [World.putObj_heap_other hke,hb3.block k (by rw [hs2];have:=hb2.size;omega),ho2 k hke,hb2.block k hkA]
    | ret =>
     obtain ⟨hZ3,hkeep⟩:=hp;have hl3:=(hkeep (w.heap.size+1) (by omega) (by rw [hs2];omega)).trans hl2;have hk3:=(hkeep w.heap.size (Nat.le_refl _) (by rw [hs2];omega)).trans hk2;have hend:=run_endRound (P:=P) (some .ret) hl3;refine ⟨_,_,hend,.inr ⟨rfl,hZ _ _ _ _ (by omega) hl3 hZ3,?_,?_⟩⟩
     ·rw [World.putObj_heap_same (Array.getElem?_eq_some_iff.1 hl3).1,hrec];rfl
     ·exact (World.putObj_heap_other (by omega)).trans hk3
    | exit id=>exact hp.elim
    | goto t=>exact hp.elim
    | panic ch=>exact hp.elim
    | outgrown=>exact hp.elim
   | ret=>exact hq.elim
   | exit id=>exact hq.elim
   | goto t=>exact hq.elim
   | panic ch=>exact hq.elim
   | outgrown=>exact hq.elim
  ·rintro e W2 ⟨⟨v,rfl⟩,(⟨hTn,_⟩|⟨hz,hl,hk⟩)⟩
   ·exact absurd hTn hT0
   ·exact ⟨some .ret,_,by have:=run_endLoop (P:=P) hl (by rw [hrec];simp);rw [hrec] at this;exact this,hstop _ (hZ _ _ _ _ (by omega) hl hz) ((World.putObj_heap_other (by omega)).trans hk)⟩
open Go.RowKit
def Ua (K:World->Prop) (B:Nat) (W:World) : Exit->Act->World->Prop
 | .normal,_,W'=>K W'/\W'.heap[B]? = W.heap[B]?/\W'.heap[B+1]? = W.heap[B+1]?
 | _,_,_=>False
theorem Ng {P:Program} {n:Nat} {g:Operand} {ps:Array Tmp} {assign body:Code} {Q:Exit->Act->World->Prop} {a:Act} {w:World} {gf:Nat} {lb:Array Value}
  (hg:a.eval g=.func (.func gf) #[] lb) (eg:∀args w,(callFunc gf args).run P w=.ok (.enter gf args) w)
  (S0:Nat) (K:Nat->World->Prop) (QC:Nat->Prop) (Val:Nat->World->Array Value->Prop)
  (hsz:∀s W vs,Val s W vs->vs.size=ps.size)
  (hKb:∀s A B,K s A->Below A.heap.size A B->K s B) (hKs:∀s A,K (s+1) A->QC s->K s A)
  (Z9:∀s A l o r,w.heap.size<=l->A.heap[l]? = some (.loop r)->K s A->K s (A.putObj l o))
  (h0:K S0 w)
  (zt:∀(l:Nat) (J:Nat->World->Prop) (Jx:World->Prop) (W:World),(∀s A,J s A->K s A)->(∀s A B,J s A->Below A.heap.size A B->J s B)->(∀s A,J (s+1) A->QC s->J s A)->
   (∀s A vs,J (s+1) A->Val s A vs->YieldAt Fence.wide (n - 1 - 1) P l vs A fun e B=>(e=.returned (.bool true)/\J s B)\/(e=.returned (.bool false)/\Jx B))->
   J S0 W->CallsIn Fence.wide (n - 1) P gf (#[.func (.yield l) #[] #[]] ++ lb) W fun e B=>(∃v,e=.returned v)/\(J 0 B\/Jx B))
  (sQ:∀s A vs,K (s+1) A->Val s A vs->(∃r,A.heap[w.heap.size+1]? = some (.loop r))->w.heap.size+1 < A.heap.size->assign.wpIn (Fence.wide.inRound (w.heap.size+1)) (n - 1 - 1) P
   (Exit.then (fun a₁ A1=>Below A.heap.size A A1/\∀o,body.wpIn (Fence.wide.inRound (w.heap.size+1)) (n - 1 - 1) P (Ua (K s) w.heap.size (A1.putObj (w.heap.size+1) o)) a₁ (A1.putObj (w.heap.size+1) o)) (fun _ _ _=>False))
   { tmps:=(ps.zip vs).foldl (fun t (p,v)=>t.setIfInBounds p v) a.tmps,defers:=[] } A)
  (hdone:∀B,K 0 B->B.heap[w.heap.size]? = some (.deferred (some []))->Q .normal { a with defers:={ target:=.collected w.heap.size,args := #[] } :: a.defers } B) :
  (Code.rangeFunc g ps assign body).wpIn Fence.wide n P Q a w:=by
 refine wpIn_rangeFunc ?_;intro fn hfn;rw [show Fence.wide.round=none from rfl];obtain ⟨rec,hrec⟩ : ∃rec:LoopState->Option Code->Loop,rec=fun st pe=>{ state:=st,pending:=pe,fn,tmps:=a.tmps,params:=ps,assign,body,defers:=w.heap.size }:=⟨_,rfl⟩;obtain ⟨W1,hW1⟩ : ∃W1,(w.alloc (.deferred (some []))).alloc (.loop (rec .ready none))=W1:=⟨_,rfl⟩;have hL1:W1.heap[w.heap.size+1]? = some (.loop (rec .ready none)):=by rw [<-hW1];have:=World.alloc_heap_new (w.alloc (.deferred (some []))) (.loop (rec .ready none));rwa [World.size_alloc] at this
 have hK1:W1.heap[w.heap.size]? = some (.deferred (some [])):=by rw [<-hW1];exact (Below.heap_alloc _ _ _ (by simp)).trans (World.alloc_heap_new w _)
 have hb1:Below w.heap.size w W1:=by rw [<-hW1];exact ((Below.refl _ w).alloc (Nat.le_refl _) _).alloc (by simp) _
 refine ⟨w.heap.size+1,[{ target:=.collected w.heap.size,args := #[] }],W1,{ target:=.fn (.func gf) lb,args := #[.func (.yield (w.heap.size+1)) #[] #[]] },W1,gf,
  #[.func (.yield (w.heap.size+1)) #[] #[]] ++ lb,W1,?_,?_,?_,?_,fun h=>(by cases h),?_⟩
 ·rw [<-hW1,hrec];exact run_enterLoop_outer _ _ _ _ _
 ·simp only [resolve,hg];simp [go_sem]
 ·intro f' hf';trivial
 ·simp [invoke,go_sem,eg]
 ·refine (zt (w.heap.size+1)
   (fun s A=>K s A/\A.heap[w.heap.size+1]? = some (.loop (rec .ready none))/\A.heap[w.heap.size]? = some (.deferred (some [])))
   (fun _=>False)
   W1 (fun s A h=>h.1) (fun s A B h hb=>⟨hKb s A B h.1 hb,(hb.block _ (Array.getElem?_eq_some_iff.1 h.2.1).1).trans h.2.1,(hb.block _ (Array.getElem?_eq_some_iff.1 h.2.2).1).trans h.2.2⟩)
   (fun s A h hs=>⟨hKs s A h.1 hs,h.2⟩) ?_ ⟨hKb _ _ _ h0 hb1,hL1,hK1⟩).mono ?_
  ·rintro s A vs ⟨hKA,hl,hk⟩ hval;have hlt:w.heap.size+1 < A.heap.size:=(Array.getElem?_eq_some_iff.1 hl).1;have hy:=run_yield (P:=P) (args:=vs) hl (by rw [hrec];exact hsz s A vs hval);rw [hrec] at hy;refine ⟨fn,_,assign,body,hy,roundIn_of_wpIn hfn (wpIn_mono (sQ s A vs hKA hval ⟨_,hl⟩ hlt) ?_)⟩;intro e a₁ A1 hq;cases e with
   | normal =>
    obtain ⟨hb2,hbody⟩:=hq;have hl1:=(hb2.block _ hlt).trans hl;have hk1:=(hb2.block w.heap.size (by omega)).trans hk;have hlt1:w.heap.size+1 < A1.heap.size:=(Array.getElem?_eq_some_iff.1 hl1).1;refine ⟨_,run_beginRound hl1 (by rw [hrec]),?_⟩;refine wpIn_mono (hbody _) ?_;intro e a₂ A3 hp;generalize hA2:A1.putObj (w.heap.size+1) (.loop { rec .ready none with state:=.busy })=A2 at *;have hl2:A2.heap[w.heap.size+1]? = some (.loop { rec .ready none with state:=.busy }):=by rw [<-hA2];exact World.putObj_heap_same hlt1
    have hk2:A2.heap[w.heap.size]? = some (.deferred (some [])):=by rw [<-hA2];exact (World.putObj_heap_other (by omega)).trans hk1
    cases e with
    | normal =>
     obtain ⟨hKn,hk3,hl3⟩:=hp;rw [hk2] at hk3;rw [hl2] at hl3;have hend:=run_endRound (P:=P) none hl3;refine ⟨_,_,hend,.inl ⟨rfl,Z9 _ _ _ _ _ (by omega) hl3 hKn,?_,?_⟩⟩
     ·rw [World.putObj_heap_same (Array.getElem?_eq_some_iff.1 hl3).1,hrec];rfl
     ·exact (World.putObj_heap_other (by omega)).trans hk3
    | ret=>exact hp.elim
    | exit id=>exact hp.elim
    | goto t=>exact hp.elim
    | panic ch=>exact hp.elim
    | outgrown=>exact hp.elim
   | ret=>exact hq.elim
   | exit id=>exact hq.elim
   | goto t=>exact hq.elim
   | panic ch=>exact hq.elim
   | outgrown=>exact hq.elim
  ·rintro e W2 ⟨⟨v,rfl⟩,(⟨hKn,hl,hk⟩|hz)⟩
   ·exact ⟨none,_,by have:=run_endLoop (P:=P) hl (by rw [hrec];simp);rw [hrec] at this;exact this,hdone _ (Z9 _ _ _ _ _ (by omega) hl hKn) ((World.putObj_heap_other (by omega)).trans hk)⟩
   ·exact hz.elim
end Go.Proofs.YtipcbhodlgoflabGreatDoor
