/- Package text's reading: what a line puts into the program (take). -/
import Derived.Test.YtipcbhodlgoflabGreatDoorTxAB
import Derived.Test.YtipcbhodlgoflabGreatDoorRowA
import Derived.Deep.RegionLaw
import Derived.Deep.AppendLies
set_option maxHeartbeats 3200000
set_option maxRecDepth 8000
namespace Go.Proofs.YtipcbhodlgoflabGreatDoor
open Go.RowKit
def GL (B n:Nat) (a:Option Addr) : Prop:=n=0\/∃g,a=some ⟨g,0,none⟩/\B<=g
theorem GL.mono {B B' n:Nat} {a:Option Addr} (h:GL B n a) (hB:B'<=B) : GL B' n a:=by
 rcases h with h|⟨g,h,h'⟩
 ·exact Or.inl h
 ·exact Or.inr ⟨g,h,Nat.le_trans hB h'⟩
structure xO (B q:Nat) (w:World) (p:Num.Lp) (ca:Option Addr) (cl cc:Nat) (v:Value) (F:Nat->Value) : Prop where
 lo:q < B
 hi:B<=w.heap.size
 c0:w.cell? ⟨q,0,none⟩=some (.slice ca cl cc)
 c1:w.cell? ⟨q,1,none⟩=some v
 f0:w.frozen? ⟨q,0,none⟩=false
 f1:w.frozen? ⟨q,1,none⟩=false
 costs:Ints w ca cl p.costs
 few:cl<=2000001
 far:GL B cl ca
 rows:jE w B v p.rows.length F (fun j=>(p.rows[j]?.getD ([],0)).2)
 each:∀j,j < p.rows.length->∃xa xl xc,F j=.slice xa xl xc/\Ints w xa xl (p.rows[j]?.getD ([],0)).1/\xl<=2000001/\GL B xl xa
 bare:p.rows.length=0->v=.slice none 0 0
def PA (B q:Nat) (w:World) (p:Num.Lp) : Prop:=∃ca cl cc v F,xO B q w p ca cl cc v F
theorem xO.kept {B q:Nat} {w w':World} {p:Num.Lp} {ca:Option Addr} {cl cc:Nat} {v:Value} {F:Nat->Value} (h:xO B q w p ca cl cc v F) (hb:Below w.heap.size w w') : xO B q w' p ca cl cc v F where
 lo:=h.lo
 hi:=Nat.le_trans h.hi hb.size
 c0:=carry hb h.c0
 c1:=carry hb h.c1
 f0:=iG hb h.c0 h.f0
 f1:=iG hb h.c1 h.f1
 costs:=h.costs.below hb (Nat.le_refl _)
 few:=h.few
 far:=h.far
 rows:=h.rows.kept hb
 each:=fun j hj=>by
  obtain ⟨xa,xl,xc,e,hi,hx,hf⟩:=h.each j hj;exact ⟨xa,xl,xc,e,hi.below hb (Nat.le_refl _),hx,hf⟩
 bare:=h.bare
theorem PA.kept {B q:Nat} {w w':World} {p:Num.Lp} (h:PA B q w p) (hb:Below w.heap.size w w') : PA B q w' p:=by obtain ⟨ca,cl,cc,v,F,h⟩:=h;exact ⟨ca,cl,cc,v,F,h.kept hb⟩
theorem xO.Rh {B q:Nat} {w:World} {p:Num.Lp} {ca:Option Addr} {cl cc:Nat} {v:Value} {F:Nat->Value} (h:xO B q w p ca cl cc v F) {a:Option Addr} {n c:Nat} {l:List Int} (hi:Ints w a n l) (hn:n<=2000001) (hf:GL B n a) :
  xO B q (w.setCell ⟨q,0,none⟩ (.slice a n c)) ⟨l,p.rows⟩ a n c v F where
 lo:=h.lo
 hi:=by simpa using h.hi
 c0:=aN h.c0
 c1:=by rw [ag (by decide)];exact h.c1
 f0:=by simpa using h.f0
 f1:=by simpa using h.f1
 costs:=Ints.set hi hf h.lo _
 few:=hn
 far:=hf
 rows:=h.rows.lV h.lo _
 each:=fun j hj=>by
  obtain ⟨xa,xl,xc,e,hi,hx,hf⟩:=h.each j hj;exact ⟨xa,xl,xc,e,Ints.set hi hf h.lo _,hx,hf⟩
 bare:=h.bare
theorem Ints.Xb {W w2:World} {row:Option Nat} {a:Option Addr} {n:Nat} {l:List Int} (hi:Ints W a n l) (hg:W.grownBy w2 row) (hne:n=0\/∃g,a=some ⟨g,0,none⟩/\some g≠row) : Ints w2 a n l:=by
 refine ⟨hi.1,?_⟩;rcases hne with h0|⟨g,ha,hne⟩
 ·exact Or.inl h0
 ·rcases hi.2 with h0|⟨b,off,hab,hb,hc⟩
  ·exact Or.inl h0
  ·rw [ha] at hab;have e:=Option.some.inj hab;simp only [Addr.mk.injEq] at e;obtain ⟨rfl,rfl,_⟩:=e;refine Or.inr ⟨g,0,ha,Nat.lt_of_lt_of_le hb hg.size,fun j hj=>?_⟩;rw [hg.cell_far ⟨g,0+j,none⟩ hb hne];exact hc j hj
theorem xO.apart {B q:Nat} {w:World} {p:Num.Lp} {ca:Option Addr} {cl cc:Nat} {v:Value} {F:Nat->Value} (h:xO B q w p ca cl cc v F) {a:Option Addr} {n:Nat} {l:List Int} (hi:Ints w a n l) (hf:GL B n a) :
  n=0\/∃g,a=some ⟨g,0,none⟩/\some g≠v.ownBlock:=by
 rcases hf with h0|⟨g,ha,_⟩
 ·exact Or.inl h0
 by_cases hn:n=0
 ·exact Or.inl hn
 refine Or.inr ⟨g,ha,fun e=>?_⟩;by_cases hr:p.rows.length=0
 ·rw [h.bare hr] at e;cases e
 ·obtain ⟨vs,hown,hin⟩:=h.rows;obtain ⟨g',c',rfl,_,_⟩:=hown.form (by omega);have e:g=g':=by simpa [Value.ownBlock] using e
  subst e;have k0:=hown.cellAt 0 (by omega);have k1:=(hin 0 (by omega)).1;rw [Nat.zero_mul] at k1;rw [k1] at k0;obtain ⟨xa,xl,xc,e,_⟩:=h.each 0 (by omega);rw [e] at k0;rcases hi.2 with h0|⟨b,off,hab,hb,hc⟩
  ·exact hn h0
  ·rw [ha] at hab;have e:=Option.some.inj hab;simp only [Addr.mk.injEq] at e;obtain ⟨rfl,rfl,_⟩:=e;have:=hc 0 (by omega);rw [Nat.zero_add,k0] at this;cases this
theorem xO.push {B q:Nat} {w2:World} {p:Num.Lp} {ca:Option Addr} {cl cc:Nat} {v v':Value} {F:Nat->Value} {vs:List Value} {W:World}
  (h:xO B q W p ca cl cc v F) (hg:W.grownBy w2 v.ownBlock) (hown:W.ownsRow B 101 2 v p.rows.length vs) (hin:∀j,j < p.rows.length->vs[j*2]? = some (F j)/\vs[j*2+1]? = some (.int .i64 (p.rows[j]?.getD ([],0)).2))
  {a:Option Addr} {n c:Nat} {l:List Int} {m:Int} (hi:Ints W a n l) (hn:n<=2000001) (hf:GL B n a) (h':w2.ownsRow B 101 2 v' (p.rows.length+1) (vs ++ [.slice a n c,.int .i64 m])) :
  PA B q (w2.setCell ⟨q,1,none⟩ v') ⟨p.costs,p.rows ++ [(l,m)]⟩:=by
 have hne:some q≠v.ownBlock:=fun e=>by
  have:=(hown.lt _ e.symm).1;have:=h.lo;omega
 have Eb:q < W.heap.size:=Nat.lt_of_lt_of_le h.lo h.hi;have gi:∀{a:Option Addr} {n:Nat} {l:List Int},Ints W a n l->GL B n a->Ints w2 a n l:=fun hi hf=>hi.Xb hg (h.apart hi hf);have d0:w2.cell? ⟨q,0,none⟩=some (.slice ca cl cc):=by rw [hg.cell_far ⟨q,0,none⟩ Eb hne];exact h.c0
 have d1:w2.cell? ⟨q,1,none⟩=some v:=by rw [hg.cell_far ⟨q,1,none⟩ Eb hne];exact h.c1
 have hlen:(p.rows ++ [(l,m)]).length=p.rows.length+1:=by simp
 have old:∀j,j < p.rows.length->(p.rows ++ [(l,m)])[j]?.getD ([],0)=p.rows[j]?.getD ([],0):=fun j hj=>by rw [List.getElem?_append_left hj]
 have new:(p.rows ++ [(l,m)])[p.rows.length]?.getD ([],0)=(l,m):=by rw [List.getElem?_append_right (Nat.le_refl _),Nat.sub_self];rfl
 refine ⟨ca,cl,cc,v',fun j=>if j=p.rows.length then .slice a n c else F j,?_⟩;exact {
  lo:=h.lo
  hi:=by have:=hg.size;have:=h.hi;simp;omega
  c0:=by rw [ag (by decide)];exact d0
  c1:=aN d1
  f0:=by
   have:w2.frozen? ⟨q,0,none⟩=false:=by rw [hg.frozen_far ⟨q,0,none⟩ Eb hne];exact h.f0
   simpa using this
  f1:=by
   have:w2.frozen? ⟨q,1,none⟩=false:=by rw [hg.frozen_far ⟨q,1,none⟩ Eb hne];exact h.f1
   simpa using this
  costs:=Ints.set (gi h.costs h.far) h.far h.lo _
  few:=h.few
  far:=h.far
  rows:=by show jE _ _ _ (p.rows ++ [(l,m)]).length _ _;rw [hlen];refine jE.lV (jE.push hown (fun j hj=>?_) (by simp) (by show m=_;rw [new]) h') h.lo _;rw [if_neg (by omega),old j hj];exact hin j hj
  each:=fun j hj=>by
   show ∃xa xl xc,(if j=p.rows.length then .slice a n c else F j)=.slice xa xl xc/\Ints _ xa xl ((p.rows ++ [(l,m)])[j]?.getD ([],0)).1/\xl<=2000001/\GL B xl xa;have hj:j < (p.rows ++ [(l,m)]).length:=hj;rw [hlen] at hj;by_cases e:j=p.rows.length
   ·rw [if_pos e,e,new];exact ⟨a,n,c,rfl,Ints.set (gi hi hf) hf h.lo _,hn,hf⟩
   ·rw [if_neg e,old j (by omega)];obtain ⟨xa,xl,xc,e,hi,hx,hf⟩:=h.each j (by omega);exact ⟨xa,xl,xc,e,Ints.set (gi hi hf) hf h.lo _,hx,hf⟩
  bare:=fun e=>by
   have e:(p.rows ++ [(l,m)]).length=0:=e;omega }
theorem NF (B q:Nat) (l:List UInt8) (w:World) (p:Num.Lp) (hP:PA B q w p) (hl:l.length < 4294967281) (hL:Laid w) :
  Calls Tryz.prog 18 #[.pointer (some ⟨q,0,none⟩),.int .i64 0,.string (B8 l)] w fun e w'=>e=.returned (.bool (Num.iM l).isSome)/\PA B q w' ⟨((Num.iM l).getD []).take 5,p.rows⟩/\Below q w w':=by
 obtain ⟨ca,cl,cc,v,F,hA⟩:=hP;have HA:Hid (xO B q w p ca cl cc v F):=hA;have ng:Hid (l.length < 4294967281):=hl;have Eb:q < w.heap.size:=Nat.lt_of_lt_of_le hA.lo hA.hi;clear hl hA;go_enter Tryz.func18,Tryz.ntmps18;go_wp2_with fail;refine (Aj l ng.out w hL).mono ?_;clear hL;rintro e w1 ⟨a,n,c,rfl,hi,hn,hb,ku⟩;have HA1:Hid (xO B q w1 p ca cl cc v F):=HA.out.kept hb;have c0:=HA1.out.c0;have f0:=HA1.out.f0;have HI:Hid (Ints w1 a n (((Num.iM l).getD []).take 5)):=hi;generalize hok:(Num.iM l).isSome=ok;have Ac:Hid ((Num.iM l).isSome=ok):=hok;clear hi hok;go_wp2_with fail;go_ret;exact ⟨by rw [Ac.out];rfl,⟨a,n,c,v,F,HA1.out.Rh HI.out (by omega) (GL.mono ku HA.out.hi)⟩,(hb.mono (Nat.le_of_lt Eb)).setCell (Nat.le_refl _) _⟩
def zR (p:Num.Lp) (o:List Int) (m:Int) : Num.Lp:=if p.rows.length<=4 then ⟨p.costs,p.rows ++ [(o,m)]⟩ else p
def DX (l:List UInt8) (o:List Int) (m:Int) : Prop:=∀x,Num.rowP l=some x->x.1.take 5=o/\x.2=m
theorem Ri (B q k:Nat) (hk:1<=k) (hk2:k<=4294967296) (l:List UInt8) (w:World) (p:Num.Lp) (hP:PA B q w p) (hl:l.length < 4294967280) (h5:p.rows.length<=5) (hL:Laid w) :
  Calls Tryz.prog 18 #[.pointer (some ⟨q,0,none⟩),.int .i64 k,.string (B8 l)] w fun e w'=>e=.returned (.bool (Num.rowP l).isSome)/\(∃o m,DX l o m/\PA B q w' (zR p o m))/\Below q w w':=by
 obtain ⟨ca,cl,cc,v,F,hA⟩:=hP;have HA:Hid (xO B q w p ca cl cc v F):=hA;have ng:Hid (l.length < 4294967280):=hl;have Eb:q < w.heap.size:=Nat.lt_of_lt_of_le hA.lo hA.hi;have hk0:((k:Int) == 0)=false:=by rw [beq_eq_false_iff_ne];omega
 obtain ⟨i0,hif,hz0,hz1,hz2⟩:=info_parts Tryz.EM;clear hl hA;go_enter Tryz.func18,Tryz.ntmps18;go_wp2_with fail;refine (Ex l ng.out w hL).mono ?_;clear hL;rintro e w1 ⟨a,n,c,m,o,rfl,hi,hn,hq,hb,ku⟩;have HA1:Hid (xO B q w1 p ca cl cc v F):=HA.out.kept hb;generalize hok:(Num.rowP l).isSome=ok;have Ac:Hid ((Num.rowP l).isSome=ok):=hok;have HQ:Hid (DX l (List.take 5 o) m):=fun x hx=>by rw [hq x hx];exact ⟨rfl,rfl⟩
 have HI:Hid (Ints w1 a n (List.take 5 o)):=hi;have HF:Hid (GL B n a):=GL.mono ku HA.out.hi;have BK:Hid (Below w.heap.size w w1):=hb;have c1:=HA1.out.c1;have f1:=HA1.out.f1;have hq1:q < w1.heap.size:=Nat.lt_of_lt_of_le Eb hb.size;have K9:Hid (q < B):=HA.out.lo;have HQW:Hid (q<=w.heap.size):=Nat.le_of_lt Eb;have HHI:Hid (B<=w1.heap.size):=HA1.out.hi;obtain ⟨va,vc,hv⟩:=HA1.out.rows.shape;generalize hrl:p.rows.length=rl at *;have kz:Hid (p.rows.length=rl):=hrl;subst hv;clear hi hok hq hb ku HA Eb hrl;by_cases h4:(rl:Int)<=4
 ·obtain ⟨vs,hov,FU⟩:=HA1.out.rows;have hone:∀u∈[Value.slice a n c,Value.int .i64 m],u.oneCell'=true:=by intro u hu;simp only [List.mem_cons,List.not_mem_nil,or_false] at hu;rcases hu with rfl|rfl<;>rfl
  have ER:Hid _:=hone;have IP:Hid _:=FU;have HOW:Hid (w1.ownsRow B 101 2 (.slice va rl vc) rl vs):=by rw [kz.out] at hov;exact hov
  have Dh:Hid (((w1.alloc (.cells #[.slice a n c,.int .i64 m] 101)).alloc (.cells #[.slice a n c,.int .i64 m] 101)).ownsRow B 101 2 (.slice va rl vc) rl vs):=(HOW.out.alloc _).alloc _;have HST:Hid (∀W w2 g cap,Below w1.heap.size w1 W->W.grownBy w2 (Value.slice va rl vc).ownBlock->w2.ownsRow B 101 2 (.slice (some ⟨g,0,none⟩) (rl+1) cap) (rl+1) (vs ++ [.slice a n c,.int .i64 m])->
    w2.cell? ⟨q,1,none⟩=some (.slice va rl vc)/\w2.frozen? ⟨q,1,none⟩=false/\PA B q (w2.setCell ⟨q,1,none⟩ (.slice (some ⟨g,0,none⟩) (rl+1) cap)) (zR p (List.take 5 o) m)/\Below q w (w2.setCell ⟨q,1,none⟩ (.slice (some ⟨g,0,none⟩) (rl+1) cap))):=by
   intro W w2 g cap hW hg ho;have hne:some q≠(Value.slice va rl vc).ownBlock:=fun e=>by
    have:=(World.ownsRow.lt HOW.out _ e.symm).1;have:=K9.out;omega
   have hAW:=HA1.out.kept hW;have hqW:q < W.heap.size:=Nat.lt_of_lt_of_le hq1 hW.size;refine ⟨by rw [hg.cell_far ⟨q,1,none⟩ hqW hne];exact hAW.c1,by rw [hg.frozen_far ⟨q,1,none⟩ hqW hne];exact hAW.f1,?_,?_⟩
   ·rw [zR,if_pos (by have:=kz.out;omega)];exact hAW.push hg (by rw [kz.out];exact gN HOW.out hW) IP.out (HI.out.below hW (Nat.le_refl _)) (by omega) HF.out (by rw [kz.out];exact ho)
   ·refine Below.setCell (p:=⟨q,1,none⟩) ?_ (Nat.le_refl q) _;refine Below.grown ((BK.out.mono HQW.out).trans (hW.mono (Nat.le_of_lt hq1))) hg (Nat.le_of_lt hqW) (fun j hj=>?_);have:=(World.ownsRow.lt HOW.out j hj).1;have:=K9.out;omega
  clear hov FU hone;go_wp2_with fail;go_region_law (refine step_append_lies _ (by rfl) (.tmp 38) (.tmp 40) 26 (by rfl) B 101 i0 (.agg #[.slice none 0 0,.int .i64 0]) 2 32 Tryz.underlying26 hif hz0 hz1 hz2 (by rfl) (by decide) (.slice va rl vc) rl vs (by rfl) Dh.out ⟨w1.heap.size+1,0,none⟩ 1 1 [.slice a n c,.int .i64 m] (by rfl) (by rfl) (by intro j x hj;have:=zQ (w:=w1.alloc (.cells #[.slice a n c,.int .i64 m] 101)) (t:=101) j x hj;simpa using this) ER.out (by decide) (by unfold maxLen;omega) (by omega) (by have:=HHI.out;simp;omega) (w1.heap.size+1+1) (by simp) ?_;intro g cap w2 ho2 hg2 SN hlt2;obtain ⟨m1,m2,m3,m4⟩:=HST.out _ w2 g cap ((af w1 _).alloc (by simp) _).drew hg2 ho2;clear SN ho2 hg2)
  all_goals (clear c1 f1)
  all_goals go_wp2_with fail
  all_goals go_ret
  all_goals exact ⟨by rw [Ac.out];rfl,⟨List.take 5 o,m,HQ.out,m3⟩,m4⟩
 ·go_wp2_with fail;go_ret;refine ⟨by rw [Ac.out];rfl,⟨List.take 5 o,m,HQ.out,?_⟩,((BK.out.mono HQW.out).alloc (Nat.le_of_lt hq1) _)⟩;rw [zR,if_neg (by have:=kz.out;omega)];exact ⟨ca,cl,cc,_,F,HA1.out.kept (af _ _)⟩
open Go.RowKit
theorem xO.Rj {B q:Nat} {w:World} {p:Num.Lp} {ca:Option Addr} {cl cc:Nat} {v:Value} {F:Nat->Value} (h:xO B q w p ca cl cc v F) :
  ∃ra rc,v=.slice ra p.rows.length rc/\ay w ra p.rows.length p.rows:=by
 by_cases h0:p.rows.length=0
 ·exact ⟨none,0,by rw [h.bare h0,h0],rfl,Or.inl h0⟩
 ·obtain ⟨g,c,e,hr⟩:=jE.rows (rs:=p.rows) h.rows rfl (by omega) (fun j hj=>by
   obtain ⟨xa,xl,xc,e,hi,hx,_⟩:=h.each j hj;exact ⟨xa,xl,xc,e,hi,by omega⟩) (fun _ _=>rfl)
  exact ⟨_,c,e,hr⟩
theorem xO.lV {B q:Nat} {w:World} {p:Num.Lp} {ca:Option Addr} {cl cc:Nat} {v:Value} {F:Nat->Value} (h:xO B q w p ca cl cc v F) {b j:Nat} (hb:b < B) (hq:b≠q) (u:Value) :
  xO B q (w.setCell ⟨b,j,none⟩ u) p ca cl cc v F where
 lo:=h.lo
 hi:=by simpa using h.hi
 c0:=by rw [World.cell?_setCell_other _ _ _ _ (fun e=>hq (congrArg Addr.block e))];exact h.c0
 c1:=by rw [World.cell?_setCell_other _ _ _ _ (fun e=>hq (congrArg Addr.block e))];exact h.c1
 f0:=by simpa using h.f0
 f1:=by simpa using h.f1
 costs:=Ints.set h.costs h.far hb _
 few:=h.few
 far:=h.far
 rows:=h.rows.lV hb _
 each:=fun j hj=>by
  obtain ⟨xa,xl,xc,e,hi,hx,hf⟩:=h.each j hj;exact ⟨xa,xl,xc,e,Ints.set hi hf hb _,hx,hf⟩
 bare:=h.bare
theorem PA.new {q:Nat} {w:World} (hs:w.heap.size=q+1) (c0:w.cell? ⟨q,0,none⟩=some (.slice none 0 0)) (c1:w.cell? ⟨q,1,none⟩=some (.slice none 0 0)) (f0:w.frozen? ⟨q,0,none⟩=false) (f1:w.frozen? ⟨q,1,none⟩=false) :
  PA (q+1) q w ⟨[],[]⟩:=by
 refine ⟨none,0,0,.slice none 0 0,fun _=>undef,?_⟩;exact {
  lo:=by omega
  hi:=by omega
  c0:=c0
  c1:=c1
  f0:=f0
  f1:=f1
  costs:=⟨rfl,Or.inl rfl⟩
  few:=by omega
  far:=Or.inl rfl
  rows:=⟨[],World.ownsRow_nil _ _ _ _,fun j hj=>absurd hj (Nat.not_lt_zero j)⟩
  each:=fun j hj=>absurd hj (Nat.not_lt_zero j)
  bare:=fun _=>rfl }
def Af (B E:Nat) (w:World) (ca:Option Addr) (cl:Nat) (ra:Option Addr) (rl:Nat) (p:Num.Lp) : Prop :=
 ∀w':World,E<=w'.heap.size->(∀k,B<=k->k < E->w'.heap[k]? = w.heap[k]?)->Ints w' ca cl p.costs/\ay w' ra rl p.rows
theorem Af.bare (B E:Nat) (w:World) : Af B E w none 0 none 0 ⟨[],[]⟩:=fun _ _ _=>⟨⟨rfl,Or.inl rfl⟩,⟨rfl,Or.inl rfl⟩⟩
theorem Af.mono {B B' E:Nat} {w:World} {ca:Option Addr} {cl:Nat} {ra:Option Addr} {rl:Nat} {p:Num.Lp} (h:Af B E w ca cl ra rl p) (hB:B'<=B) : Af B' E w ca cl ra rl p :=
 fun w' h1 h2=>h w' h1 fun k hk=>h2 k (by omega)
theorem GL.ints {B n:Nat} {w w':World} {a:Option Addr} {l:List Int} (hi:Ints w a n l) (hf:GL B n a) (hE:w.heap.size<=w'.heap.size) (h:∀k,B<=k->k < w.heap.size->w'.heap[k]? = w.heap[k]?) : Ints w' a n l:=by
 refine ⟨hi.1,?_⟩;rcases hi.2 with h0|⟨b,off,e,hb,hc⟩
 ·exact Or.inl h0
 ·rcases hf with h0|⟨g,e',hg⟩
  ·exact Or.inl h0
  ·rw [e] at e';have e'':=Option.some.inj e';simp only [Addr.mk.injEq] at e'';refine Or.inr ⟨b,off,e,by omega,fun j hj=>?_⟩;rw [World.cell?_of_block (w:=w) (a:=⟨b,off+j,none⟩) (h b (by omega) hb)];exact hc j hj
theorem xO.within {B q:Nat} {w:World} {p:Num.Lp} {ca:Option Addr} {cl cc:Nat} {F:Nat->Value} {ra:Option Addr} {rl rc:Nat} (h:xO B q w p ca cl cc (.slice ra rl rc) F) : Af B w.heap.size w ca cl ra rl p:=by
 intro w' h1 h2;refine ⟨GL.ints h.costs h.far h1 h2,?_⟩;have hrl:rl=p.rows.length:=by
  by_cases h0:p.rows.length=0
  ·have:=h.bare h0;simp only [Value.slice.injEq] at this;omega
  ·obtain ⟨vs,ho,_⟩:=h.rows;obtain ⟨g,c,e,_⟩:=ho.form (by omega);simp only [Value.slice.injEq] at e;exact e.2.1
 subst hrl;by_cases h0:p.rows.length=0
 ·exact ⟨rfl,Or.inl h0⟩
 ·have hr:jE w' B (.slice ra p.rows.length rc) p.rows.length F (fun j=>(p.rows[j]?.getD ([],0)).2):=by
   obtain ⟨vs,ho,hin⟩:=h.rows;refine ⟨vs,⟨ho.1,?_⟩,hin⟩;rcases ho.2 with hn|⟨g,cap,cur,e,hb,hg,r⟩
   ·exact Or.inl hn
   ·exact Or.inr ⟨g,cap,cur,e,hb,by rw [h2 g hb (Array.getElem?_eq_some_iff.1 hg).1];exact hg,r⟩
  obtain ⟨g,c,e,hrr⟩:=jE.rows (rs:=p.rows) hr rfl (by omega) (fun j hj=>by
   obtain ⟨xa,xl,xc,e,hi,hx,hf⟩:=h.each j hj;exact ⟨xa,xl,xc,e,GL.ints hi hf h1 h2,by omega⟩) (fun _ _=>rfl)
  simp only [Value.slice.injEq] at e;rw [e.1];exact hrr
def jN (l:List UInt8) : Int:=match Num.mK l with
 | .ok _=>0
 | .error _=>2
def atR (l:List UInt8) : Int:=match Num.mK l with
 | .ok _=>0
 | .error k=>k
def jO (l:List UInt8) : Num.Lp:=match Num.mK l with
 | .ok p=>p
 | .error _=>⟨[],[]⟩
theorem Rk (p:Num.Lp) (x:List Int×Int) : Num.gY ⟨p.costs,p.rows ++ [x]⟩=zR (Num.gY p) (x.1.take 5) x.2:=by
 rw [Num.Oy,zR,Num.oO];by_cases h:p.rows.length<=4
 ·rw [if_pos h,if_pos (by omega)]
 ·rw [if_neg h,if_neg (by omega)]
theorem Lt (p:Num.Lp) : (Num.gY p).rows.length<=5:=by rw [Num.oO];omega
def Reads (l rest:List UInt8) (k:Nat) (p:Num.Lp) : Prop:=Num.mK l=Num.readGo k p (Num.splitW 10 rest)
theorem Reads.ends {l rest:List UInt8} {k:Nat} {p:Num.Lp} (h:Reads l rest k p) (hr:Num.readGo k p (Num.splitW 10 rest)=.error k) : jN l=2/\atR l=k/\jO l=⟨[],[]⟩:=by have e:Num.mK l=.error k:=Eq.trans h hr;unfold jN atR jO;rw [e];exact ⟨rfl,rfl,rfl⟩
theorem Reads.fine {l rest:List UInt8} {k:Nat} {p:Num.Lp} (h:Reads l rest k p) (hr:Num.readGo k p (Num.splitW 10 rest)=.ok p) : jN l=0/\atR l=0/\jO l=p:=by have e:Num.mK l=.ok p:=Eq.trans h hr;unfold jN atR jO;rw [e];exact ⟨rfl,rfl,rfl⟩
theorem Xc (w:World) (a b c d e f:Value) (t t' t'':TypeId) :
  (((((w.alloc (.cells #[a,b] t)).alloc (.cells #[c,d] t')).alloc (.cells #[e,f] t'')).cell? ⟨w.heap.size,0,none⟩=some a/\(((w.alloc (.cells #[a,b] t)).alloc (.cells #[c,d] t')).alloc (.cells #[e,f] t'')).cell? ⟨w.heap.size,1,none⟩=some b)/\
   ((((w.alloc (.cells #[a,b] t)).alloc (.cells #[c,d] t')).alloc (.cells #[e,f] t'')).cell? ⟨w.heap.size+1,0,none⟩=some c/\(((w.alloc (.cells #[a,b] t)).alloc (.cells #[c,d] t')).alloc (.cells #[e,f] t'')).cell? ⟨w.heap.size+1,1,none⟩=some d)/\
   ((((w.alloc (.cells #[a,b] t)).alloc (.cells #[c,d] t')).alloc (.cells #[e,f] t'')).cell? ⟨w.heap.size+1+1,0,none⟩=some e/\(((w.alloc (.cells #[a,b] t)).alloc (.cells #[c,d] t')).alloc (.cells #[e,f] t'')).cell? ⟨w.heap.size+1+1,1,none⟩=some f))/\
   ((∀j,(((w.alloc (.cells #[a,b] t)).alloc (.cells #[c,d] t')).alloc (.cells #[e,f] t'')).frozen? ⟨w.heap.size,j,none⟩=false)/\(∀j,(((w.alloc (.cells #[a,b] t)).alloc (.cells #[c,d] t')).alloc (.cells #[e,f] t'')).frozen? ⟨w.heap.size+1,j,none⟩=false)/\(∀j,(((w.alloc (.cells #[a,b] t)).alloc (.cells #[c,d] t')).alloc (.cells #[e,f] t'')).frozen? ⟨w.heap.size+1+1,j,none⟩=false)):=by
 refine ⟨⟨⟨?_,?_⟩,⟨?_,?_⟩,?_,?_⟩,fun j=>?_,fun j=>?_,fun j=>?_⟩<;>go_simp
theorem Cb (l:List UInt8) (hl:l.length < 4294967280) (w:World) (hL:Laid w) :
  Calls Tryz.prog 9 #[.string (B8 l)] w fun e w'=>∃ca cl cc ra rl rc,e=.returned (.tuple #[.agg #[.slice ca cl cc,.slice ra rl rc],.agg #[.int .i64 (jN l),.int .i64 (atR l)]])/\
   Af w.heap.size w'.heap.size w' ca cl ra rl (jO l)/\(Ints w' ca cl (jO l).costs/\cl<=2000001)/\(ay w' ra rl (jO l).rows/\rl<=5)/\Below w.heap.size w w':=by
 have HT:Hid (Laid w):=hL;have ng:Hid (l.length < 4294967280):=hl;clear hL hl;obtain ⟨⟨⟨k0,k1⟩,⟨k2,k3⟩,⟨k4,k5⟩⟩,j0,j2,j4⟩:=Xc w (.slice none 0 0) (.slice none 0 0) (.int .i64 0) (.int .i64 0) (.slice none 0 0) (.slice none 0 0) 28 37 28;have tQ:Below w.heap.size w (((w.alloc (.cells #[.slice none 0 0,.slice none 0 0] 28)).alloc (.cells #[.int .i64 0,.int .i64 0] 37)).alloc (.cells #[.slice none 0 0,.slice none 0 0] 28)):=((af w _).alloc (by simp) _).alloc (by simp;omega) _;have hsz:(((w.alloc (.cells #[.slice none 0 0,.slice none 0 0] 28)).alloc (.cells #[.int .i64 0,.int .i64 0] 37)).alloc (.cells #[.slice none 0 0,.slice none 0 0] 28)).heap.size=w.heap.size+1+1+1:=by simp
 generalize hV:((w.alloc (.cells #[.slice none 0 0,.slice none 0 0] 28)).alloc (.cells #[.int .i64 0,.int .i64 0] 37)).alloc (.cells #[.slice none 0 0,.slice none 0 0] 28)=V at *;have HPA:Hid (PA (w.heap.size+1+1+1) (w.heap.size+1+1) V ⟨[],[]⟩):=PA.new hsz k4 k5 (j4 0) (j4 1);have iy:Hid (∀w',Below (w.heap.size+1+1) V w'->(w'.cell? ⟨w.heap.size,0,none⟩=some (.slice none 0 0)/\w'.cell? ⟨w.heap.size,1,none⟩=some (.slice none 0 0)/\w'.cell? ⟨w.heap.size+1,0,none⟩=some (.int .i64 0)/\w'.cell? ⟨w.heap.size+1,1,none⟩=some (.int .i64 0))/\
   (w'.frozen? ⟨w.heap.size,0,none⟩=false/\w'.frozen? ⟨w.heap.size,1,none⟩=false/\w'.frozen? ⟨w.heap.size+1,0,none⟩=false/\w'.frozen? ⟨w.heap.size+1,1,none⟩=false)/\Below w.heap.size w w'):=by
  intro w' h;refine ⟨⟨?_,?_,?_,?_⟩,⟨?_,?_,?_,?_⟩,tQ.trans (h.mono (by omega))⟩
  ·rw [h.cell (by show w.heap.size < _;omega)];exact k0
  ·rw [h.cell (by show w.heap.size < _;omega)];exact k1
  ·rw [h.cell (by show w.heap.size+1 < _;omega)];exact k2
  ·rw [h.cell (by show w.heap.size+1 < _;omega)];exact k3
  ·rw [h.frozen (by show w.heap.size < _;omega)];exact j0 0
  ·rw [h.frozen (by show w.heap.size < _;omega)];exact j0 1
  ·rw [h.frozen (by show w.heap.size+1 < _;omega)];exact j2 0
  ·rw [h.frozen (by show w.heap.size+1 < _;omega)];exact j2 1
 clear k0 k1 k2 k3 k4 k5 j0 j2 j4;go_enter Tryz.func9,Tryz.ntmps9;go_wp2_with fail;clear hV;go_loopw [0,5] (fun s i wr=>∃rest k p,s=.string (B8 rest)/\i=.int .i64 ((k:Nat) : Int)/\k+rest.length<=l.length/\Reads l rest k p/\PA (w.heap.size+1+1+1) (w.heap.size+1+1) wr (Num.gY p)/\Below (w.heap.size+1+1) V wr) (fun s _ _=>XU s)
 case atStart=>exact ⟨l,0,⟨[],[]⟩,rfl,rfl,by omega,rfl,HPA.out,Below.refl _ _⟩
 case round =>
  obtain ⟨rest,k,p,rfl,rfl,hkr,hrd,hpa,hbl⟩:=hrel;have NN:Hid (Reads l rest k p):=hrd;have HP:Hid (PA (w.heap.size+1+1+1) (w.heap.size+1+1) wr (Num.gY p)):=hpa;have Mh:Hid (Below (w.heap.size+1+1) V wr):=hbl;have Va:Hid (k+rest.length<=l.length):=hkr;clear hrd hpa hbl hkr;by_cases hr0:rest=[]
  ·subst hr0;have hq:(B8 []).toList.isEmpty=true:=by rw [dX];rfl
   generalize hS:B8 []=S at hq;clear hS;obtain ⟨ca,cl,cc,v,F,hA⟩:=HP.out;obtain ⟨ra,rc,hv,hrows⟩:=hA.Rj;subst hv;have c0:=hA.c0;have c1:=hA.c1;have Xd:=Lt p;have HC:Hid (Ints wr ca cl (Num.gY p).costs):=hA.costs;have HR:Hid (ay wr ra (Num.gY p).rows.length (Num.gY p).rows):=hrows;have hcl:=hA.few;generalize hrl:(Num.gY p).rows.length=rl at *;have HA:Hid (xO (w.heap.size+1+1+1) (w.heap.size+1+1) wr (Num.gY p) ca cl cc (.slice ra rl rc) F):=hA;clear hA hrows hrl;go_wp2_with fail;refine (fA ca cl cc ra rl rc (Num.gY p) wr HC.out (by omega) HR.out (by omega)).mono ?_;rintro e w1 ⟨rfl,hb1⟩;have kP:Below (w.heap.size+1+1) V w1:=Mh.out.trans (hb1.mono (by have:=Mh.out.size;omega));obtain ⟨⟨r0,r1,r2,r3⟩,⟨f0,f1,f2,f3⟩,hBW⟩:=iy.out w1 kP;have d0:=carry hb1 c0;have d1:=carry hb1 c1;have HC1:Hid (Ints w1 ca cl (Num.gY p).costs):=HC.out.below hb1 (Nat.le_refl _);have HR1:Hid (ay w1 ra rl (Num.gY p).rows):=HR.out.below hb1 (Nat.le_refl _);have HA1:Hid (xO (w.heap.size+1+1+1) (w.heap.size+1+1) w1 (Num.gY p) ca cl cc (.slice ra rl rc) F):=HA.out.kept hb1;clear c0 c1 hb1 kP;cases hm:(Num.gY p).may with
   | true =>
    have hm':p.may=true:=by rw [<-Num.JW];exact hm
    have E:Hid (jN l=0/\atR l=0/\jO l=Num.gY p):=by show _/\_;rw [Num.xX p hm'];exact NN.out.fine (by rw [Num.Ox,if_pos hm'])
    clear hm hm';go_wp2_with fail;have hA4:=(((HA1.out.lV (b:=w.heap.size) (j:=0) (by omega) (by omega) (.slice ca cl cc)).lV (b:=w.heap.size) (j:=1) (by omega) (by omega) (.slice ra rl rc)).lV (b:=w.heap.size+1) (j:=0) (by omega) (by omega) (.int .i64 0)).lV (b:=w.heap.size+1) (j:=1) (by omega) (by omega) (.int .i64 0);obtain ⟨ra',rc',e',hrows⟩:=hA4.Rj;simp only [Value.slice.injEq] at e';obtain ⟨rfl,al3,rfl⟩:=e';rw [<-al3] at hrows;refine bodyPost_ret (v:=.tuple #[.agg #[.slice ca cl cc,.slice ra rl rc],.agg #[.int .i64 0,.int .i64 0]]) (by simp [results,Tryz.results9,go_sem,r0,r1,r2,r3]) rfl ⟨ca,cl,cc,ra,rl,rc,by rw [E.out.1,E.out.2.1],by rw [E.out.2.2];exact hA4.within.mono (by omega),⟨by rw [E.out.2.2];exact hA4.costs,hcl⟩,⟨by rw [E.out.2.2];exact hrows,Xd⟩,(((hBW.setCell (Nat.le_refl _) _).setCell (Nat.le_refl _) _).setCell (Nat.le_succ _) _).setCell (Nat.le_succ _) _⟩
   | false =>
    have hm':p.may=false:=by rw [<-Num.JW];exact hm
    have E:Hid (jN l=2/\atR l=k/\jO l=⟨[],[]⟩):=NN.out.ends (by rw [Num.Ox,if_neg (by rw [hm'];simp)]);clear hm hm';go_wp2_with fail;refine bodyPost_ret (v:=.tuple #[.agg #[.slice none 0 0,.slice none 0 0],.agg #[.int .i64 2,.int .i64 k]]) (by simp [results,Tryz.results9,go_sem,r0,r1,r2,r3]) rfl ⟨none,0,0,none,0,0,by rw [E.out.1,E.out.2.1],by rw [E.out.2.2];exact Af.bare _ _ _,⟨by rw [E.out.2.2];exact ⟨rfl,Or.inl rfl⟩,by omega⟩,⟨by rw [E.out.2.2];exact ⟨rfl,Or.inl rfl⟩,by omega⟩,(((hBW.setCell (Nat.le_refl _) _).setCell (Nat.le_refl _) _).setCell (Nat.le_succ _) _).setCell (Nat.le_succ _) _⟩
  ·have hq:(B8 rest).toList.isEmpty=false:=by rw [dX];cases rest with
    | nil=>exact absurd rfl hr0
    | cons c t=>rfl
   have HR0:Hid (rest≠[]):=hr0;clear hr0;have zS:Hid (∀w' ,Laid w'->Calls Tryz.prog 12 #[.string (B8 rest),.string (B8 [10])] w' fun e w''=>e=.returned (.tuple #[.string (B8 (Lib.cut rest [10]).1),.string (B8 (Lib.cut rest [10]).2.1),.bool (Lib.cut rest [10]).2.2])/\Below w'.heap.size w' w''):=fun w' h=>tO rest [10] (by have:=Va.out;have:=ng.out;omega) w' h;have uX:Hid ((B8 rest).size=rest.length):=aQ rest;generalize hS:B8 rest=S at hq zS uX;clear hS;have hBr:=(iy.out wr Mh.out).2.2;go_wp2_with fail;refine (zS.out wr (HT.out.later hBr)).mono ?_;rintro e w1 ⟨rfl,hb1⟩;have kP:Below (w.heap.size+1+1) V w1:=Mh.out.trans (hb1.mono (by have:=Mh.out.size;omega));have Rl:Hid (PA (w.heap.size+1+1+1) (w.heap.size+1+1) w1 (Num.gY p)):=HP.out.kept hb1;clear hb1 hBr zS;rcases Num.ib 10 rest with hno|⟨a,b,hab,hno⟩
   ·have E:Hid (jN l=2/\atR l=k/\jO l=⟨[],[]⟩):=NN.out.ends (Num.SG k p rest HR0.out hno);rw [Num.pR 10 rest hno];obtain ⟨⟨r0,r1,r2,r3⟩,⟨f0,f1,f2,f3⟩,hBW⟩:=iy.out w1 kP;clear hno;go_wp2_with fail;refine bodyPost_ret (v:=.tuple #[.agg #[.slice none 0 0,.slice none 0 0],.agg #[.int .i64 2,.int .i64 k]]) (by simp [results,Tryz.results9,go_sem,r0,r1,r2,r3]) rfl ⟨none,0,0,none,0,0,by rw [E.out.1,E.out.2.1],by rw [E.out.2.2];exact Af.bare _ _ _,⟨by rw [E.out.2.2];exact ⟨rfl,Or.inl rfl⟩,by omega⟩,⟨by rw [E.out.2.2];exact ⟨rfl,Or.inl rfl⟩,by omega⟩,(((hBW.setCell (Nat.le_refl _) _).setCell (Nat.le_refl _) _).setCell (Nat.le_succ _) _).setCell (Nat.le_succ _) _⟩
   ·subst hab;have HM:=Num.SH k p a b hno;have HMO:Hid (Num.readGo k p (Num.splitW 10 (a ++ 10 :: b))=if k=0 then match Num.iM a with
      | none=>.error k
      | some c=>Num.readGo (k+1) ⟨c,p.rows⟩ (Num.splitW 10 b)
     else match Num.rowP a with
      | none=>.error k
      | some q=>Num.readGo (k+1) ⟨p.costs,p.rows ++ [q]⟩ (Num.splitW 10 b)):=HM
    rw [Num.og 10 a b hno];have OU:Hid (k+(a.length+(b.length+1))<=l.length):=by have:=Va.out;rw [List.length_append,List.length_cons] at this;exact this
    have HB1:Hid (Below (w.heap.size+1+1) V w1):=kP;have hk1:wrap64 ((k:Int)+1)=(k:Int)+1:=IntWalk.wrap64_in _ (by have:=OU.out;have:=ng.out;omega);have Xo:Hid (S.size=a.length+(b.length+1)):=by have:=uX.out;rw [List.length_append,List.length_cons] at this;exact this
    have hw1:=(iy.out w1 kP).2.2;clear hno HM uX Va kP;by_cases hk0:k=0
    ·subst hk0;go_wp2_with fail;refine (NF _ _ a w1 (Num.gY p) Rl.out (by have:=OU.out;have:=ng.out;omega) (HT.out.later hw1)).mono ?_;rintro e w2 ⟨rfl,hp2,hb2⟩;have Ay:Hid (PA (w.heap.size+1+1+1) (w.heap.size+1+1) w2 ⟨((Num.iM a).getD []).take 5,(Num.gY p).rows⟩):=hp2;have jT:Below (w.heap.size+1+1) V w2:=HB1.out.trans hb2;clear hp2 hb2;cases hh:Num.iM a with
     | none =>have E:Hid (jN l=2/\atR l=(0:Nat)/\jO l=⟨[],[]⟩):=NN.out.ends (by rw [HMO.out,if_pos (by trivial),hh]);obtain ⟨⟨r0,r1,r2,r3⟩,⟨f0,f1,f2,f3⟩,hBW⟩:=iy.out w2 jT;clear hh;simp only [Option.isSome_none];go_wp2_with fail;refine bodyPost_ret (v:=.tuple #[.agg #[.slice none 0 0,.slice none 0 0],.agg #[.int .i64 2,.int .i64 0]]) (by simp [results,Tryz.results9,go_sem,r0,r1,r2,r3]) rfl ⟨none,0,0,none,0,0,by rw [E.out.1,E.out.2.1];rfl,by rw [E.out.2.2];exact Af.bare _ _ _,⟨by rw [E.out.2.2];exact ⟨rfl,Or.inl rfl⟩,by omega⟩,⟨by rw [E.out.2.2];exact ⟨rfl,Or.inl rfl⟩,by omega⟩,(((hBW.setCell (Nat.le_refl _) _).setCell (Nat.le_refl _) _).setCell (Nat.le_succ _) _).setCell (Nat.le_succ _) _⟩
     | some c =>
      have R:Hid (Reads l b (0+1) ⟨c,p.rows⟩):=Eq.trans NN.out (by rw [HMO.out,if_pos (by trivial),hh]);have DY:Hid (PA (w.heap.size+1+1+1) (w.heap.size+1+1) w2 (Num.gY ⟨c,p.rows⟩)):=by have:=Ay.out;rw [hh] at this;exact this
      clear hh;simp only [Option.isSome_some];go_wp2_with fail;go_roundw
      case rel=>exact ⟨b,0+1,⟨c,p.rows⟩,rfl,rfl,by have:=OU.out;omega,R.out,DY.out,jT⟩
      case measure=>show (B8 b).size < S.size;rw [aQ,Xo.out];omega
    ·go_wp2_with fail;refine (Ri _ _ k (by omega) (by have:=OU.out;have:=ng.out;omega) a w1 (Num.gY p) Rl.out (by have:=OU.out;have:=ng.out;omega) (Lt p) (HT.out.later hw1)).mono ?_;rintro e w2 ⟨rfl,⟨o,m,ht,hp2⟩,hb2⟩;have Ay:Hid (PA (w.heap.size+1+1+1) (w.heap.size+1+1) w2 (zR (Num.gY p) o m)):=hp2;have HTO:Hid (DX a o m):=ht;have jT:Below (w.heap.size+1+1) V w2:=HB1.out.trans hb2;clear hp2 hb2 ht;cases hh:Num.rowP a with
     | none =>have E:Hid (jN l=2/\atR l=k/\jO l=⟨[],[]⟩):=NN.out.ends (by rw [HMO.out,if_neg hk0,hh]);obtain ⟨⟨r0,r1,r2,r3⟩,⟨f0,f1,f2,f3⟩,hBW⟩:=iy.out w2 jT;clear hh;simp only [Option.isSome_none];go_wp2_with fail;refine bodyPost_ret (v:=.tuple #[.agg #[.slice none 0 0,.slice none 0 0],.agg #[.int .i64 2,.int .i64 k]]) (by simp [results,Tryz.results9,go_sem,r0,r1,r2,r3]) rfl ⟨none,0,0,none,0,0,by rw [E.out.1,E.out.2.1],by rw [E.out.2.2];exact Af.bare _ _ _,⟨by rw [E.out.2.2];exact ⟨rfl,Or.inl rfl⟩,by omega⟩,⟨by rw [E.out.2.2];exact ⟨rfl,Or.inl rfl⟩,by omega⟩,(((hBW.setCell (Nat.le_refl _) _).setCell (Nat.le_refl _) _).setCell (Nat.le_succ _) _).setCell (Nat.le_succ _) _⟩
     | some x =>
      have R:Hid (Reads l b (k+1) ⟨p.costs,p.rows ++ [x]⟩):=Eq.trans NN.out (by rw [HMO.out,if_neg hk0,hh]);have DY:Hid (PA (w.heap.size+1+1+1) (w.heap.size+1+1) w2 (Num.gY ⟨p.costs,p.rows ++ [x]⟩)):=by obtain ⟨e1,e2⟩:=HTO.out x hh;have:=Ay.out;rw [<-e1,<-e2,<-Rk] at this;exact this
      clear hh;simp only [Option.isSome_some];go_wp2_with fail;go_roundw
      case rel=>exact ⟨b,k+1,⟨p.costs,p.rows ++ [x]⟩,rfl,by rw [hk1];simp,by have:=OU.out;omega,R.out,DY.out,jT⟩
      case measure=>show (B8 b).size < S.size;rw [aQ,Xo.out];omega
end Go.Proofs.YtipcbhodlgoflabGreatDoor
