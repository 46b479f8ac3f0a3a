/- What slices.Clone and slices.Sort do with a short slice of ints. -/
import Derived.Test.YtipcbhodlgoflabGreatDoorCornW
import Derived.Maps.AppendAt
set_option maxHeartbeats 1600000
namespace Go.Proofs.YtipcbhodlgoflabGreatDoor
open Go.RowKit
def fJ (w:World) (base g n c:Nat) (l:List Int) : Prop:=w.ownsRow base 3 1 (.slice (some ⟨g,0,none⟩) n c) n (l.map (Value.int .i64))
theorem fJ.len {w:World} {base g n c:Nat} {l:List Int} (h:fJ w base g n c l) : l.length=n:=by simpa using h.1
theorem fJ.cell {w:World} {base g n c:Nat} {l:List Int} (h:fJ w base g n c l) (k:Nat) (hk:k < n) : w.cell? ⟨g,k,none⟩=some (.int .i64 (l[k]?.getD 0))/\w.frozen? ⟨g,k,none⟩=false:=by refine ⟨?_,World.ownsRow.frozenAt h k⟩;have:=World.ownsRow.cellAt h k (by omega);rw [this,List.getElem?_map,List.getElem?_eq_getElem (by have:=h.len;omega)];simp
theorem fJ.store {w:World} {base g n c:Nat} {l:List Int} (h:fJ w base g n c l) (k:Nat) (v:Int) : fJ (w.setCell ⟨g,k,none⟩ (.int .i64 v)) base g n c (l.set k v):=by unfold fJ;rw [List.map_set];exact (World.ownsRow.stored h k (.int .i64 v)).1
theorem fJ.lt {w:World} {base g n c:Nat} {l:List Int} (h:fJ w base g n c l) : base<=g/\g < w.heap.size:=World.ownsRow.lt h g rfl
theorem fJ.drewN {w:World} {base g n c:Nat} {l:List Int} (h:fJ w base g n c l) (q:Nat) : fJ (w.drewN q) base g n c l:=by have hb:Below (g+1) w (w.drewN q):=below_drewN (Below.refl _ _) q;exact own_below h hb (by omega)
theorem fJ.ints {w:World} {base g n c:Nat} {l:List Int} (h:fJ w base g n c l) : Ints w (some ⟨g,0,none⟩) n l :=
 ⟨h.len.symm,Or.inr ⟨g,0,rfl,h.lt.2,fun j hj=>by rw [Nat.zero_add];exact (h.cell j hj).1⟩⟩
namespace Num
def DI (r:List Int) (k:Nat) : Prop:=∀a b,a < b->b < k->r[a]?.getD 0<=r[b]?.getD 0
def ry (r:List Int) (k j:Nat) : Prop:=∀a b,a < b->b<=k->b≠j->r[a]?.getD 0<=r[b]?.getD 0
theorem ry.of (r:List Int) (k:Nat) (h:DI r k) : ry r k k:=fun a b hab hb hne=>h a b hab (by omega)
theorem ry.zero (r:List Int) (k:Nat) (h:ry r k 0) : DI r (k+1):=fun a b hab hb=>h a b hab (by omega) (by omega)
theorem ry.stop (r:List Int) (k q:Nat) (hq:q+1<=k) (h:ry r k (q+1)) (hn:¬ r[q+1]?.getD 0 < r[q]?.getD 0) : DI r (k+1):=by
 intro a b hab hb;by_cases hbq:b=q+1
 ·subst hbq;by_cases haq:a=q
  ·subst haq;omega
  ·have:=h a q (by omega) (by omega) (by omega);omega
 ·exact h a b hab (by omega) hbq
def uJ (r:List Int) (q:Nat) : List Int:=(r.set (q+1) (r[q]?.getD 0)).set q (r[q+1]?.getD 0)
theorem FN (r:List Int) (q i:Nat) (h:q+1 < r.length) : (uJ r q)[i]?.getD 0=if i=q then r[q+1]?.getD 0 else if i=q+1 then r[q]?.getD 0 else r[i]?.getD 0:=by
 unfold uJ;rw [List.getElem?_set];by_cases h1:i=q
 ·subst h1;rw [if_pos rfl,if_pos rfl,if_pos (by rw [List.length_set];omega)];rfl
 ·rw [if_neg (fun e=>h1 e.symm),if_neg h1,List.getElem?_set];by_cases h2:i=q+1
  ·subst h2;rw [if_pos rfl,if_pos rfl,if_pos h];rfl
  ·rw [if_neg (fun e=>h2 e.symm),if_neg h2]
theorem ry.step (r:List Int) (k q:Nat) (hq:q+1<=k) (hl:q+1 < r.length) (h:ry r k (q+1)) (hlt:r[q+1]?.getD 0 < r[q]?.getD 0) : ry (uJ r q) k q:=by
 intro a b hab hb hne;rw [FN r q a hl,FN r q b hl,if_neg hne];by_cases hb1:b=q+1
 ·subst hb1;rw [if_pos rfl];by_cases ha:a=q
  ·subst ha;rw [if_pos rfl];omega
  ·rw [if_neg ha,if_neg (by omega)];exact h a q (by omega) (by omega) (by omega)
 ·rw [if_neg hb1];by_cases ha:a=q
  ·subst ha;rw [if_pos rfl];exact h (a+1) b (by omega) hb hb1
  ·rw [if_neg ha];by_cases ha1:a=q+1
   ·subst ha1;rw [if_pos rfl];exact h q b (by omega) hb hb1
   ·rw [if_neg ha1];exact h a b hab hb hb1
theorem zm:∀(r:List Int) (q:Nat),q+1 < r.length->(uJ r q).Perm r
 | [],q,h=>by simp at h
 | [x],q,h=>by simp at h
 | x :: y :: t,0,_=>by
  show (y :: x :: t).Perm (x :: y :: t);exact List.Perm.swap x y t
 | x :: y :: t,q+1,h=>by
  have ih:=zm (y :: t) q (by simpa using h);show (x :: uJ (y :: t) q).Perm (x :: y :: t);exact List.Perm.cons x ih
theorem DI.pair (r:List Int) (h:DI r r.length) : r.Pairwise (·<=·):=by rw [List.pairwise_iff_getElem];intro i j hi hj hij;have:=h i j hij hj;rw [List.getElem?_eq_getElem hi,List.getElem?_eq_getElem hj] at this;exact this
end Num
theorem wQ (a b:Int) (w:World) : Calls Tryz.prog 185 #[.int .i64 a,.int .i64 b] w fun e w'=>e=.returned (.bool (decide (a < b)))/\w'=w:=by go_enter Tryz.func185,Tryz.ntmps185;go_wp2;go_ret;exact ⟨rfl,rfl⟩
theorem Aw (base g n c:Nat) (l:List Int) (w:World) (h:fJ w base g n c l) (h1:1<=n) (h12:n<=12) :
  Calls Tryz.prog 179 #[.slice (some ⟨g,0,none⟩) n c,.int .i64 0,.int .i64 n] w fun e w'=>e=.returned (.tuple #[])/\∃r,fJ w' base g n c r/\r.Perm l/\r.Pairwise (·<=·)/\Below g w w':=by
 have HO:Hid (fJ w base g n c l):=h;clear h;go_enter Tryz.func179,Tryz.ntmps179;go_wp2_with fail;go_loopw [6] (fun i wr=>∃k:Nat,1<=k/\k<=n/\i=.int .i64 k/\∃r,fJ wr base g n c r/\r.Perm l/\Num.DI r k/\Below g w wr) (fun i _=>n - (intOf i).toNat)
 case atStart=>exact ⟨1,Nat.le_refl _,h1,rfl,l,HO.out,List.Perm.refl _,fun a b hab hb=>by omega,Below.refl _ _⟩
 case round =>
  obtain ⟨k,hk1,hk,rfl,r,hO,hP,hU,hB⟩:=hrel;have Ev:Hid (fJ wr base g n c r):=hO;have HP:Hid (r.Perm l):=hP;have HU:Hid (Num.DI r k):=hU;have HB:Hid (Below g w wr):=hB;clear hO hP hU hB HO;by_cases hlt:k < n
  ·go_wp2_with fail;go_loopw [7] (fun j wr=>∃jj:Nat,jj<=k/\j=.int .i64 jj/\∃r,fJ wr base g n c r/\r.Perm l/\Num.ry r k jj/\Below g w wr) (fun j _=>(intOf j).toNat)
   case atStart=>exact ⟨k,Nat.le_refl _,rfl,r,Ev.out,HP.out,Num.ry.of r k HU.out,HB.out⟩
   case round =>
    obtain ⟨jj,hjk,rfl,r2,hO2,hP2,hS2,hB2⟩:=hrel;clear Ev HP HU HB;have Ew:Hid (fJ wr base g n c r2):=hO2;have Ay:Hid (r2.Perm l):=hP2;have HS2:Hid (Num.ry r2 k jj):=hS2;have HB2:Hid (Below g w wr):=hB2;clear hO2 hP2 hS2 hB2;by_cases hj0:jj=0
    ·subst hj0;have qd:decide ((0:Int) < ((0:Nat) : Int))=false:=by decide
     go_wp2_with fail;go_quiet (fail);go_wp2_with fail;go_roundw
     case rel=>exact ⟨k+1,by omega,hlt,by go_num,r2,fJ.drewN Ew.out _,Ay.out,Num.ry.zero r2 k HS2.out,iZ HB2.out _⟩
     case measure=>simp [intOf];omega
    ·obtain ⟨q,hq⟩ : ∃q,jj=q+1:=⟨jj - 1,by omega⟩;have ZN:q < n:=by omega
     have hjn:jj < n:=by omega
     obtain ⟨a0,a1⟩:=fJ.cell Ew.out jj hjn;obtain ⟨b0,b1⟩:=fJ.cell Ew.out q ZN;have hg:=(fJ.lt Ew.out).2;have hl2:=fJ.len Ew.out;have HST:Hid (r2[jj]?.getD 0 < r2[q]?.getD 0->Num.ry (Num.uJ r2 q) k q):=by subst hq;exact Num.ry.step r2 k q hjk (by omega) HS2.out
     have K8:Hid (¬ r2[jj]?.getD 0 < r2[q]?.getD 0->Num.DI r2 (k+1)):=by subst hq;exact Num.ry.stop r2 k q hjk HS2.out
     have TN:Hid ((Num.uJ r2 q).Perm l):=List.Perm.trans (Num.zm r2 q (by omega)) Ay.out;have HSW:Hid (Num.uJ r2 q=(r2.set jj (r2[q]?.getD 0)).set q (r2[jj]?.getD 0)):=by subst hq;rfl
     generalize r2[jj]?.getD 0=x at *;generalize r2[q]?.getD 0=y at *;have qd:decide ((0:Int) < (jj:Int))=true:=decide_eq_true (by omega);have qn:decide (0 < jj)=true:=decide_eq_true (by omega);have hne:jj≠q:=by omega
     have hne2:q≠jj:=by omega
     have u3:(0:Int)<=(q:Int):=by omega
     have u4:(q:Int) < (n:Int):=by omega
     have u5:(jj:Int) < (n:Int):=by omega
     have u1:wrap64 ((jj:Int) - 1)=(q:Int):=by rw [IntWalk.wrap64_in _ (by omega)];omega
     have u2:IntKind.i64.wrap ((jj:Int) - 1)=(q:Int):=by rw [IntWalk.i64_left];exact u1
     have HQ:Hid _:=hq;clear hq hl2;by_cases hxy:x < y
     ·have q5:decide (x < y)=true:=decide_eq_true hxy;go_wp2_with fail;go_quiet ((go_at_call 185;exact Calls.quiet_of_same (wQ _ _ _)));go_wp2_with fail;go_region
      all_goals go_wp2_with fail
      all_goals go_roundw
      all_goals first
              | exact ⟨q,by have:=HQ.out;omega,rfl,Num.uJ r2 q,by rw [HSW.out];exact fJ.store (fJ.store (fJ.drewN Ew.out _) jj y) q x,TN.out,HST.out hxy,aV (aV (iZ HB2.out _) (Nat.le_refl _) _) (Nat.le_refl _) _⟩
              | (simp [intOf];have:=HQ.out;omega)
     ·have q5:decide (x < y)=false:=decide_eq_false hxy;go_wp2_with fail;go_quiet ((go_at_call 185;exact Calls.quiet_of_same (wQ _ _ _)));go_wp2_with fail;go_roundw
      case rel=>exact ⟨k+1,by omega,hlt,by go_num,r2,fJ.drewN Ew.out _,Ay.out,K8.out hxy,iZ HB2.out _⟩
      case measure=>simp [intOf];omega
  ·have hke:k=n:=by omega
   subst hke;go_wp2_with fail;go_end0;exact ⟨rfl,r,Ev.out,HP.out,Num.DI.pair r (by rw [fJ.len Ev.out];exact HU.out),HB.out⟩
theorem TP (base g n c:Nat) (l:List Int) (w:World) (h:fJ w base g n c l) (h1:1<=n) (h12:n<=12) (x:Int) :
  Calls Tryz.prog 158 #[.slice (some ⟨g,0,none⟩) n c,.int .i64 0,.int .i64 n,.int .i64 x] w fun e w'=>e=.returned (.tuple #[])/\∃r,fJ w' base g n c r/\r.Perm l/\r.Pairwise (·<=·)/\Below g w w':=by
 have HO:Hid (fJ w base g n c l):=h;clear h;have q1:decide ((n:Int)<=12)=true:=decide_eq_true (by omega);go_enter Tryz.func158,Tryz.ntmps158;go_wp2_with fail;go_loopw [1,2] (fun a b wr=>a=.int .i64 0/\b=.int .i64 n/\wr=w) (fun _ _ _=>0)
 case atStart=>exact ⟨rfl,rfl,rfl⟩
 case round =>
  obtain ⟨rfl,rfl,rfl⟩:=hrel;go_wp2_with fail;refine (Aw base g n c l _ HO.out h1 h12).mono ?_;rintro e w1 ⟨rfl,r,hr⟩;have HR:Hid _:=hr;clear hr;go_wp2_with fail
  (try simp only [Exit.inBlock,Exit.then])
  refine bodyPost_ret (results_none rfl _ _ _) rfl ?_;exact ⟨rfl,r,HR.out⟩
set_option maxRecDepth 100000 in
theorem Qa (w:World) : Calls Tryz.prog 139 #[.int .u64 1] w fun e w'=>∃x,e=.returned (.int .i64 x)/\w'=w:=by go_enter Tryz.func139,Tryz.ntmps139;go_wp2;go_ret;exact ⟨_,rfl,rfl⟩
set_option maxRecDepth 100000 in
theorem Qb (w:World) : Calls Tryz.prog 139 #[.int .u64 2] w fun e w'=>∃x,e=.returned (.int .i64 x)/\w'=w:=by go_enter Tryz.func139,Tryz.ntmps139;go_wp2;go_ret;exact ⟨_,rfl,rfl⟩
set_option maxRecDepth 100000 in
theorem Qc (w:World) : Calls Tryz.prog 139 #[.int .u64 3] w fun e w'=>∃x,e=.returned (.int .i64 x)/\w'=w:=by go_enter Tryz.func139,Tryz.ntmps139;go_wp2;go_ret;exact ⟨_,rfl,rfl⟩
set_option maxRecDepth 100000 in
theorem Qd (w:World) : Calls Tryz.prog 139 #[.int .u64 4] w fun e w'=>∃x,e=.returned (.int .i64 x)/\w'=w:=by go_enter Tryz.func139,Tryz.ntmps139;go_wp2;go_ret;exact ⟨_,rfl,rfl⟩
theorem FO (n:Nat) (h1:1<=n) (h4:n<=4) (w:World) : Calls Tryz.prog 139 #[.int .u64 n] w fun e w'=>∃x,e=.returned (.int .i64 x)/\w'=w:=by
 match n,h1,h4 with
 | 1,_,_=>exact Qa w
 | 2,_,_=>exact Qb w
 | 3,_,_=>exact Qc w
 | 4,_,_=>exact Qd w
theorem Qe (base g n c:Nat) (l:List Int) (w:World) (h:fJ w base g n c l) (h1:1<=n) (h4:n<=4) :
  Calls Tryz.prog 135 #[.slice (some ⟨g,0,none⟩) n c] w fun e w'=>e=.returned (.tuple #[])/\∃r,fJ w' base g n c r/\r.Perm l/\r.Pairwise (·<=·)/\Below g w w':=by
 have HO:Hid (fJ w base g n c l):=h;clear h;go_enter Tryz.func135,Tryz.ntmps135;go_wp2_with (first|(go_at_call 139;refine (FO n h1 h4 _).mono ?_;rintro e w1 ⟨x,rfl,rfl⟩)|(go_at_call 158;refine (TP base g n c l _ HO.out h1 (by omega) _).mono ?_;rintro e w2 ⟨rfl,r,hr⟩;have HR:Hid _:=hr;clear hr));go_end0;exact ⟨rfl,r,HR.out⟩
theorem Tryz.mV:(Tryz.prog.info? 3).map (fun i=>(i.zero,i.size,i.bytes))=some (some (.int .i64 0),1,8):=by kernel_rfl
theorem Qf (l:List Int) : ∀u∈l.map (Value.int .i64),u.oneCell'=true:=by intro u hu;obtain ⟨x,_,rfl⟩:=List.mem_map.1 hu;rfl
theorem sP (a:Option Addr) (n cap:Nat) (l:List Int) (w:World) (hi:Ints w a n l) (h1:1<=n) (h4:n<=4) :
  Calls Tryz.prog 65 #[.slice a n cap] w fun e w'=>∃g c,e=.returned (.slice (some ⟨g,0,none⟩) n c)/\w.heap.size<=g/\n<=c/\fJ w' w.heap.size g n c l/\Below w.heap.size w w':=by
 rcases hi.2 with h0|⟨b,off,ha,hb,hc⟩
 ·omega
 subst ha;have HV:Hid ((l.map (Value.int .i64)).length=n):=by rw [List.length_map];exact hi.1.symm
 have HC:Hid (∀j,j < n->w.cell? ⟨b,off+j,none⟩=(l.map (Value.int .i64))[j]?):=by intro j hj;rw [hc j hj,List.getElem?_map,List.getElem?_eq_getElem (by have:=hi.1;omega)];rfl
 have HN:Hid (n=l.length):=hi.1;clear hi hc;obtain ⟨i0,hif,hz0,hz1,hz2⟩:=info_parts Tryz.mV;go_enter Tryz.func65,Tryz.ntmps65;have qn:∀(w:World) (a:Option Addr) (n c n' c':Nat),(binOp .eql 62 (.slice a n c) (.slice none n' c')).run Tryz.prog w=.ok (.bool a.isNone) w:=fun w a n c n' c'=>Lib.run_eql_slice_nil w _ _ a n c n' c' Tryz.underlying62;go_wp2_with (at_builtin;refine wpList_append_own _ rfl (.tmp 5) (.tmp 6) 62 rfl w.heap.size 3 i0 (.int .i64 0) 1 8 Tryz.underlying62 hif hz0 hz1 hz2 rfl (by decide) _ 0 [] rfl ?o1 ⟨b,off,none⟩ n cap (l.map (Value.int .i64)) rfl ?o2 ?o3 ?o4 ?o5 ?o6 ?o7 ?_)
 case o1=>exact World.ownsRow_made w #[] 0 (Nat.le_refl _) (Nat.zero_le _) rfl
 case o2=>rw [HV.out,Nat.mul_one]
 case o3=>exact J5 (af _ _) hb HV.out HC.out
 case o4=>exact Qf l
 case o5=>unfold maxLen;omega
 case o6=>omega
 case o7=>simp
 intro v' w1 hown hgrow _;obtain ⟨g,c,hv,hg,hn⟩:=EJ hown h1;subst hv;have HO:Hid _:=hown;have hB:Below w.heap.size w w1:=Below.grown (af _ _) hgrow (by simp) (fun j hj=>by simp [Value.ownBlock] at hj;omega);clear hown hgrow;go_wp2_with fail;go_ret;exact ⟨g,c,rfl,hg,hn,HO.out,hB⟩
open Go.RowKit
theorem Tryz.TQ:(Tryz.prog.info? 62).map (fun i=>(i.zero,i.size,i.bytes))=some (some (.slice none 0 0),1,24):=by kernel_rfl
def vP (w:World) (a:Option Addr) (len:Nat) (ls:List (List Int)) : Prop :=
 len=ls.length/\(len=0\/∃b off,a=some ⟨b,off,none⟩/\b < w.heap.size/\∀j,j < len->∃ra rl rc,w.cell? ⟨b,off+j,none⟩=some (.slice ra rl rc)/\Ints w ra rl (ls[j]?.getD []))
theorem vP.nil (w:World) : vP w none 0 []:=⟨rfl,Or.inl rfl⟩
def Off (w:World) (v:Value) (a:Option Addr) (n:Nat) : Prop:=n=0\/∃b off,a=some ⟨b,off,none⟩/\b < w.heap.size/\v.ownBlock≠some b
def fU (w:World) (base:Nat) (v:Value) (ls:List (List Int)) : Prop :=
 ∃vs:List Value,w.ownsRow base 62 1 v ls.length vs/\∀j,j < ls.length->∃a n c,vs[j]? = some (.slice a n c)/\Ints w a n (ls[j]?.getD [])/\Off w v a n
theorem fU.nil (w:World) (base:Nat) : fU w base (.slice none 0 0) []:=⟨[],World.ownsRow_nil _ _ _ _,fun _ hj=>absurd hj (Nat.not_lt_zero _)⟩
theorem Off.below {w w':World} {v:Value} {a:Option Addr} {n:Nat} (h:Off w v a n) (hb:Below w.heap.size w w') : Off w' v a n:=by
 rcases h with h|⟨b,off,h1,h2,h3⟩
 ·exact Or.inl h
 ·exact Or.inr ⟨b,off,h1,Nat.lt_of_lt_of_le h2 hb.size,h3⟩
theorem fU.below {w w':World} {base:Nat} {v:Value} {ls:List (List Int)} (h:fU w base v ls) (hb:Below w.heap.size w w') : fU w' base v ls:=by obtain ⟨vs,h,hin⟩:=h;refine ⟨vs,World.ownsRow.kept (row:=none) h ⟨hb.os,hb.tape,hb.output,hb.size,fun k hk _=>hb.block k hk⟩ (by cases v.ownBlock<;>simp),fun j hj=>?_⟩;obtain ⟨a,n,c,h1,h3,h4⟩:=hin j hj;exact ⟨a,n,c,h1,h3.below hb (Nat.le_refl _),h4.below hb⟩
theorem Ints.grown {w w':World} {v:Value} {a:Option Addr} {n:Nat} {l:List Int} (h:Ints w a n l) (ho:Off w v a n) (hg:w.grownBy w' v.ownBlock) : Ints w' a n l:=by
 obtain ⟨h1,h2⟩:=h;refine ⟨h1,?_⟩;rcases ho with h0|⟨b,off,ha,hlt,hne⟩
 ·exact Or.inl h0
 ·rcases h2 with h2|⟨b',off',ha',hs,hc⟩
  ·exact Or.inl h2
  ·rw [ha] at ha';simp only [Option.some.injEq,Addr.mk.injEq,and_true] at ha';obtain ⟨rfl,rfl⟩:=ha';refine Or.inr ⟨b,off,ha,Nat.lt_of_lt_of_le hs hg.size,fun j hj=>?_⟩;rw [World.cell?_of_block (w:=w) (a:=⟨b,off+j,none⟩) (hg.block b hlt (fun e=>hne e.symm))];exact hc j hj
theorem Off.grown {w w':World} {v v':Value} {a:Option Addr} {n:Nat} (ho:Off w v a n) (hg:w.grownBy w' v.ownBlock) (hv:v'.ownBlock=v.ownBlock\/v'.ownBlock=some w.heap.size) : Off w' v' a n:=by
 rcases ho with h0|⟨b,off,ha,hlt,hne⟩
 ·exact Or.inl h0
 ·refine Or.inr ⟨b,off,ha,Nat.lt_of_lt_of_le hlt hg.size,?_⟩;rcases hv with hv|hv
  ·rw [hv];exact hne
  ·rw [hv];intro e;simp only [Option.some.injEq] at e;omega
theorem fU.push {w w':World} {base:Nat} {v v':Value} {ls:List (List Int)} {l:List Int} {vs:List Value} {a:Option Addr} {n c:Nat} (ho:w.ownsRow base 62 1 v ls.length vs)
  (hin:∀j,j < ls.length->∃a n c,vs[j]? = some (.slice a n c)/\Ints w a n (ls[j]?.getD [])/\Off w v a n) (hi:Ints w a n l) (hoff:Off w v a n)
  (ho':w'.ownsRow base 62 1 v' (ls.length+1) (vs ++ [.slice a n c])) (hg:w.grownBy w' v.ownBlock) (hv:v'.ownBlock=v.ownBlock\/v'.ownBlock=some w.heap.size) : fU w' base v' (ls ++ [l]):=by
 have hl:vs.length=ls.length:=by simpa using ho.1
 refine ⟨vs ++ [.slice a n c],by simpa using ho',fun j hj=>?_⟩;rw [List.length_append,List.length_singleton] at hj;by_cases hjk:j < ls.length
 ·obtain ⟨a',n',c',h1,h3,h4⟩:=hin j hjk;refine ⟨a',n',c',by rw [List.getElem?_append_left (by omega)];exact h1,?_,h4.grown hg hv⟩;rw [List.getElem?_append_left hjk];exact h3.grown h4 hg
 ·obtain rfl:j=ls.length:=by omega
  refine ⟨a,n,c,by rw [List.getElem?_append_right (by omega),hl];simp,?_,hoff.grown hg hv⟩;rw [List.getElem?_append_right (by omega)];simpa using hi.grown hoff hg
theorem fU.lines {w:World} {base:Nat} {v:Value} {ls:List (List Int)} (h:fU w base v ls) : ∃a c,v=.slice a ls.length c/\vP w a ls.length ls:=by
 obtain ⟨vs,h,hin⟩:=h;have hl:vs.length=ls.length:=by simpa using h.1
 have h':=h;rcases h.2 with ⟨hv,h0⟩|⟨g,cap,cur,hv,hb,_,hc,_⟩
 ·refine ⟨none,0,by rw [h0];exact hv,⟨rfl,Or.inl h0⟩⟩
 ·subst hv;refine ⟨_,cap,rfl,rfl,Or.inr ⟨g,0,rfl,(World.ownsRow.lt h' g rfl).2,fun j hj=>?_⟩⟩;obtain ⟨a,n,c,h1,h3,_⟩:=hin j hj;refine ⟨a,n,c,?_,h3⟩;rw [Nat.zero_add,World.ownsRow.cellAt h' j (by omega),h1]
def lenOf:Value->Nat
 | .slice _ n _=>n
 | _=>0
theorem IL {w:World} {base n:Nat} {t:TypeId} {v:Value} {xs:List Value} (h:w.ownsRow base t 1 v n xs) (g:Nat) (hg:v.ownBlock=some g) : base<=g/\g < w.heap.size:=World.ownsRow.lt h g hg
theorem Off.fresh {w:World} {v:Value} {base n:Nat} {t:TypeId} {xs:List Value} (h:w.ownsRow base t 1 v n xs) {w':World} {a:Option Addr} {k:Nat} (hf:k=0\/∃g,a=some ⟨g,0,none⟩/\w.heap.size<=g) {l:List Int} (hi:Ints w' a k l) : Off w' v a k:=by
 rcases hf with h0|⟨g,ha,hg⟩
 ·exact Or.inl h0
 ·rcases hi.2 with h0|⟨b,off,ha',hs,_⟩
  ·exact Or.inl h0
  ·rw [ha] at ha';simp only [Option.some.injEq,Addr.mk.injEq,and_true] at ha';obtain ⟨rfl,rfl⟩:=ha';refine Or.inr ⟨g,0,ha,hs,fun e=>?_⟩;have:=(IL h g e).2;omega
end Go.Proofs.YtipcbhodlgoflabGreatDoor
