/- Programs as text, in plain bytes: a program's text is read as it, and what is read is its text. -/
import Derived.Test.YtipcbhodlgoflabGreatDoorNum
namespace Go.Proofs.YtipcbhodlgoflabGreatDoor
namespace Num
def iB (n:Nat) : List UInt8:=if n < 10 then [UInt8.ofNat (48+n)] else iB (n / 10) ++ [UInt8.ofNat (48+n % 10)]
termination_by n
decreasing_by omega
def aR (n:Int) : List UInt8:=if n < 0 then 45 :: iB n.natAbs else iB n.natAbs
def di (c:UInt8) : Bool:=decide (48<=c.toNat) && decide (c.toNat<=57)
def ru (l:List UInt8) : Nat:=l.foldl (fun a c=>10*a+(c.toNat - 48)) 0
theorem Cw (l:List UInt8) (c:UInt8) : ru (l ++ [c])=10*ru l+(c.toNat - 48):=by unfold ru;rw [List.foldl_append];rfl
theorem xS (k:Nat) (h:k < 10) : (UInt8.ofNat (48+k)).toNat=48+k:=by rw [UInt8.toNat_ofNat'];omega
theorem Ou (c:UInt8) (h:di c=true) : UInt8.ofNat (48+(c.toNat - 48))=c:=by
 unfold di at h;simp only [Bool.and_eq_true,decide_eq_true_eq] at h;have:48+(c.toNat - 48)=c.toNat:=by omega
 rw [this];exact UInt8.ofNat_toNat
theorem gz (n:Nat) (h:n < 10) : iB n=[UInt8.ofNat (48+n)]:=by rw [iB];rw [if_pos h]
theorem jP (n:Nat) (h:10<=n) : iB n=iB (n / 10) ++ [UInt8.ofNat (48+n % 10)]:=by rw [iB];rw [if_neg (by omega)]
theorem nE (n:Nat) : ∀c∈iB n,di c=true:=by
 induction n using Nat.strongRecOn with
 | ind n ih =>
  intro c hc;have one:∀k,k < 10->di (UInt8.ofNat (48+k))=true:=fun k hk=>by
   unfold di;rw [xS k hk];simp only [Bool.and_eq_true,decide_eq_true_eq];omega
  by_cases h:n < 10
  ·rw [gz n h] at hc;rw [List.mem_singleton.1 hc];exact one n h
  ·rw [jP n (by omega)] at hc;rcases List.mem_append.1 hc with hc|hc
   ·exact ih (n / 10) (by omega) c hc
   ·rw [List.mem_singleton.1 hc];exact one _ (by omega)
theorem Ej (n:Nat) : ru (iB n)=n:=by
 induction n using Nat.strongRecOn with
 | ind n ih =>
  by_cases h:n < 10
  ·rw [gz n h];show 10*0+((UInt8.ofNat (48+n)).toNat - 48)=n;rw [xS n h];omega
  ·rw [jP n (by omega),Cw,ih (n / 10) (by omega),xS _ (by omega)];omega
theorem LJ (n:Nat) (h:0 < n) : ∃c r,iB n=c :: r/\c.toNat≠48:=by
 induction n using Nat.strongRecOn with
 | ind n ih =>
  by_cases h10:n < 10
  ·refine ⟨_,_,gz n h10,?_⟩;rw [xS n h10];omega
  ·obtain ⟨c,r,e1,e2⟩:=ih (n / 10) (by omega) (by omega);refine ⟨c,r ++ [UInt8.ofNat (48+n % 10)],?_,e2⟩;rw [jP n (by omega),e1];rfl
theorem kv (k:Nat) : ∀n,n < 10 ^ (k+1)->(iB n).length<=k+1:=by
 induction k with
 | zero =>intro n hn;rw [gz n (by simpa using hn)];simp
 | succ k ih =>
  intro n hn;by_cases h:n < 10
  ·rw [gz n h];simp
  ·rw [jP n (by omega),List.length_append];have:=ih (n / 10) (by rw [Nat.pow_succ] at hn;omega);simp;omega
theorem Cx (n:Nat) : iB n≠[]:=by
 by_cases h:n < 10
 ·rw [gz n h];simp
 ·rw [jP n (by omega)];simp
theorem JU (l:List UInt8) : ∀c,di c=true->c.toNat≠48->(∀x∈l,di x=true)->0 < ru (c :: l):=by
 intro c hc hc0 hl;have key:∀(l:List UInt8) (a:Nat),0 < a->0 < l.foldl (fun a c=>10*a+(c.toNat - 48)) a:=by
  intro l
  induction l with
  | nil=>intro a h;exact h
  | cons x l ih=>intro a h;exact ih (10*a+(x.toNat - 48)) (by omega)
 unfold di at hc;simp only [Bool.and_eq_true,decide_eq_true_eq] at hc;exact key l (10*0+(c.toNat - 48)) (by omega)
theorem Sv (l:List UInt8) (hl:∀c∈l,di c=true) (hne:l≠[]) (h0:∀c r,l=c :: r->r≠[]->c.toNat≠48) : iB (ru l)=l:=by
 have key:∀k (l:List UInt8),l.length=k->(∀c∈l,di c=true)->l≠[]->(∀c r,l=c :: r->r≠[]->c.toNat≠48)->iB (ru l)=l:=by
  intro k
  induction k with
  | zero=>intro l hk _ hne _;exact absurd (List.length_eq_zero_iff.1 hk) hne
  | succ k ih =>
   intro l hk hl hne h0;obtain ⟨i,c,rfl⟩ : ∃i c,l=i ++ [c]:=⟨l.dropLast,l.getLast hne,(List.dropLast_concat_getLast hne).symm⟩;have hc:=hl c (by simp);have hcd:=hc;unfold di at hcd;simp only [Bool.and_eq_true,decide_eq_true_eq] at hcd;rw [Cw];cases i with
   | nil =>
    have e:10*ru []+(c.toNat - 48)=c.toNat - 48:=by show 10*0+_=_;omega
    rw [e,gz _ (by omega),Ou c hc];rfl
   | cons x i =>
    have hx:x.toNat≠48:=h0 x (i ++ [c]) rfl (by simp);have hp:=JU i x (hl x (by simp)) hx (fun y hy=>hl y (by simp [hy]));rw [jP _ (by omega),show (10*ru (x :: i)+(c.toNat - 48)) / 10=ru (x :: i) by omega,show (10*ru (x :: i)+(c.toNat - 48)) % 10=c.toNat - 48 by omega,Ou c hc];rw [ih (x :: i) (by simpa using hk) (fun y hy=>hl y (List.mem_append.2 (Or.inl hy))) (by simp) (fun y r e hr=>by
     have e':=e;simp only [List.cons.injEq] at e';rw [<-e'.1];exact hx)]
 exact key l.length l rfl hl hne h0
def nZ (t:List UInt8) (below:Bool) : Option Nat :=
 if t.length < 1\/6 < t.length\/(t.head? = some 48/\(1 < t.length\/below=true)) then none else if t.all di=true then some (ru t) else none
def bQ (s:List UInt8) : Option Int:=if s.head? = some 45 then (nZ s.tail true).map (fun n:Nat => -(n:Int)) else (nZ s false).map (fun n:Nat=>(n:Int))
theorem El (n:Nat) (b:Bool) (h:n<=999999) (hb:b=true->0 < n) : nZ (iB n) b=some n:=by
 unfold nZ;rw [if_neg,if_pos,Ej]
 ·rw [List.all_eq_true];exact nE n
 ·rintro (h1|h1|⟨h1,h2⟩)
  ·have:=List.length_pos_iff.2 (Cx n);omega
  ·have:=kv 5 n (by omega);omega
  ·by_cases h0:0 < n
   ·obtain ⟨c,r,e1,e2⟩:=LJ n h0;rw [e1] at h1;simp only [List.head?_cons,Option.some.injEq] at h1;rw [h1] at e2;exact e2 rfl
   ·have:n=0:=by omega
    subst this;rw [gz 0 (by omega)] at h2;rcases h2 with h2|h2
    ·simp at h2
    ·have:=hb h2;omega
theorem Em (t:List UInt8) (b:Bool) (n:Nat) (h:nZ t b=some n) : iB n=t/\n<=999999/\(b=true->0 < n)/\∀c∈t,di c=true:=by
 unfold nZ at h;by_cases hc:t.length < 1\/6 < t.length\/(t.head? = some 48/\(1 < t.length\/b=true))
 ·rw [if_pos hc] at h;cases h
 ·rw [if_neg hc] at h;by_cases ha:t.all di=true
  ·rw [if_pos ha] at h;simp only [Option.some.injEq] at h;have hd:=List.all_eq_true.1 ha;have hne:t≠[]:=fun e=>hc (Or.inl (by rw [e];simp));have hz:∀c r,t=c :: r->(r≠[]\/b=true)->c.toNat≠48:=by
    intro c r e hr h48;refine hc (Or.inr (Or.inr ⟨?_,?_⟩))
    ·rw [e,List.head?_cons];have:c=48:=UInt8.toNat_inj.1 (by rw [h48];rfl);rw [this]
    ·rcases hr with hr|hr
     ·left;rw [e,List.length_cons];have:=List.length_pos_iff.2 hr;omega
     ·exact Or.inr hr
   have e1:=Sv t hd hne (fun c r e hr=>hz c r e (Or.inl hr));rw [h] at e1;refine ⟨e1,?_,fun hb=>?_,hd⟩
   ·have hv:∀(l:List UInt8) (a k:Nat),(∀c∈l,di c=true)->a < 10 ^ k->l.foldl (fun a c=>10*a+(c.toNat - 48)) a < 10 ^ (k+l.length):=by
     intro l
     induction l with
     | nil=>intro a k _ h;exact h
     | cons x l ih =>intro a k hl h;have hx:=hl x (by simp);unfold di at hx;simp only [Bool.and_eq_true,decide_eq_true_eq] at hx;have:=ih (10*a+(x.toNat - 48)) (k+1) (fun y hy=>hl y (by simp [hy])) (by rw [Nat.pow_succ];omega);rw [List.foldl_cons,List.length_cons];rw [show k+(l.length+1)=k+1+l.length by omega];exact this
    have:=hv t 0 0 hd (by decide);have hl6:t.length<=6:=by have:=fun h6=>hc (Or.inr (Or.inl h6));omega
    have hp:10 ^ (0+t.length)<=10 ^ 6:=Nat.pow_le_pow_right (by omega) (by omega);rw [<-h];unfold ru;omega
   ·obtain ⟨c,r,rfl⟩ : ∃c r,t=c :: r:=by
     cases t with
     | nil=>exact absurd rfl hne
     | cons c r=>exact ⟨c,r,rfl⟩
    rw [<-h];exact JU r c (hd c (by simp)) (hz c r rfl (Or.inr hb)) (fun x hx=>hd x (by simp [hx]))
  ·rw [if_neg ha] at h;cases h
theorem VS (l:List UInt8) (hl:∀c∈l,di c=true) : l.head?≠some 45:=by
 cases l with
 | nil=>simp
 | cons c r =>intro e;rw [List.head?_cons] at e;have:=hl c (by simp);rw [Option.some.inj e] at this;exact absurd this (by decide)
theorem pO (n:Int) (h : -999999<=n/\n<=999999) : bQ (aR n)=some n:=by
 unfold aR;by_cases h0:n < 0
 ·rw [if_pos h0];unfold bQ;rw [if_pos List.head?_cons,List.tail_cons,El n.natAbs true (by omega) (fun _=>by omega)];exact congrArg some (show -((n.natAbs:Nat) : Int)=n by omega)
 ·rw [if_neg h0];unfold bQ;rw [if_neg (VS _ (nE _)),El n.natAbs false (by omega) (fun h=>by cases h)];exact congrArg some (show ((n.natAbs:Nat) : Int)=n by omega)
theorem lS (s:List UInt8) (n:Int) (h:bQ s=some n) : aR n=s/\-999999<=n/\n<=999999:=by
 unfold bQ at h;by_cases hs:s.head? = some 45
 ·rw [if_pos hs] at h;cases s with
  | nil=>cases hs
  | cons c t =>
   rw [List.head?_cons] at hs;have hc:=Option.some.inj hs;subst hc;rw [List.tail_cons] at h;cases hn:nZ t true with
   | none=>rw [hn] at h;cases h
   | some k =>rw [hn] at h;have h' : -(k:Int)=n:=Option.some.inj h;obtain ⟨e1,e2,e3,_⟩:=Em t true k hn;have:=e3 rfl;subst h';unfold aR;rw [if_pos (by omega),Int.natAbs_neg,Int.natAbs_natCast,e1];exact ⟨rfl,by omega,by omega⟩
 ·rw [if_neg hs] at h;cases hn:nZ s false with
  | none=>rw [hn] at h;cases h
  | some k =>rw [hn] at h;have h':(k:Int)=n:=Option.some.inj h;obtain ⟨e1,e2,_,_⟩:=Em s false k hn;subst h';unfold aR;rw [if_neg (by omega),Int.natAbs_natCast,e1];exact ⟨rfl,by omega,by omega⟩
def splitW (c:UInt8) : List UInt8->List (List UInt8)
 | []=>[[]]
 | x :: s=>if x=c then [] :: splitW c s else match splitW c s with
  | []=>[[x]]
  | w :: r=>(x :: w) :: r
def joinW (c:UInt8) : List (List UInt8)->List UInt8
 | []=>[]
 | [w]=>w
 | w :: v :: r=>w ++ c :: joinW c (v :: r)
theorem jw (c:UInt8) (s:List UInt8) : splitW c s≠[]:=by
 cases s with
 | nil=>simp [splitW]
 | cons x s =>
  unfold splitW;split
  ·simp
  ·split<;>simp
theorem rU (c:UInt8) (s:List UInt8) : joinW c (splitW c s)=s:=by
 induction s with
 | nil=>rfl
 | cons x s ih =>
  unfold splitW;by_cases h:x=c
  ·rw [if_pos h];cases hs:splitW c s with
   | nil=>exact absurd hs (jw c s)
   | cons w r =>show [] ++ c :: joinW c (w :: r)=x :: s;rw [<-hs,ih,h];rfl
  ·rw [if_neg h];cases hs:splitW c s with
   | nil=>exact absurd hs (jw c s)
   | cons w r =>
    rw [hs] at ih;show joinW c ((x :: w) :: r)=x :: s;cases r with
    | nil =>show x :: w=x :: s;rw [show w=s from ih]
    | cons v r =>show (x :: w) ++ c :: joinW c (v :: r)=x :: s;rw [List.cons_append];rw [show w ++ c :: joinW c (v :: r)=s from ih]
theorem gB (c:UInt8) (w:List UInt8) (h:c∉w) : splitW c w=[w]:=by
 induction w with
 | nil=>rfl
 | cons x w ih =>unfold splitW;rw [if_neg (fun e=>h (by rw [e];simp)),ih (fun e=>h (by simp [e]))]
theorem gD (c:UInt8) (w s:List UInt8) (h:c∉w) : splitW c (w ++ c :: s)=w :: splitW c s:=by
 induction w with
 | nil =>show splitW c (c :: s)=_;rw [splitW,if_pos rfl]
 | cons x w ih =>show splitW c (x :: (w ++ c :: s))=_;rw [splitW,if_neg (fun e=>h (by rw [e];simp)),ih (fun e=>h (by simp [e]))]
theorem xU (c:UInt8) : ∀ls:List (List UInt8),ls≠[]->(∀w∈ls,c∉w)->splitW c (joinW c ls)=ls:=by
 intro ls
 induction ls with
 | nil=>intro h;exact absurd rfl h
 | cons w r ih =>
  intro _ h;cases r with
  | nil=>exact gB c w (h w (by simp))
  | cons v r =>show splitW c (w ++ c :: joinW c (v :: r))=_;rw [gD c w _ (h w (by simp)),ih (by simp) (fun x hx=>h x (by simp only [List.mem_cons] at hx ⊢;exact Or.inr hx))]
def fB:List UInt8:=[109,111,115,116]
def Eo:List UInt8:=[60,61]
def headW (c:List Int) : List (List UInt8):=fB :: c.map aR
def jQ (r:List Int×Int) : List (List UInt8):=r.1.map aR ++ [Eo,aR r.2]
def Cy (p:Lp) : List (List UInt8):=joinW 32 (headW p.costs) :: (p.rows.map fun r=>joinW 32 (jQ r)) ++ [[]]
def jI (p:Lp) : List UInt8:=joinW 10 (Cy p)
def numsW:List (List UInt8)->Option (List Int)
 | []=>some []
 | w :: r=>match bQ w,numsW r with
  | some n,some l=>some (n :: l)
  | _,_=>none
theorem Ov:∀l:List Int,(∀n∈l,-999999<=n/\n<=999999)->numsW (l.map aR)=some l:=by
 intro l
 induction l with
 | nil=>intro _;rfl
 | cons n l ih =>intro h;rw [List.map_cons,numsW,pO n (h n (by simp)),ih (fun x hx=>h x (by simp [hx]))]
theorem xV:∀(w:List (List UInt8)) (l:List Int),numsW w=some l->w=l.map aR:=by
 intro w
 induction w with
 | nil=>intro l h;rw [<-Option.some.inj h];rfl
 | cons x w ih =>
  intro l h;rw [numsW] at h;cases h1:bQ x with
  | none=>rw [h1] at h;cases h
  | some n =>
   cases h2:numsW w with
   | none=>rw [h1,h2] at h;cases h
   | some r =>rw [h1,h2] at h;have e:n :: r=l:=Option.some.inj h;rw [<-e,List.map_cons,(lS x n h1).1,ih r h2]
def iM (l:List UInt8) : Option (List Int) :=
 match splitW 32 l with
 | []=>none
 | w :: r=>if w=fB then numsW r else none
def rowP (l:List UInt8) : Option (List Int×Int) :=
 if (splitW 32 l).length < 2\/(splitW 32 l)[(splitW 32 l).length - 2]?.getD []≠Eo then none
 else match numsW ((splitW 32 l).take ((splitW 32 l).length - 2)),bQ ((splitW 32 l)[(splitW 32 l).length - 1]?.getD []) with
  | some o,some m=>some (o,m)
  | _,_=>none
def readGo (k:Nat) (p:Lp) : List (List UInt8)->Except Nat Lp
 | []=>.error k
 | [w]=>if w=[]/\p.may=true then .ok p else .error k
 | w :: v :: r=>if k=0 then match iM w with
   | none=>.error k
   | some c=>readGo (k+1) ⟨c,p.rows⟩ (v :: r)
  else match rowP w with
   | none=>.error k
   | some q=>readGo (k+1) ⟨p.costs,p.rows ++ [q]⟩ (v :: r)
def mK (s:List UInt8) : Except Nat Lp:=readGo 0 ⟨[],[]⟩ (splitW 10 s)
theorem Ep (n:Int) (c:UInt8) (h:c∈aR n) : c=45\/di c=true:=by
 unfold aR at h;split at h
 ·rcases List.mem_cons.1 h with h|h
  ·exact Or.inl h
  ·exact Or.inr (nE _ c h)
 ·exact Or.inr (nE _ c h)
theorem tN (n:Int) : (32:UInt8)∉aR n:=fun h=>by
 rcases Ep n 32 h with h|h
 ·exact absurd h (by decide)
 ·exact absurd h (by decide)
theorem LK (r:List Int×Int) (d:UInt8) (hd:d∉Eo) (hn:∀n,d∉aR n) : ∀w∈jQ r,d∉w:=by
 intro w hw;rcases List.mem_append.1 hw with hw|hw
 ·obtain ⟨n,_,rfl⟩:=List.mem_map.1 hw;exact hn n
 ·rcases List.mem_cons.1 hw with hw|hw
  ·rw [hw];exact hd
  ·rw [List.mem_singleton.1 hw];exact hn r.2
theorem Hf (l:List UInt8) (c:List Int) (h:iM l=some c) : l=joinW 32 (headW c):=by
 unfold iM at h;rw [<-rU 32 l];cases hs:splitW 32 l with
 | nil=>rw [hs] at h;cases h
 | cons w r =>
  rw [hs] at h;change (if w=fB then numsW r else none)=some c at h;by_cases hw:w=fB
  ·rw [if_pos hw] at h;rw [hw,xV r c h];rfl
  ·rw [if_neg hw] at h;cases h
theorem Ow (r:List Int×Int) (h:∀n∈r.1,-999999<=n/\n<=999999) (h2 : -999999<=r.2/\r.2<=999999) : rowP (joinW 32 (jQ r))=some r:=by
 unfold rowP;rw [xU 32 _ (by simp [jQ]) (LK r 32 (by decide) tN)];have hl:(jQ r).length=r.1.length+2:=by simp [jQ]
 rw [hl,if_neg]
 ·have e1:(jQ r).take (r.1.length+2 - 2)=r.1.map aR:=by unfold jQ;rw [List.take_append_of_le_length (by simp)];exact List.take_of_length_le (by simp)
  have e2:(jQ r)[r.1.length+2 - 1]?.getD []=aR r.2:=by unfold jQ;rw [List.getElem?_append_right (by simp)];simp
  rw [e1,e2,Ov r.1 h,pO r.2 h2]
 ·rintro (h|h)
  ·omega
  ·refine h ?_;unfold jQ;rw [List.getElem?_append_right (by simp)];simp
theorem AX (l:List UInt8) (r:List Int×Int) (h:rowP l=some r) : l=joinW 32 (jQ r):=by
 unfold rowP at h;rw [<-rU 32 l];generalize splitW 32 l=w at *;by_cases hc:w.length < 2\/w[w.length - 2]?.getD []≠Eo
 ·rw [if_pos hc] at h;cases h
 ·rw [if_neg hc] at h;cases h1:numsW (w.take (w.length - 2)) with
  | none=>rw [h1] at h;cases h
  | some o =>
   cases h2:bQ (w[w.length - 1]?.getD []) with
   | none=>rw [h1,h2] at h;cases h
   | some k =>
    rw [h1,h2] at h;have e:(o,k)=r:=Option.some.inj h;subst e;have hlen:¬ w.length < 2:=fun h=>hc (Or.inl h);have hle:w[w.length - 2]?.getD []=Eo:=Classical.byContradiction fun h=>hc (Or.inr h);have hw:w=jQ (o,k):=by
     have d1:=xV _ _ h1;have d2:=(lS _ _ h2).1;have e0:w=w.take (w.length - 2) ++ w.drop (w.length - 2):=(List.take_append_drop _ _).symm;have e1:w.drop (w.length - 2)=[w[w.length - 2]?.getD [],w[w.length - 1]?.getD []]:=by
      apply List.ext_getElem
      ·simp;omega
      ·intro i g1 g2;simp only [List.length_cons,List.length_nil] at g2;rw [List.getElem_drop]
       match i,g2 with
       | 0,_=>simp only [Nat.add_zero,List.getElem_cons_zero];rw [List.getElem?_eq_getElem (by omega)];rfl
       | 1,_ =>simp only [List.getElem_cons_succ,List.getElem_cons_zero];rw [List.getElem?_eq_getElem (by omega),Option.getD_some];congr 1;omega
     rw [e1,hle,d1,<-d2] at e0;exact e0
    rw [<-hw]
theorem Hg:∀(ls:List (List UInt8)) (k:Nat) (q p:Lp),k≠0->readGo k q ls=.ok p->p.may=true/\p.costs=q.costs/\∃rs,p.rows=q.rows ++ rs/\ls=(rs.map fun r=>joinW 32 (jQ r)) ++ [[]]:=by
 intro ls
 induction ls with
 | nil=>intro k q p _ h;cases h
 | cons w r ih =>
  intro k q p hk h;cases r with
  | nil =>
   change (if w=[]/\q.may=true then Except.ok q else Except.error k)=Except.ok p at h;by_cases hc:w=[]/\q.may=true
   ·rw [if_pos hc] at h;have e:q=p:=Except.ok.inj h;subst e;exact ⟨hc.2,rfl,[],by simp,by rw [hc.1];rfl⟩
   ·rw [if_neg hc] at h;cases h
  | cons v r =>
   rw [readGo,if_neg hk] at h;cases hr:rowP w with
   | none=>rw [hr] at h;cases h
   | some x =>rw [hr] at h;obtain ⟨e0,e1,rs,e2,e3⟩:=ih (k+1) _ p (by omega) h;refine ⟨e0,e1,x :: rs,by rw [e2];simp,?_⟩;rw [e3,List.map_cons,List.cons_append,AX w x hr]
theorem rV (s:List UInt8) (p:Lp) (h:mK s=.ok p) : p.may=true/\jI p=s:=by
 unfold mK at h;unfold jI;have key:splitW 10 s=Cy p/\p.may=true:=by
  generalize splitW 10 s=ls at *;cases ls with
  | nil=>cases h
  | cons w r =>
   cases r with
   | nil =>change (if w=[]/\(Lp.mk [] []).may=true then Except.ok (Lp.mk [] []) else Except.error 0)=Except.ok p at h;rw [if_neg (fun h=>absurd h.2 (by decide))] at h;cases h
   | cons v r =>
    rw [readGo,if_pos rfl] at h;cases hh:iM w with
    | none=>rw [hh] at h;cases h
    | some c =>rw [hh] at h;obtain ⟨e0,e1,rs,e2,e3⟩:=Hg (v :: r) (0+1) ⟨c,[]⟩ p (by omega) h;refine ⟨?_,e0⟩;unfold Cy;rw [e3,e1,e2,Hf w c hh];rfl
 exact ⟨key.2,by rw [<-key.1,rU]⟩
end Num
end Go.Proofs.YtipcbhodlgoflabGreatDoor
