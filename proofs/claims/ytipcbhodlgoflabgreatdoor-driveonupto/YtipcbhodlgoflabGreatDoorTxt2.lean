/- Programs as text, in plain bytes: the library's words (itoa, parseIntB, cut) against ours; how the program reads numbers, a first line and a row. -/
import Derived.Test.YtipcbhodlgoflabGreatDoorTxp
import Derived.Lib.ItoaNum
import Derived.Lib.ParseIntBTie
import Derived.Lib.AtoiTie
import Derived.Lib.IndexMore
import Derived.Lib.Join
namespace Go.Proofs.YtipcbhodlgoflabGreatDoor
namespace Num
theorem pQ (n:Nat) : Lib.decDigits n=iB n:=by
 induction n using Nat.strongRecOn with
 | ind n ih =>
  rw [Lib.decDigits,iB];by_cases h:n < 10
  ·rw [dif_pos h,if_pos h]
  ·rw [dif_neg h,if_neg h,ih (n / 10) (by omega)]
theorem Er (n:Int) : Lib.itoa n=aR n:=by
 unfold Lib.itoa aR;split
 ·rw [pQ]
 ·rw [pQ];congr 1;omega
theorem Sw:∀(l:List UInt8),(∀c∈l,di c=true)->∀a,Lib.decFrom a l=some (l.foldl (fun a c=>10*a+(c.toNat - 48)) a):=by
 intro l
 induction l with
 | nil=>intro _ a;rfl
 | cons c l ih =>intro h a;have hc:=h c (by simp);unfold di at hc;simp only [Bool.and_eq_true,decide_eq_true_eq] at hc;rw [Lib.decFrom,Lib.digitVal,if_pos hc];show Lib.decFrom (a*10+(c.toNat - 48)) l=_;rw [ih (fun x hx=>h x (by simp [hx]))];rw [List.foldl_cons,Nat.mul_comm]
theorem xW (n:Nat) : Lib.decNat (iB n)=some n:=by unfold Lib.decNat;rw [if_neg (by have:=Cx n;simpa using this),Sw _ (nE n)];exact congrArg some (Ej n)
theorem LM (n:Int) (h : -999999<=n/\n<=999999) : Lib.parseIntB 64 (aR n)=.ok n:=by
 have hl:(iB n.natAbs).length<=6:=kv 5 n.natAbs (by omega);rw [Lib.parseIntB_64];unfold aR;by_cases hn:n < 0
 ·rw [if_pos hn,Lib.atoiAll_short _ (by rw [List.length_cons];omega)];show Lib.NumEnd.ofOption ((Lib.decNat (iB n.natAbs)).map fun (m:Nat) => -(m:Int))=_;rw [xW];show Lib.NumEnd.ok (-(n.natAbs:Int))=_;congr 1;omega
 ·rw [if_neg hn,Lib.atoiAll_short _ (by omega)];have e:Lib.atoi (iB n.natAbs)=some (n.natAbs:Int):=by
   have hd:=nE n.natAbs;have hv:=xW n.natAbs;cases hs:iB n.natAbs with
   | nil=>exact absurd hs (Cx _)
   | cons c r =>
    rw [hs] at hd hv;have hc:=hd c (by simp);unfold di at hc;simp only [Bool.and_eq_true,decide_eq_true_eq] at hc;have h45:¬ (c == 45)=true:=fun e=>by
     have e:=eq_of_beq e;subst e;exact absurd hc.1 (by decide)
    have h43:¬ (c == 43)=true:=fun e=>by
     have e:=eq_of_beq e;subst e;exact absurd hc.1 (by decide)
    show (if (c == 45)=true then (Lib.decNat r).map (fun (m:Nat) => -(m:Int)) else if (c == 43)=true then (Lib.decNat r).map (fun (m:Nat)=>(m:Int)) else (Lib.decNat (c :: r)).map fun (m:Nat)=>(m:Int))=_;rw [if_neg h45,if_neg h43,hv];rfl
  rw [e];show Lib.NumEnd.ok (n.natAbs:Int)=_;congr 1;omega
def Sy (w:List UInt8) : Option Int :=
 match Lib.parseIntB 64 w with
 | .ok n=>if (-999999<=n/\n<=999999)/\aR n=w then some n else none
 | _=>none
theorem VT (w:List UInt8) : Sy w=bQ w:=by
 unfold Sy;cases hw:bQ w with
 | some n =>obtain ⟨e,hb⟩:=lS w n hw;rw [<-e,LM n hb];show (if _ then _ else _)=_;rw [if_pos ⟨hb,rfl⟩]
 | none =>
  cases hp:Lib.parseIntB 64 w with
  | ok n =>show (if _ then _ else _)=_;rw [if_neg];rintro ⟨hb,e⟩;have:=pO n hb;rw [e,hw] at this;cases this
  | «syntax» => rfl
  | range=>rfl
theorem Es (s:List UInt8) (c:UInt8) (t:List UInt8) (i:Nat) (h:Lib.occAt s (c :: t) i=true) : s[i]? = some c:=by
 unfold Lib.occAt at h;rw [List.isPrefixOf_iff_prefix] at h;obtain ⟨r,hr⟩:=h;have:(s.drop i)[0]? = some c:=by rw [<-hr];rfl
 rw [List.getElem?_drop] at this;simpa using this
theorem pR (c:UInt8) (s:List UInt8) (h:c∉s) : Lib.cut s [c]=(s,[],false):=by
 have e:Lib.index s [c]=-1:=Lib.index_none fun j hj=>by
  rw [Bool.eq_false_iff];intro ho;have:=Es s c [] j ho;exact h (List.mem_of_getElem? this)
 unfold Lib.cut;rw [e,if_neg (by omega)]
theorem og (c:UInt8) (a b:List UInt8) (h:c∉a) : Lib.cut (a ++ c :: b) [c]=(a,b,true):=by
 have e:Lib.index (a ++ c :: b) [c]=a.length:=Lib.index_first (by simp) (by
   unfold Lib.occAt;rw [List.drop_left];simp) fun j hj=>by
  rw [Bool.eq_false_iff];intro ho;have:=Es _ c [] j ho;rw [List.getElem?_append_left hj] at this;exact h (List.mem_of_getElem? this)
 unfold Lib.cut;rw [e,if_pos (by omega)];simp only [Int.toNat_natCast,List.length_cons,List.length_nil];refine Prod.ext ?_ (Prod.ext ?_ rfl)
 ·show List.take a.length (a ++ c :: b)=a;rw [List.take_left]
 ·show List.drop (a.length+(0+1)) (a ++ c :: b)=b;rw [<-List.drop_drop,List.drop_left];rfl
theorem ib (c:UInt8) : ∀s:List UInt8,c∉s\/∃a b,s=a ++ c :: b/\c∉a:=by
 intro s
 induction s with
 | nil=>exact Or.inl (by simp)
 | cons x s ih =>
  by_cases hx:x=c
  ·exact Or.inr ⟨[],s,by rw [hx];rfl,by simp⟩
  ·rcases ih with h|⟨a,b,e,h⟩
   ·refine Or.inl fun hm=>?_;rcases List.mem_cons.1 hm with hm|hm
    ·exact hx hm.symm
    ·exact h hm
   ·refine Or.inr ⟨x :: a,b,by rw [e];rfl,fun hm=>?_⟩;rcases List.mem_cons.1 hm with hm|hm
    ·exact hx hm.symm
    ·exact h hm
def bu:List UInt8->Option (List Int)
 | []=>some []
 | c :: t=>if c=32 then numsW (splitW 32 t) else none
theorem jR (w:List UInt8) (r:List (List UInt8)) : numsW (w :: r)=(bQ w).bind fun n=>(numsW r).map (n :: ·):=by
 rw [numsW];cases bQ w with
 | none=>rfl
 | some n=>cases numsW r<;>rfl
theorem Cz (t:List UInt8) : bu (32 :: t)=(bQ (Lib.cut t [32]).1).bind fun n=>(bu (t.drop (Lib.cut t [32]).1.length)).map (n :: ·):=by
 show (if (32:UInt8)=32 then numsW (splitW 32 t) else none)=_;rw [if_pos rfl];rcases ib 32 t with h|⟨a,b,rfl,h⟩
 ·rw [pR 32 t h,gB 32 t h,jR];rw [show t.drop t.length=[] from List.drop_length];rfl
 ·rw [og 32 a b h,gD 32 a b h,jR];rw [show (a ++ 32 :: b).drop a.length=32 :: b from List.drop_left];rfl
theorem CE (c:UInt8) (t:List UInt8) (h:c≠32) : bu (c :: t)=none:=by show (if c=32 then _ else _)=_;rw [if_neg h]
def UE (l:List UInt8) : Option (List Int):=if fB.isPrefixOf l=true then bu (l.drop 4) else none
theorem JV:(32:UInt8)∉fB:=by decide
theorem VU (l:List UInt8) : UE l=iM l:=by
 unfold UE;by_cases h:fB.isPrefixOf l=true
 ·rw [if_pos h];rw [List.isPrefixOf_iff_prefix] at h;obtain ⟨t,rfl⟩:=h;rw [show (fB ++ t).drop 4=t from rfl];unfold iM;cases t with
  | nil =>rw [List.append_nil,gB 32 fB JV];rfl
  | cons c t =>
   by_cases hc:c=32
   ·subst hc;rw [gD 32 fB t JV];rfl
   ·rw [CE c t hc];rcases ib 32 (fB ++ c :: t) with hs|⟨a,b,e,hs⟩
    ·rw [gB 32 _ hs];show none=(if fB ++ c :: t=fB then _ else _);rw [if_neg];intro e;have:=congrArg List.length e;simp [fB] at this
    ·rw [e,gD 32 a b hs];show none=(if a=fB then _ else _);rw [if_neg];rintro rfl;have:=congrArg (fun l=>l.drop 4) e;change c :: t=32 :: b at this;exact hc (by injection this)
 ·rw [if_neg h];unfold iM;rcases ib 32 l with hs|⟨a,b,rfl,hs⟩
  ·rw [gB 32 _ hs];show none=(if l=fB then _ else _);rw [if_neg];rintro rfl;exact h (by decide)
  ·rw [gD 32 a b hs];show none=(if a=fB then _ else _);rw [if_neg];rintro rfl;refine h ?_;rw [List.isPrefixOf_iff_prefix];exact ⟨_,rfl⟩
def jb:List UInt8:=[32,60,61,32]
def XR (l:List UInt8) : Option (List Int×Int) :=
 if (Lib.cut (32 :: l) jb).2.2=true then (bu (Lib.cut (32 :: l) jb).1).bind fun o=>(bQ (Lib.cut (32 :: l) jb).2.1).map fun m=>(o,m) else none
def gU (o:List Int) : List UInt8:=(o.map fun n=>32 :: aR n).flatten
theorem jS (n:Int) (o:List Int) : gU (n :: o)=32 :: (aR n ++ gU o):=rfl
theorem Sz:∀(o:List Int),(∀n∈o,-999999<=n/\n<=999999)->bu (gU o)=some o:=by
 intro o
 induction o with
 | nil=>intro _;rfl
 | cons n o ih =>
  intro h;have ih:=ih (fun x hx=>h x (by simp [hx]));rw [jS,Cz];have e:(Lib.cut (aR n ++ gU o) [32]).1=aR n:=by
   cases o with
   | nil =>show (Lib.cut (aR n ++ []) [32]).1=_;rw [List.append_nil,pR 32 _ (tN n)]
   | cons m o=>rw [jS,og 32 _ _ (tN n)]
  rw [e,List.drop_left,ih,pO n (h n (by simp))];rfl
theorem SB:∀(k:Nat) (s:List UInt8) (o:List Int),s.length<=k->bu s=some o->s=gU o:=by
 intro k
 induction k with
 | zero =>intro s o hk h;have:s=[]:=List.length_eq_zero_iff.1 (by omega);subst this;rw [<-Option.some.inj h];rfl
 | succ k ih =>
  intro s o hk h;cases s with
  | nil=>rw [<-Option.some.inj h];rfl
  | cons c t =>
   by_cases hc:c=32
   ·subst hc;rw [Cz] at h;cases h1:bQ (Lib.cut t [32]).1 with
    | none=>rw [h1] at h;cases h
    | some n =>
     cases h2:bu (t.drop (Lib.cut t [32]).1.length) with
     | none=>rw [h1,h2] at h;cases h
     | some r =>
      rw [h1,h2] at h;have e:n :: r=o:=Option.some.inj h;subst e;rw [List.length_cons] at hk;have e2:=ih _ r (by rw [List.length_drop];omega) h2;have e1:=(lS _ n h1).1;rw [jS,e1,<-e2];congr 1;rcases ib 32 t with h|⟨a,b,rfl,h⟩
      ·rw [pR 32 t h,List.drop_length,List.append_nil]
      ·rw [og 32 a b h,List.drop_left]
   ·rw [CE c t hc] at h;cases h
theorem AY (s:List UInt8) (o:List Int) (h:bu s=some o) : ∀n∈o,-999999<=n/\n<=999999:=by
 have key:∀(w:List (List UInt8)) (o:List Int),numsW w=some o->∀n∈o,-999999<=n/\n<=999999:=by
  intro w
  induction w with
  | nil=>intro o h;rw [<-Option.some.inj h];intro n hn;cases hn
  | cons x w ih =>
   intro o h;rw [jR] at h;cases h1:bQ x with
   | none=>rw [h1] at h;cases h
   | some n =>
    cases h2:numsW w with
    | none=>rw [h1,h2] at h;cases h
    | some r =>
     rw [h1,h2] at h;have e:n :: r=o:=Option.some.inj h;subst e;intro m hm;rcases List.mem_cons.1 hm with hm|hm
     ·rw [hm];exact (lS x n h1).2
     ·exact ih r h2 m hm
 cases s with
 | nil=>rw [<-Option.some.inj h];intro n hn;cases hn
 | cons c t =>
  by_cases hc:c=32
  ·subst hc;exact key _ o h
  ·rw [CE c t hc] at h;cases h
theorem LP:∀(o:List Int) (x:List UInt8) (r:List (List UInt8)),32 :: joinW 32 (o.map aR ++ x :: r)=gU o ++ 32 :: joinW 32 (x :: r):=by
 intro o
 induction o with
 | nil=>intro x r;rfl
 | cons n o ih =>
  intro x r;rw [List.map_cons,List.cons_append,jS];cases hs:o.map aR ++ x :: r with
  | nil=>simp at hs
  | cons v q =>show 32 :: (aR n ++ 32 :: joinW 32 (v :: q))=_;rw [<-hs,ih x r];simp
theorem Et (o:List Int) (m:Int) : 32 :: joinW 32 (jQ (o,m))=gU o ++ jb ++ aR m:=by show 32 :: joinW 32 (o.map aR ++ Eo :: [aR m])=_;rw [LP];rw [List.append_assoc];rfl
theorem LQ:∀(o:List Int) (c:UInt8),c∈gU o->c≠60:=by
 intro o
 induction o with
 | nil=>intro c h;cases h
 | cons n o ih =>
  intro c h;rw [jS] at h;rcases List.mem_cons.1 h with h|h
  ·rw [h];decide
  ·rcases List.mem_append.1 h with h|h
   ·rcases Ep n c h with h|h
    ·rw [h];decide
    ·rintro rfl;exact absurd h (by decide)
   ·exact ih c h
theorem SF (o:List Int) (b:List UInt8) : Lib.cut (gU o ++ jb ++ b) jb=(gU o,b,true):=by
 have e:Lib.index (gU o ++ jb ++ b) jb=(gU o).length:=Lib.index_first (by simp) (by
   unfold Lib.occAt;rw [List.append_assoc,List.drop_left,List.isPrefixOf_iff_prefix];exact ⟨b,rfl⟩) fun j hj=>by
  rw [Bool.eq_false_iff];intro ho;unfold Lib.occAt at ho;rw [List.isPrefixOf_iff_prefix] at ho;obtain ⟨r,hr⟩:=ho;have h1:(gU o ++ jb ++ b)[j+1]? = some 60:=by
   have:((gU o ++ jb ++ b).drop j)[1]? = some 60:=by rw [<-hr];rfl
   rw [List.getElem?_drop] at this;exact this
  by_cases hj1:j+1 < (gU o).length
  ·rw [List.append_assoc,List.getElem?_append_left hj1] at h1;exact LQ o 60 (List.mem_of_getElem? h1) rfl
  ·have:j+1=(gU o).length:=by omega
   rw [List.append_assoc,this,List.getElem?_append_right (by omega),Nat.sub_self] at h1;have h2:(32:UInt8)=60:=Option.some.inj h1;exact absurd h2 (by decide)
 unfold Lib.cut;rw [e,if_pos (by omega)];simp only [Int.toNat_natCast];refine Prod.ext ?_ (Prod.ext ?_ rfl)
 ·show List.take (gU o).length (gU o ++ jb ++ b)=_;rw [List.append_assoc,List.take_left]
 ·show List.drop ((gU o).length+jb.length) (gU o ++ jb ++ b)=_;rw [<-List.length_append,List.drop_left]
theorem XT (l:List UInt8) : XR l=rowP l:=by
 unfold XR;cases hp:rowP l with
 | some r =>
  obtain ⟨o,m⟩:=r;have hl:=AX l (o,m) hp;have hb:(∀n∈o,-999999<=n/\n<=999999)/\-999999<=m/\m<=999999:=by
   unfold rowP at hp;split at hp
   ·cases hp
   ·cases h1:numsW ((splitW 32 l).take ((splitW 32 l).length - 2)) with
    | none=>rw [h1] at hp;cases hp
    | some o' =>
     cases h2:bQ ((splitW 32 l)[(splitW 32 l).length - 1]?.getD []) with
     | none=>rw [h1,h2] at hp;cases hp
     | some m' =>
      rw [h1,h2] at hp;have e:(o',m')=(o,m):=Option.some.inj hp;have e1:o'=o:=congrArg Prod.fst e;have e2:m'=m:=congrArg Prod.snd e;subst e1 e2;refine ⟨?_,(lS _ _ h2).2⟩;have:bu (32 :: joinW 32 ((splitW 32 l).take ((splitW 32 l).length - 2)))=some o'\/(splitW 32 l).take ((splitW 32 l).length - 2)=[]:=by
       by_cases hn:(splitW 32 l).take ((splitW 32 l).length - 2)=[]
       ·exact Or.inr hn
       ·refine Or.inl ?_;show (if (32:UInt8)=32 then numsW (splitW 32 _) else none)=_;rw [if_pos rfl,xU 32 _ hn (fun w hw=>?_),h1];have e:=xV _ _ h1;rw [e] at hw;obtain ⟨n,_,rfl⟩:=List.mem_map.1 hw;exact tN n
      rcases this with h|h
      ·exact AY _ _ h
      ·rw [h] at h1;rw [<-Option.some.inj h1];intro n hn;cases hn
  rw [hl,Et,SF];show (if true=true then (bu (gU o)).bind (fun o=>(bQ (aR m)).map fun m=>(o,m)) else none)=_;rw [if_pos rfl,Sz o hb.1,pO m hb.2];rfl
 | none =>
  by_cases hc:(Lib.cut (32 :: l) jb).2.2=true
  ·rw [if_pos hc];cases h1:bu (Lib.cut (32 :: l) jb).1 with
   | none=>rfl
   | some o =>
    cases h2:bQ (Lib.cut (32 :: l) jb).2.1 with
    | none=>rfl
    | some m =>
     exfalso;have hw:=AY _ _ h1;have e1:=SB _ _ o (Nat.le_refl _) h1;have e2:=lS _ m h2;have e3:32 :: l=(Lib.cut (32 :: l) jb).1 ++ jb ++ (Lib.cut (32 :: l) jb).2.1:=by
      generalize 32 :: l=s at *;rcases Lib.index_spec s jb with ⟨hi,_⟩|⟨i,hi,hle,ho,_⟩
      ·unfold Lib.cut at hc;rw [hi,if_neg (by omega)] at hc;cases hc
      ·unfold Lib.cut;rw [hi,if_pos (by omega)];unfold Lib.occAt at ho;rw [List.isPrefixOf_iff_prefix] at ho;obtain ⟨r,hr⟩:=ho;simp only [Int.toNat_natCast];rw [<-List.drop_drop,<-hr,List.drop_left,List.append_assoc,hr,List.take_append_drop]
     rw [e1,<-e2.1,<-Et] at e3;have e4:l=joinW 32 (jQ (o,m)):=by injection e3
     have:=Ow (o,m) hw e2.2;rw [<-e4,hp] at this;cases this
  ·rw [if_neg hc]
theorem SG (k:Nat) (p:Lp) (s:List UInt8) (h0:s≠[]) (h:(10:UInt8)∉s) : readGo k p (splitW 10 s)=.error k:=by rw [gB 10 s h];show (if s=[]/\p.may=true then Except.ok p else Except.error k)=_;rw [if_neg (fun h=>h0 h.1)]
theorem Ox (k:Nat) (p:Lp) : readGo k p (splitW 10 [])=if p.may=true then .ok p else .error k:=by
 show (if ([] : List UInt8)=[]/\p.may=true then Except.ok p else Except.error k)=_;by_cases h:p.may=true
 ·rw [if_pos ⟨rfl,h⟩,if_pos h]
 ·rw [if_neg (fun x=>h x.2),if_neg h]
theorem SH (k:Nat) (p:Lp) (a b:List UInt8) (h:(10:UInt8)∉a) : readGo k p (splitW 10 (a ++ 10 :: b)) =
  if k=0 then match iM a with
   | none=>.error k
   | some c=>readGo (k+1) ⟨c,p.rows⟩ (splitW 10 b)
  else match rowP a with
   | none=>.error k
   | some q=>readGo (k+1) ⟨p.costs,p.rows ++ [q]⟩ (splitW 10 b):=by
 rw [gD 10 a b h];cases hs:splitW 10 b with
 | nil=>exact absurd hs (jw 10 b)
 | cons v r=>rfl
def gY (p:Lp) : Lp:=⟨p.costs.take 5,(p.rows.take 5).map fun r=>(r.1.take 5,r.2)⟩
theorem mM (m:Int) (l:List Int) : aB m l=true<->∀n∈l,-m<=n/\n<=m:=by unfold aB;rw [List.all_eq_true];simp only [Bool.and_eq_true,decide_eq_true_eq]
theorem xX (p:Lp) (h:p.may=true) : gY p=p:=by
 obtain ⟨h1,h2,h3,h4⟩:=p.aj h;cases p with
 | mk c r =>unfold gY;simp only at h1 h2 h3 h4 ⊢;rw [List.take_of_length_le (by omega),List.take_of_length_le (by omega)];congr 1;refine List.ext_getElem (by simp) fun i g1 g2=>?_;rw [List.getElem_map];have:=List.all_eq_true.1 h4 r[i] (List.getElem_mem g2);unfold iL at this;simp only [Bool.and_eq_true,beq_iff_eq] at this;rw [List.take_of_length_le (by omega)]
theorem JW (p:Lp) : (gY p).may=p.may:=by
 cases h:p.may with
 | true=>rw [xX p h,h]
 | false =>
  rw [Bool.eq_false_iff] at h ⊢;intro hc;refine h ?_;have e:gY p=p:=by
   obtain ⟨h1,h2,h3,h4⟩:=(gY p).aj hc;cases p with
   | mk c r =>
    unfold gY at h1 h2 h3 h4 ⊢;simp only [List.length_take,List.length_map] at h1 h2 h3 h4 ⊢;have hc:c.length<=4:=by omega
    have hr:r.length<=4:=by omega
    rw [List.take_of_length_le (by omega),List.take_of_length_le (by omega)];rw [List.take_of_length_le (l:=r) (by omega)] at h4;congr 1;refine List.ext_getElem (by simp) fun i g1 g2=>?_;rw [List.getElem_map];have:=List.all_eq_true.1 h4 (r[i].1.take 5,r[i].2) (List.mem_map.2 ⟨r[i],List.getElem_mem g2,rfl⟩);unfold iL at this;simp only [Bool.and_eq_true,beq_iff_eq,List.length_take] at this;rw [List.take_of_length_le (by omega)]
  rw [e] at hc;exact hc
theorem Oy (c:List Int) (rs:List (List Int×Int)) (q:List Int×Int) : gY ⟨c,rs ++ [q]⟩=if rs.length<=4 then ⟨(gY ⟨c,rs⟩).costs,(gY ⟨c,rs⟩).rows ++ [(q.1.take 5,q.2)]⟩ else gY ⟨c,rs⟩:=by
 unfold gY;by_cases h:rs.length<=4
 ·rw [if_pos h];simp only;rw [List.take_of_length_le (l:=rs ++ [q]) (by rw [List.length_append,List.length_singleton];omega),List.take_of_length_le (l:=rs) (by omega),List.map_append];rfl
 ·rw [if_neg h];simp only;rw [List.take_append_of_le_length (by omega)]
theorem oO (p:Lp) : (gY p).rows.length=min 5 p.rows.length:=by unfold gY;simp
theorem AZ:∀(ls:List (List UInt8)),Lib.join ls [32]=joinW 32 ls:=by
 intro ls
 induction ls with
 | nil=>rfl
 | cons w r ih =>
  cases r with
  | nil=>rw [Lib.join_one];rfl
  | cons v r =>show _=w ++ 32 :: joinW 32 (v :: r);rw [<-ih,Lib.join_cons,Lib.join_cons];show w ++ (([32] ++ v) ++ (r.map ([32] ++ ·)).flatten)=_;simp [Lib.joinTail]
theorem VV:∀(ls:List (List UInt8)),joinW 10 (ls ++ [[]])=(ls.map (· ++ [10])).flatten:=by
 intro ls
 induction ls with
 | nil=>rfl
 | cons w r ih =>
  cases hs:r ++ [[]] with
  | nil=>simp at hs
  | cons v q =>rw [List.cons_append,hs];show w ++ 10 :: joinW 10 (v :: q)=_;rw [<-hs,ih];simp
theorem Hl (p:Lp) : jI p=(joinW 32 (headW p.costs) ++ [10]) ++ (p.rows.map fun r=>joinW 32 (jQ r) ++ [10]).flatten:=by unfold jI Cy;rw [VV,List.map_cons,List.flatten_cons,List.map_map];rfl
theorem LU (c:List Int) : joinW 32 (headW c)=fB ++ gU c:=by
 unfold headW;have:∀(c:List Int) (w:List UInt8),joinW 32 (w :: c.map aR)=w ++ gU c:=by
  intro c
  induction c with
  | nil=>intro w;exact (List.append_nil w).symm
  | cons n c ih =>intro w;show w ++ 32 :: joinW 32 (aR n :: c.map aR)=_;rw [ih,jS]
 exact this c fB
def JX (o:List Int) : List UInt8:=(o.map fun n=>aR n ++ [32]).flatten
theorem Oz:∀(o:List Int) (m:Int),joinW 32 (jQ (o,m))=JX o ++ (Eo ++ 32 :: aR m):=by
 intro o m;show joinW 32 (o.map aR ++ [Eo,aR m])=_
 induction o with
 | nil=>rfl
 | cons n o ih =>
  cases hs:o.map aR ++ [Eo,aR m] with
  | nil=>simp at hs
  | cons v q =>rw [List.map_cons,List.cons_append,hs];show aR n ++ 32 :: joinW 32 (v :: q)=_;rw [<-hs,ih];show _=(aR n ++ [32] ++ JX o) ++ _;simp
end Num
end Go.Proofs.YtipcbhodlgoflabGreatDoor
