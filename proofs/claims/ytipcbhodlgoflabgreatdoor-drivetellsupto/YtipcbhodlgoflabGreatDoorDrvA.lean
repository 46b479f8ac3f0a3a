/- Scripts in plain bytes: what each line is answered, and that a script's answer begins with that of its beginning. -/
import Derived.Test.YtipcbhodlgoflabGreatDoorPlnB
import Derived.Test.YtipcbhodlgoflabGreatDoorSwpB
import Derived.Test.YtipcbhodlgoflabGreatDoorTxp
import Derived.Test.YtipcbhodlgoflabGreatDoorWlkC
import Derived.Test.YtipcbhodlgoflabGreatDoorTxt2
namespace Go.Proofs.YtipcbhodlgoflabGreatDoor
namespace Num
theorem Um (p:Lp) (a b:pK) (ha:holds p a=true) (hb:holds p b=true) : a.kind=b.kind/\(a.kind=1->a.wn=b.wn/\a.wd=b.wd):=by
 have hk:a.kind=b.kind:=(wN p a ha).trans (wN p b hb).symm;refine ⟨hk,fun h1=>?_⟩;cases hm:p.may with
 | false=>rw [qb p a hm] at ha;cases ha
 | true =>
  rw [lY p a hm h1,Bool.and_eq_true] at ha;rw [lY p b hm (hk ▸ h1),Bool.and_eq_true] at hb;have A:=ha.2;have B:=hb.2;have A':=A;have B':=B;unfold uo at A' B';simp only [Bool.and_eq_true,decide_eq_true_eq] at A' B';obtain ⟨⟨⟨a1,_⟩,a3⟩,_⟩:=A';obtain ⟨⟨⟨b1,_⟩,b3⟩,_⟩:=B';obtain ⟨_,ad,_,_,_,am,_⟩:=uq _ _ _ _ a3;obtain ⟨_,bd,_,_,_,bm,_⟩:=uq _ _ _ _ b3;rcases Kj p a A b.x b.xd b1 _ _ _ b3 with h|⟨_,h,_⟩
  ·cases h
  ·rcases Kj p b B a.x a.xd a1 _ _ _ a3 with h'|⟨_,h',_⟩
   ·cases h'
   ·exact yP a.wn a.wd b.wn b.wd am bm (by omega)
def bg (n d:Int) : List UInt8:=aR n ++ 47 :: aR d
def dC (word:List UInt8) (n:Int) : List UInt8:=word ++ 32 :: aR n
def qJ:List UInt8:=[98,101,115,116]
def mr:List UInt8:=[101,110,100,108,101,115,115]
def qK:List UInt8:=[110,111,116,104,105,110,103]
def iK:List UInt8:=[98,97,100]
def xu:List UInt8:=[111,107]
def BU:List UInt8:=[103,111,101,115]
def Nu:List UInt8:=[110,111,116]
def kJ:List UInt8:=[110,111,110,101]
def iw:List UInt8:=[102,114,101,115,104]
def jL:List UInt8:=[116,97,107,101]
def eX:List UInt8:=[115,111,108,118,101]
def gW:List UInt8:=[115,104,111,119]
def lookW:List UInt8:=[108,111,111,107]
def fZ:List UInt8:=[119,97,108,107]
def gH:List UInt8:=[115,119,101,101,112]
def zK (a:pK) : List UInt8:=if a.kind=1 then qJ ++ 32 :: bg a.wn a.wd else if a.kind=2 then mr else qK
open Classical in
noncomputable def jg (p:Lp) : List UInt8:=if h:∃a,holds p a=true then zK h.choose else qK
theorem zL (p:Lp) (a:pK) (h:holds p a=true) : jg p=zK a:=by
 have hx:∃a,holds p a=true:=⟨a,h⟩;unfold jg;rw [dif_pos hx];obtain ⟨h1,h2⟩:=Um p hx.choose a hx.choose_spec h;unfold zK;rw [h1];by_cases k:a.kind=1
 ·obtain ⟨e1,e2⟩:=h2 (h1.trans k);rw [if_pos k,if_pos k,e1,e2]
 ·rw [if_neg k,if_neg k]
structure Pl where
 text:List UInt8
 prog:Option Lp
structure Ask where
 tell:Lp->List UInt8->List Int->List UInt8
def aS (K:Ask) (g:Pl) (s:List UInt8) : Pl×List UInt8 :=
 if s.take 2=[61,32] then (⟨g.text ++ s.drop 2 ++ [10],g.prog⟩,dC xu (g.text ++ s.drop 2 ++ [10]).length)
 else if s=iw then (⟨[],g.prog⟩,xu)
 else if s=jL then match mK g.text with
  | .error k=>(g,dC iK k)
  | .ok p=>(⟨g.text,some p⟩,dC xu p.rows.length)
 else match numsW ((splitW 32 s).drop 1) with
  | none=>(g,[63])
  | some l =>
   if s≠eX/\s≠gW/\(splitW 32 s)[0]?.getD []≠lookW/\(splitW 32 s)[0]?.getD []≠fZ/\(splitW 32 s)[0]?.getD []≠gH then (g,[63])
   else match g.prog with
    | none=>(g,kJ)
    | some p=>(g,K.tell p ((splitW 32 s)[0]?.getD []) l)
def gX (K:Ask) : Pl->List (List UInt8)->List UInt8
 | _,[]=>[]
 | g,s :: r=>(aS K g s).2 ++ 10 :: gX K (aS K g s).1 r
def dR (s:List UInt8) : List (List UInt8):=if (splitW 10 s).getLast? = some [] then (splitW 10 s).dropLast else splitW 10 s
def jM (K:Ask) (s:List UInt8) : List UInt8:=gX K ⟨[],none⟩ ((dR s).take 60)
theorem GA (K:Ask) : ∀(a b:List (List UInt8)) (g:Pl),∃t,gX K g (a ++ b)=gX K g a ++ t:=by
 intro a
 induction a with
 | nil=>intro b g;exact ⟨gX K g b,rfl⟩
 | cons s r ih =>intro b g;obtain ⟨t,ht⟩:=ih b (aS K g s).1;refine ⟨t,?_⟩;show (aS K g s).2 ++ 10 :: gX K (aS K g s).1 (r ++ b)=((aS K g s).2 ++ 10 :: gX K (aS K g s).1 r) ++ t;rw [ht];simp
theorem BV (c:UInt8) : ∀(a b:List UInt8),splitW c (a ++ c :: b)=splitW c a ++ splitW c b:=by
 intro a
 induction a with
 | nil =>intro b;show splitW c (c :: b)=[[]] ++ splitW c b;rw [splitW,if_pos rfl];rfl
 | cons x a ih =>
  intro b;show splitW c (x :: (a ++ c :: b))=splitW c (x :: a) ++ splitW c b;rw [splitW,splitW,ih b];by_cases h:x=c
  ·rw [if_pos h,if_pos h];rfl
  ·rw [if_neg h,if_neg h];cases hs:splitW c a with
   | nil=>exact absurd hs (jw c a)
   | cons w r=>rfl
theorem Jl (a:List UInt8) : dR (a ++ [10])=splitW 10 a:=by unfold dR;rw [BV 10 a [],show splitW 10 []=[[]] from rfl];rw [if_pos (by simp),List.dropLast_concat]
theorem Jm (a b:List UInt8) : ∃r,dR (a ++ 10 :: b)=dR (a ++ [10]) ++ r:=by
 rw [Jl];unfold dR;rw [BV 10 a b];split
 ·exact ⟨(splitW 10 b).dropLast,List.dropLast_append_of_ne_nil (jw 10 b)⟩
 ·exact ⟨splitW 10 b,rfl⟩
theorem Un (K:Ask) (a b:List UInt8) : ∃t,jM K (a ++ 10 :: b)=jM K (a ++ [10]) ++ t:=by
 obtain ⟨r,hr⟩:=Jm a b;unfold jM;rw [hr];by_cases h:60<=(dR (a ++ [10])).length
 ·rw [List.take_append_of_le_length h];exact ⟨[],(List.append_nil _).symm⟩
 ·rw [List.take_append,List.take_of_length_le (by omega:(dR (a ++ [10])).length<=60)];exact GA K _ _ _
def jD (p:Lp) (at':List Int) : List UInt8 :=
 if (look p at').err≠0 then dC iK (look p at').err
 else (if bO (look p at').x=true then Nu else BU) ++ 32 :: bg (mk (dotN p.costs (look p at').x p.costs.length) (look p at').xd).1 (mk (dotN p.costs (look p at').x p.costs.length) (look p at').xd).2.1
def uO (l:List (List Int)) (k er:Int) : List UInt8:=if er≠0 then dC iK er else dC (if k=1 then qJ else mr) l.length
open Classical in
noncomputable def jm (p:Lp) (at':List Int) : List UInt8 :=
 if h:∃x:List (List Int)×Int×Int,ik p at' x.1 x.2.1 x.2.2 then uO h.choose.1 h.choose.2.1 h.choose.2.2 else []
theorem vY {p:Lp} {at':List Int} {l:List (List Int)} {k er:Int} (h:ik p at' l k er) : jm p at'=uO l k er:=by have hx:∃x:List (List Int)×Int×Int,ik p at' x.1 x.2.1 x.2.2:=⟨(l,k,er),h⟩;unfold jm;rw [dif_pos hx];obtain ⟨h1,h2,h3⟩:=IU hx.choose_spec h;rw [h1,h2,h3]
def qL:List Pc->List UInt8
 | []=>[]
 | x :: r=>32 :: (bg x.bn x.bd ++ 32 :: (bg x.sn x.sd ++ qL r))
theorem Ra (l:List Pc) (x:Pc) : qL (l ++ [x])=qL l ++ 32 :: (bg x.bn x.bd ++ 32 :: bg x.sn x.sd):=by
 induction l with
 | nil=>simp [qL]
 | cons y l ih=>simp [qL,ih]
noncomputable def eG (p:Lp) (b:List Int) : List Pc:=nC p b p.rows.length p.costs.length
open Classical in
noncomputable def eH (p:Lp) (b:List Int) : List UInt8 :=
 if (aD p b).may=false then dC iK 1
 else if ¬ ∃a,Good p a p.rows.length p.costs.length then dC iK 4
 else aR (eG p b).length ++ qL (eG p b)
noncomputable def iU (p:Lp) (word:List UInt8) (l:List Int) : List UInt8 :=
 if word=eX then jg p else if word=gW then aR (jI p).length else if word=lookW then jD p l else if word=fZ then jm p l else eH p l
noncomputable def bC:Ask:=⟨iU⟩
theorem sZ {l:List Int} (h:l.length<=5) : l.take 5=l:=List.take_of_length_le h
theorem Jn (l:List Int) (m N:Nat) (h:l.length≠m) : aH l m N=false:=by unfold aH;rw [beq_eq_false_iff_ne.2 h];rfl
theorem vZ (p:Lp) (l:List Int) (hm:p.may=true) (h:4 < l.length) : look p l=iH 3 :=
 jX p l hm (Jn l _ _ (by have:=(p.aj hm).2.2.1.2;omega))
theorem Nv (p:Lp) (l:List Int) (hm:p.may=true) : look p (l.take 5)=look p l:=by
 by_cases h:l.length<=5
 ·rw [sZ h]
 ·rw [vZ p l hm (by omega),vZ p (l.take 5) hm (by rw [List.length_take];omega)]
theorem Jo (p:Lp) (l:List Int) (hm:p.may=true) : jD p (l.take 5)=jD p l:=by unfold jD;rw [Nv p l hm]
theorem BX (p:Lp) (l:List Int) (hm:p.may=true) (h:4 < l.length) : jm p l=dC iK 3:=by have e:=vZ p l hm h;have hw:ik p l [] 0 3:=Or.inl ⟨by omega,rfl,rfl,by unfold cz;rw [e];rfl⟩;rw [vY hw];rfl
theorem Jp (p:Lp) (l:List Int) (hm:p.may=true) : jm p (l.take 5)=jm p l:=by
 by_cases h:l.length<=5
 ·rw [sZ h]
 ·rw [BX p l hm (by omega),BX p (l.take 5) hm (by rw [List.length_take];omega)]
theorem zM (p:Lp) (l:List Int) (h:4 < l.length) : (aD p l).may=false:=by
 cases hm:(aD p l).may with
 | false=>rfl
 | true=>have:=((aD p l).aj hm).1.2;exact absurd this (by show ¬ l.length<=4;omega)
theorem GG (p:Lp) (l:List Int) : eH p (l.take 5)=eH p l:=by
 by_cases h:l.length<=5
 ·rw [sZ h]
 ·unfold eH;rw [if_pos (zM p _ (by rw [List.length_take];omega)),if_pos (zM p l (by omega))]
theorem GH {p:Lp} {at':List Int} {l:List (List Int)} {k:Int} (h:ik p at' l k 0) : k=1\/k=2:=by
 rcases h with ⟨h0,_⟩|⟨_,hm,K,_,_,_,h4,h5⟩
 ·exact absurd rfl h0
 ·rcases jd p (l[K]?.getD []) p.rows.length p.costs.length hm rfl rfl with ⟨e,he,h1,_⟩|⟨_,⟨k',_,hk,h1⟩|⟨nx,s,k',h1,_⟩⟩
  ·rw [h4] at h1;simp only [Prod.mk.injEq,true_and] at h1;omega
  ·rw [h4] at h1;simp only [Prod.mk.injEq,and_true,true_and] at h1;omega
  ·rw [h4] at h1;simp only [Prod.mk.injEq,and_true] at h1;omega
theorem zN (n d:Int) : (-1073741824<=(mk n d).1/\(mk n d).1<=1073741824)/\(-1073741824<=(mk n d).2.1/\(mk n d).2.1<=1073741824):=by
 by_cases h:(mk n d).2.2=0
 ·have:=uq n d (mk n d).1 (mk n d).2.1 (by rw [<-h]);omega
 ·have h0:(low d [n]).2≠0:=by intro e;apply h;unfold mk;rw [if_pos e]
  unfold mk;rw [if_neg h0];simp
theorem zO (n d:Int) (h:bZ d [n]=true) : (-1073741824<=n/\n<=1073741824)/\(-1073741824<=d/\d<=1073741824):=by unfold bZ at h;rw [aW,aW] at h;simp only [Bool.and_eq_true,decide_eq_true_eq] at h;omega
theorem oK (p:Lp) (b:List Int) (hm:p.may=true) (hb:(aD p b).may=true) (y:Pc) (hy:y∈eG p b) :
  ((-1073741824<=y.bn/\y.bn<=1073741824)/\(-1073741824<=y.bd/\y.bd<=1073741824))/\((-1073741824<=y.sn/\y.sn<=1073741824)/\(-1073741824<=y.sd/\y.sd<=1073741824)):=by
 have hlen:b.length=p.costs.length:=by have h1:=(p.aj hm).2.2;have h2:=((aD p b).aj hb).2.2;have h0:0 < p.rows.length:=h1.1.1;have r1:=List.all_eq_true.1 h1.2 p.rows[0] (List.getElem_mem _);have r2:=List.all_eq_true.1 h2.2 p.rows[0] (List.getElem_mem _);unfold iL at r1 r2;simp only [Bool.and_eq_true,beq_iff_eq] at r1 r2;exact r2.1.1.symm.trans r1.1.1
 have cx:Ctx p b p.rows.length p.costs.length:=⟨rfl,rfl,hlen,hm,hb⟩;obtain ⟨h1,h2,_⟩:=Canon.nums cx (mU cx _) y (Jj _ _ _ _ _ hy);exact ⟨zO _ _ h1,zO _ _ h2⟩
theorem qM (p:Lp) (a:pK) (h:holds p a=true) (h1:a.kind=1) : (-1073741824<=a.wn/\a.wn<=1073741824)/\(-1073741824<=a.wd/\a.wd<=1073741824):=by
 cases hm:p.may with
 | false=>rw [qb p a hm] at h;cases h
 | true =>rw [lY p a hm h1,Bool.and_eq_true] at h;have A:=h.2;unfold uo at A;simp only [Bool.and_eq_true,decide_eq_true_eq] at A;obtain ⟨⟨⟨_,_⟩,a3⟩,_⟩:=A;have:=uq _ _ _ _ a3;omega
theorem gL (n d:Int) (hn : -1073741824<=n/\n<=1073741824) (hd : -1073741824<=d/\d<=1073741824) : (bg n d).length<=23:=by have h1:=kv 9 n.natAbs (by omega);have h2:=kv 9 d.natAbs (by omega);unfold bg aR;rw [List.length_append,List.length_cons];split<;>split<;>(try rw [List.length_cons])<;>(try rw [List.length_cons])<;>omega
theorem GI (K:Ask) (g:Pl) (more:List UInt8) : aS K g (61 :: 32 :: more)=(⟨g.text ++ more ++ [10],g.prog⟩,dC xu (g.text ++ more ++ [10]).length):=by unfold aS;rw [if_pos (show List.take 2 (61 :: 32 :: more)=[61,32] from rfl)];rfl
theorem zP (K:Ask) (g:Pl) : aS K g iw=(⟨[],g.prog⟩,xu):=by unfold aS;rw [if_neg (by decide),if_pos rfl]
theorem Jq (g:Pl) : aS bC g eX=(g,match g.prog with|none=>kJ|some p=>jg p):=by
 unfold aS;rw [if_neg (by decide),if_neg (by decide),if_neg (by decide)];have e:numsW ((splitW 32 eX).drop 1)=some []:=by decide
 rw [e];dsimp only;rw [if_neg (by simp)];cases g.prog with
 | none=>rfl
 | some p =>
  show (g,iU p ((splitW 32 eX)[0]?.getD []) [])=_;have e2:(splitW 32 eX)[0]?.getD []=eX:=by decide
  rw [e2];unfold iU;rw [if_pos rfl]
theorem Nw (g:Pl) : aS bC g gW=(g,match g.prog with|none=>kJ|some p=>aR (jI p).length):=by
 unfold aS;rw [if_neg (by decide),if_neg (by decide),if_neg (by decide)];have e:numsW ((splitW 32 gW).drop 1)=some []:=by decide
 rw [e];dsimp only;rw [if_neg (by simp)];cases g.prog with
 | none=>rfl
 | some p =>
  show (g,iU p ((splitW 32 gW)[0]?.getD []) [])=_;have e2:(splitW 32 gW)[0]?.getD []=gW:=by decide
  rw [e2];unfold iU;rw [if_neg (by decide),if_pos rfl]
theorem tq (s:List UInt8) : (splitW 32 s)[0]?.getD []=(Lib.cut s [32]).1/\numsW ((splitW 32 s).drop 1)=bu (s.drop (Lib.cut s [32]).1.length)/\(Lib.cut s [32]).1.length<=s.length:=by
 rcases ib 32 s with h|⟨a,b,rfl,h⟩
 ·rw [pR 32 s h,gB 32 s h];refine ⟨rfl,?_,Nat.le_refl _⟩;rw [List.drop_length];rfl
 ·rw [og 32 a b h,gD 32 a b h];refine ⟨rfl,?_,by simp⟩;rw [List.drop_left];rfl
theorem nS (K:Ask) (g:Pl) (s:List UInt8) (h1:s.take 2≠[61,32]) (h2:s≠iw) (h3:s≠jL) (h4:s≠eX) (h5:s≠gW)
  (h:bu (s.drop (Lib.cut s [32]).1.length)=none\/((Lib.cut s [32]).1≠lookW/\(Lib.cut s [32]).1≠fZ/\(Lib.cut s [32]).1≠gH)) : aS K g s=(g,[63]):=by
 obtain ⟨e1,e2,_⟩:=tq s;unfold aS;rw [if_neg h1,if_neg h2,if_neg h3,e2,e1];rcases h with h|h
 ·rw [h]
 ·cases bu (s.drop (Lib.cut s [32]).1.length) with
  | none=>rfl
  | some l=>dsimp only;rw [if_pos ⟨h4,h5,h⟩]
theorem wh (g:Pl) (s:List UInt8) (h1:s.take 2≠[61,32]) (h2:s≠iw) (h3:s≠jL)
  (h:(Lib.cut s [32]).1=lookW\/(Lib.cut s [32]).1=fZ\/(Lib.cut s [32]).1=gH) (l:List Int) (hl:bu (s.drop (Lib.cut s [32]).1.length)=some l) :
  aS bC g s=(g,match g.prog with|none=>kJ|some p=>iU p (Lib.cut s [32]).1 l):=by
 obtain ⟨e1,e2,_⟩:=tq s;unfold aS;rw [if_neg h1,if_neg h2,if_neg h3,e2,hl,e1];dsimp only;rw [if_neg (by
  rintro ⟨_,_,a,b,c⟩;rcases h with h|h|h
  ·exact a h
  ·exact b h
  ·exact c h)]
 cases g.prog<;>rfl
theorem Ny (p:Lp) (l:List Int) : iU p lookW l=jD p l:=by unfold iU;rw [if_neg (by decide),if_neg (by decide),if_pos rfl]
theorem Nz (p:Lp) (l:List Int) : iU p fZ l=jm p l:=by unfold iU;rw [if_neg (by decide),if_neg (by decide),if_neg (by decide),if_pos rfl]
theorem Jr (p:Lp) (l:List Int) : iU p gH l=eH p l:=by unfold iU;rw [if_neg (by decide),if_neg (by decide),if_neg (by decide),if_neg (by decide)]
end Num
end Go.Proofs.YtipcbhodlgoflabGreatDoor
