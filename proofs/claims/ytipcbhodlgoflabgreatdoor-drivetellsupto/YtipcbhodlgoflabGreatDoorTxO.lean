/- The document's split (chapter 9). -/
import Derived.Test.YtipcbhodlgoflabGreatDoorTxAB
import Derived.Test.YtipcbhodlgoflabGreatDoorTxE
set_option maxHeartbeats 6400000
set_option maxRecDepth 8000
namespace Go.Proofs.YtipcbhodlgoflabGreatDoor
open Go.RowKit
def Splits (c:UInt8) (l:List UInt8) (i f:Nat) (parts:List (List UInt8)) : Prop :=
 (i<=l.length/\f<=i/\Num.splitW c l=parts ++ Num.splitW c (l.drop f)/\c∉(l.drop f).take (i - f))\/(i=l.length+1/\Num.splitW c l=parts)
theorem Splits.few {c:UInt8} {l:List UInt8} {i f:Nat} {parts:List (List UInt8)} (h:Splits c l i f parts) : parts.length<=l.length+1:=by
 have key:∀s:List UInt8,(Num.splitW c s).length<=s.length+1:=by
  intro s
  induction s with
  | nil=>exact Nat.le_refl _
  | cons x s ih =>
   unfold Num.splitW;split
   ·rw [List.length_cons,List.length_cons];omega
   ·split
    ·simp
    ·rename_i w r e;rw [e,List.length_cons] at ih;rw [List.length_cons,List.length_cons];omega
 have hk:=key l;rcases h with ⟨_,_,h,_⟩|⟨_,h⟩
 ·rw [h,List.length_append] at hk;omega
 ·rw [h] at hk;exact hk
theorem ED {c:UInt8} {l:List UInt8} {i f:Nat} {parts:List (List UInt8)} (h:Splits c l i f parts) (hi:i < l.length) (hc:l[i]'hi≠c) : Splits c l (i+1) f parts:=by
 rcases h with ⟨h1,h2,h3,h4⟩|⟨h1,_⟩
 ·refine Or.inl ⟨hi,by omega,h3,?_⟩;rw [show i+1 - f=(i - f)+1 by omega,List.take_add_one];intro hm;rcases List.mem_append.1 hm with hm|hm
  ·exact h4 hm
  ·rw [List.getElem?_drop,show f+(i - f)=i by omega,List.getElem?_eq_getElem hi] at hm;simp at hm;exact hc hm.symm
 ·omega
theorem EF {c:UInt8} {l:List UInt8} {i f:Nat} {parts:List (List UInt8)} (h:Splits c l i f parts) (hi:i < l.length) (hc:l[i]'hi=c) : Splits c l (i+1) (i+1) (parts ++ [(l.drop f).take (i - f)]):=by
 rcases h with ⟨h1,h2,h3,h4⟩|⟨h1,_⟩
 ·refine Or.inl ⟨hi,Nat.le_refl _,?_,by simp⟩;have e:l.drop f=(l.drop f).take (i - f) ++ c :: l.drop (i+1):=by
   have e1:(l.drop f).drop (i - f)=c :: l.drop (i+1):=by rw [List.drop_drop,show f+(i - f)=i by omega,List.drop_eq_getElem_cons hi,hc]
   rw [<-e1,List.take_append_drop]
  have e2:Num.splitW c (l.drop f)=(l.drop f).take (i - f) :: Num.splitW c (l.drop (i+1)):=by have:=Num.gD c ((l.drop f).take (i - f)) (l.drop (i+1)) h4;rw [<-e] at this;exact this
  rw [h3,e2];simp
 ·omega
theorem Hm {c:UInt8} {l:List UInt8} {i f:Nat} {parts:List (List UInt8)} (h:Splits c l i f parts) (hi:i=l.length) : Splits c l (i+1) (i+1) (parts ++ [(l.drop f).take (i - f)]):=by
 rcases h with ⟨h1,h2,h3,h4⟩|⟨h1,_⟩
 ·refine Or.inr ⟨by omega,?_⟩;have e:(l.drop f).take (i - f)=l.drop f:=List.take_of_length_le (by rw [List.length_drop];omega);rw [e] at h4 ⊢;rw [h3,Num.gB c _ h4]
 ·omega
open Go.RowKit
theorem VX:∀(l:List UInt8),(∀c∈l,Num.di c=true)->∀a k,a < 10 ^ k->l.foldl (fun a (c:UInt8)=>10*a+(c.toNat - 48)) a < 10 ^ (k+l.length):=by
 intro l
 induction l with
 | nil=>intro _ a k h;exact h
 | cons c l ih =>
  intro h a k ha;have hc:=h c (by simp);unfold Num.di at hc;simp only [Bool.and_eq_true,decide_eq_true_eq] at hc;have h1:10*a+(c.toNat - 48) < 10 ^ (k+1):=by rw [Nat.pow_succ];omega
  have:=ih (fun x hx=>h x (by simp [hx])) _ (k+1) h1;rw [List.foldl_cons,List.length_cons,show k+(l.length+1)=k+1+l.length by omega];exact this
theorem LY (l:List UInt8) (h:∀c∈l,Num.di c=true) (hl:l.length<=6) : Num.ru l < 1000000:=by have:=VX l h 0 0 (by simp);have h2:10 ^ (0+l.length)<=10 ^ 6:=Nat.pow_le_pow_right (by omega) (by omega);have:Num.ru l < 10 ^ (0+l.length):=this;omega
def pY (t:List UInt8) (i:Nat) (n:Nat) : Prop:=n=Num.ru (t.take i)/\(∀c∈t.take i,Num.di c=true)
theorem ve {t:List UInt8} {i n:Nat} (h:pY t i n) (hi:i < t.length) (hd:Num.di (t[i]'hi)=true) : pY t (i+1) (10*n+((t[i]'hi).toNat - 48)):=by
 refine ⟨?_,?_⟩
 ·rw [List.take_succ_eq_append_getElem hi,Num.Cw,<-h.1]
 ·intro c hc;rw [List.take_succ_eq_append_getElem hi] at hc;rcases List.mem_append.1 hc with hc|hc
  ·exact h.2 c hc
  ·rw [List.mem_singleton.1 hc];exact hd
theorem pY.small {t:List UInt8} {i n:Nat} (h:pY t i n) (ht:t.length<=6) : n < 1000000:=by rw [h.1];exact LY _ h.2 (by rw [List.length_take];omega)
def EG (t:List UInt8) (b:Bool) : Prop:=t.length < 1\/6 < t.length\/(t.head? = some 48/\(1 < t.length\/b=true))
theorem oh {t:List UInt8} {b:Bool} (h:EG t b) : Num.nZ t b=none:=by unfold Num.nZ;exact if_pos h
theorem CL {t:List UInt8} {b:Bool} (h:¬ EG t b) (i:Nat) (hi:i < t.length) (hd:Num.di (t[i]'hi)=false) : Num.nZ t b=none:=by unfold Num.nZ;unfold EG at h;rw [if_neg h,if_neg];rw [List.all_eq_true];intro hall;rw [hall _ (List.getElem_mem hi)] at hd;cases hd
theorem CO {t:List UInt8} {b:Bool} (h:¬ EG t b) {n:Nat} (hd:pY t t.length n) : Num.nZ t b=some n:=by
 unfold Num.nZ;unfold EG at h;rw [if_neg h,if_pos]
 ·rw [hd.1,List.take_length]
 ·rw [List.all_eq_true];have:=hd.2;rw [List.take_length] at this;exact this
theorem CP (l t:List UInt8) (S T:ByteArray) (n1:Nat) (hsz:S.size=n1+1) (hn1:n1<=2000000) (hg0:∀h,S[0]'h=(45:UInt8)) (hx:S.extract 1 (n1+1)=T) (tl:Nat) (hts:T.size=tl) (htl:tl<=2000000) (rX:Hid (t.length=tl)) (XW:Hid (∀i h (h':i < t.length),T[i]'h=t[i]'h'))
  (HE:Hid (Num.bQ l=(Num.nZ t true).map (fun n:Nat => -(n:Int)))) (w:World) :
  Calls Tryz.prog 10 #[.string S] w fun e w'=>e=.returned (.tuple #[.int .i64 ((Num.bQ l).getD 0),.bool (Num.bQ l).isSome])/\w'=w:=by
 have hd:((((45:UInt8).toNat:Nat) : Int) == 45)=true:=by decide
 by_cases hA:tl=0
 ·subst hA;have EE:Hid (Num.bQ l=none):=show _=_ by rw [HE.out,oh (b:=true) (Or.inl (by have:=rX.out;omega))];rfl
  go_enter Tryz.func10,Tryz.ntmps10;go_wp2_with fail;go_ret2;exact ⟨by rw [EE.out];rfl,rfl⟩
 ·have hA1:¬ ((tl:Int) < 1):=by omega
  by_cases hB:(6:Int) < (tl:Int)
  ·have EE:Hid (Num.bQ l=none):=show _=_ by rw [HE.out,oh (b:=true) (Or.inr (Or.inl (by have:=rX.out;omega)))];rfl
   go_enter Tryz.func10,Tryz.ntmps10;go_wp2_with fail;go_ret2;exact ⟨by rw [EE.out];rfl,rfl⟩
  ·have XX:0 < t.length:=by have:=rX.out;omega
   have hg:∀h,T[0]'h=t[0]'XX:=fun h=>XW.out 0 h XX;have VY:Hid (t.head? = some (t[0]'XX)):=show _=_ by rw [List.head?_eq_getElem?,List.getElem?_eq_getElem XX]
   generalize t[0]'XX=d at hg VY;by_cases hC:d=48
   ·subst hC;have hd0:((((48:UInt8).toNat:Nat) : Int) == 48)=true:=by decide
    by_cases hD:(1:Int) < (tl:Int)
    ·have EE:Hid (Num.bQ l=none):=show _=_ by rw [HE.out,oh (b:=true) (Or.inr (Or.inr ⟨VY.out,Or.inl (by have:=rX.out;omega)⟩))];rfl
     go_enter Tryz.func10,Tryz.ntmps10;go_wp2_with fail;go_ret2;exact ⟨by rw [EE.out];rfl,rfl⟩
    ·have EE:Hid (Num.bQ l=none):=show _=_ by rw [HE.out,oh (b:=true) (Or.inr (Or.inr ⟨VY.out,Or.inr rfl⟩))];rfl
     go_enter Tryz.func10,Tryz.ntmps10;go_wp2_with fail;go_ret2;exact ⟨by rw [EE.out];rfl,rfl⟩
   ·have hd0:(((d.toNat:Nat) : Int) == 48)=false:=by rw [beq_eq_false_iff_ne];intro e;exact hC (UInt8.toNat_inj.1 (by show d.toNat=48;omega))
    have UI:Hid (¬ EG t true):=by
     rintro (h|h|⟨h,_⟩)
     ·have:=rX.out;omega
     ·have:=rX.out;omega
     ·rw [VY.out] at h;exact hC (Option.some.inj h)
    go_enter Tryz.func10,Tryz.ntmps10;go_wp2_with fail;go_loop [6,7] (fun nv iv=>∃i n:Nat,i<=tl/\iv=.int .i64 i/\nv=.int .i64 n/\pY t i n) (fun _ iv=>tl - (intOf iv).toNat)
    case atStart=>exact ⟨0,0,Nat.zero_le _,rfl,rfl,rfl,by simp⟩
    case round =>
     obtain ⟨i,n,hi,rfl,rfl,hdg⟩:=hrel;have NP:Hid (pY t i n):=hdg;have hn6:=hdg.small (by have:=rX.out;omega);clear hdg;by_cases hlt:i < tl
     ·have hit:i < t.length:=by have:=rX.out;omega
      have hgi:∀h,T[i]'h=t[i]'hit:=fun h=>XW.out i h hit;have GY:=ve NP.out hit;have D9:=CL (b:=true) UI.out i hit;have EH:Hid (Num.di (t[i]'hit)=true->pY t (i+1) (10*n+((t[i]'hit).toNat - 48))):=GY;have xY:Hid (Num.di (t[i]'hit)=false->Num.nZ t true=none):=D9;have XY:=(t[i]'hit).toNat_lt;generalize t[i]'hit=x at hgi EH xY XY;clear GY D9;have hxl:((x.toNat:Nat) : Int) < 256:=by omega
      by_cases h1:((x.toNat:Nat) : Int) < 48
      ·have E:=xY.out (by unfold Num.di;rw [decide_eq_false (by omega)];rfl);have EE:Hid (Num.bQ l=none):=show _=_ by rw [HE.out,E];rfl
       clear E;go_wp2_with fail;go_ret2;exact ⟨by rw [EE.out];rfl,rfl⟩
      ·by_cases h2:(57:Int) < ((x.toNat:Nat) : Int)
       ·have E:=xY.out (by unfold Num.di;rw [decide_eq_false (p:=x.toNat<=57) (by omega),Bool.and_false]);have EE:Hid (Num.bQ l=none):=show _=_ by rw [HE.out,E];rfl
        clear E;go_wp2_with fail;go_ret2;exact ⟨by rw [EE.out];rfl,rfl⟩
       ·have R:Hid (pY t (i+1) (10*n+(x.toNat - 48))):=EH.out (by unfold Num.di;rw [decide_eq_true (p:=48<=x.toNat) (by omega),decide_eq_true (p:=x.toNat<=57) (by omega)];rfl);have hcast:((10*n+(x.toNat - 48) : Nat) : Int)=10*(n:Int)+((x.toNat:Int) - 48):=by omega
        go_wp2_with fail;go_round
        case rel=>exact ⟨i+1,10*n+(x.toNat - 48),by omega,by go_num,by rw [hcast],R.out⟩
        case measure=>simp [intOf];omega
     ·have hie:i=tl:=by omega
      subst hie;have EE:Hid (Num.bQ l=some (-(n:Int))):=show _=_ by rw [HE.out,CO UI.out (n:=n) (by have:=NP.out;rw [<-rX.out] at this;exact this)];rfl
      go_wp2_with fail;go_ret2;exact ⟨by rw [EE.out];rfl,rfl⟩
theorem CQ (l t:List UInt8) (T:ByteArray) (c:UInt8) (hgc:∀h,T[0]'h=c) (hcc:(((c.toNat:Nat) : Int) == 45)=false) (tl:Nat) (hts:T.size=tl) (ht1:0 < tl) (htl:tl<=2000000) (rX:Hid (t.length=tl)) (XW:Hid (∀i h (h':i < t.length),T[i]'h=t[i]'h'))
  (VY:Hid (t.head? = some c)) (HE:Hid (Num.bQ l=(Num.nZ t false).map (fun n:Nat=>(n:Int)))) (w:World) :
  Calls Tryz.prog 10 #[.string T] w fun e w'=>e=.returned (.tuple #[.int .i64 ((Num.bQ l).getD 0),.bool (Num.bQ l).isSome])/\w'=w:=by
 by_cases hA:tl=0
 ·subst hA;have EE:Hid (Num.bQ l=none):=show _=_ by rw [HE.out,oh (b:=false) (Or.inl (by have:=rX.out;omega))];rfl
  go_enter Tryz.func10,Tryz.ntmps10;go_wp2_with fail;go_ret2;exact ⟨by rw [EE.out];rfl,rfl⟩
 ·have hA1:¬ ((tl:Int) < 1):=by omega
  by_cases hB:(6:Int) < (tl:Int)
  ·have EE:Hid (Num.bQ l=none):=show _=_ by rw [HE.out,oh (b:=false) (Or.inr (Or.inl (by have:=rX.out;omega)))];rfl
   go_enter Tryz.func10,Tryz.ntmps10;go_wp2_with fail;go_ret2;exact ⟨by rw [EE.out];rfl,rfl⟩
  ·by_cases hC:c=48
   ·subst hC;have hd0:((((48:UInt8).toNat:Nat) : Int) == 48)=true:=by decide
    by_cases hD:(1:Int) < (tl:Int)
    ·have EE:Hid (Num.bQ l=none):=show _=_ by rw [HE.out,oh (b:=false) (Or.inr (Or.inr ⟨VY.out,Or.inl (by have:=rX.out;omega)⟩))];rfl
     go_enter Tryz.func10,Tryz.ntmps10;go_wp2_with fail;go_ret2;exact ⟨by rw [EE.out];rfl,rfl⟩
    ·have UI:Hid (¬ EG t false):=by
      rintro (h|h|⟨_,h|h⟩)
      ·have:=rX.out;omega
      ·have:=rX.out;omega
      ·have:=rX.out;omega
      ·cases h
     go_enter Tryz.func10,Tryz.ntmps10;go_wp2_with fail;go_loop [6,7] (fun nv iv=>∃i n:Nat,i<=tl/\iv=.int .i64 i/\nv=.int .i64 n/\pY t i n) (fun _ iv=>tl - (intOf iv).toNat)
     case atStart=>exact ⟨0,0,Nat.zero_le _,rfl,rfl,rfl,by simp⟩
     case round =>
      obtain ⟨i,n,hi,rfl,rfl,hdg⟩:=hrel;have NP:Hid (pY t i n):=hdg;have hn6:=hdg.small (by have:=rX.out;omega);clear hdg;by_cases hlt:i < tl
      ·have hit:i < t.length:=by have:=rX.out;omega
       have hgi:∀h,T[i]'h=t[i]'hit:=fun h=>XW.out i h hit;have GY:=ve NP.out hit;have D9:=CL (b:=false) UI.out i hit;have EH:Hid (Num.di (t[i]'hit)=true->pY t (i+1) (10*n+((t[i]'hit).toNat - 48))):=GY;have xY:Hid (Num.di (t[i]'hit)=false->Num.nZ t false=none):=D9;have XY:=(t[i]'hit).toNat_lt;generalize t[i]'hit=x at hgi EH xY XY;clear GY D9;have hxl:((x.toNat:Nat) : Int) < 256:=by omega
       by_cases h1:((x.toNat:Nat) : Int) < 48
       ·have E:=xY.out (by unfold Num.di;rw [decide_eq_false (by omega)];rfl);have EE:Hid (Num.bQ l=none):=show _=_ by rw [HE.out,E];rfl
        clear E;go_wp2_with fail;go_ret2;exact ⟨by rw [EE.out];rfl,rfl⟩
       ·by_cases h2:(57:Int) < ((x.toNat:Nat) : Int)
        ·have E:=xY.out (by unfold Num.di;rw [decide_eq_false (p:=x.toNat<=57) (by omega),Bool.and_false]);have EE:Hid (Num.bQ l=none):=show _=_ by rw [HE.out,E];rfl
         clear E;go_wp2_with fail;go_ret2;exact ⟨by rw [EE.out];rfl,rfl⟩
        ·have R:Hid (pY t (i+1) (10*n+(x.toNat - 48))):=EH.out (by unfold Num.di;rw [decide_eq_true (p:=48<=x.toNat) (by omega),decide_eq_true (p:=x.toNat<=57) (by omega)];rfl);have hcast:((10*n+(x.toNat - 48) : Nat) : Int)=10*(n:Int)+((x.toNat:Int) - 48):=by omega
         go_wp2_with fail;go_round
         case rel=>exact ⟨i+1,10*n+(x.toNat - 48),by omega,by go_num,by rw [hcast],R.out⟩
         case measure=>simp [intOf];omega
      ·have hie:i=tl:=by omega
       subst hie;have EE:Hid (Num.bQ l=some ((n:Int))):=show _=_ by rw [HE.out,CO UI.out (n:=n) (by have:=NP.out;rw [<-rX.out] at this;exact this)];rfl
       go_wp2_with fail;go_ret2;exact ⟨by rw [EE.out];rfl,rfl⟩
   ·have hd0:(((c.toNat:Nat) : Int) == 48)=false:=by rw [beq_eq_false_iff_ne];intro e;exact hC (UInt8.toNat_inj.1 (by show c.toNat=48;omega))
    have UI:Hid (¬ EG t false):=by
     rintro (h|h|⟨h,_⟩)
     ·have:=rX.out;omega
     ·have:=rX.out;omega
     ·rw [VY.out] at h;exact hC (Option.some.inj h)
    go_enter Tryz.func10,Tryz.ntmps10;go_wp2_with fail;go_loop [6,7] (fun nv iv=>∃i n:Nat,i<=tl/\iv=.int .i64 i/\nv=.int .i64 n/\pY t i n) (fun _ iv=>tl - (intOf iv).toNat)
    case atStart=>exact ⟨0,0,Nat.zero_le _,rfl,rfl,rfl,by simp⟩
    case round =>
     obtain ⟨i,n,hi,rfl,rfl,hdg⟩:=hrel;have NP:Hid (pY t i n):=hdg;have hn6:=hdg.small (by have:=rX.out;omega);clear hdg;by_cases hlt:i < tl
     ·have hit:i < t.length:=by have:=rX.out;omega
      have hgi:∀h,T[i]'h=t[i]'hit:=fun h=>XW.out i h hit;have GY:=ve NP.out hit;have D9:=CL (b:=false) UI.out i hit;have EH:Hid (Num.di (t[i]'hit)=true->pY t (i+1) (10*n+((t[i]'hit).toNat - 48))):=GY;have xY:Hid (Num.di (t[i]'hit)=false->Num.nZ t false=none):=D9;have XY:=(t[i]'hit).toNat_lt;generalize t[i]'hit=x at hgi EH xY XY;clear GY D9;have hxl:((x.toNat:Nat) : Int) < 256:=by omega
      by_cases h1:((x.toNat:Nat) : Int) < 48
      ·have E:=xY.out (by unfold Num.di;rw [decide_eq_false (by omega)];rfl);have EE:Hid (Num.bQ l=none):=show _=_ by rw [HE.out,E];rfl
       clear E;go_wp2_with fail;go_ret2;exact ⟨by rw [EE.out];rfl,rfl⟩
      ·by_cases h2:(57:Int) < ((x.toNat:Nat) : Int)
       ·have E:=xY.out (by unfold Num.di;rw [decide_eq_false (p:=x.toNat<=57) (by omega),Bool.and_false]);have EE:Hid (Num.bQ l=none):=show _=_ by rw [HE.out,E];rfl
        clear E;go_wp2_with fail;go_ret2;exact ⟨by rw [EE.out];rfl,rfl⟩
       ·have R:Hid (pY t (i+1) (10*n+(x.toNat - 48))):=EH.out (by unfold Num.di;rw [decide_eq_true (p:=48<=x.toNat) (by omega),decide_eq_true (p:=x.toNat<=57) (by omega)];rfl);have hcast:((10*n+(x.toNat - 48) : Nat) : Int)=10*(n:Int)+((x.toNat:Int) - 48):=by omega
        go_wp2_with fail;go_round
        case rel=>exact ⟨i+1,10*n+(x.toNat - 48),by omega,by go_num,by rw [hcast],R.out⟩
        case measure=>simp [intOf];omega
     ·have hie:i=tl:=by omega
      subst hie;have EE:Hid (Num.bQ l=some ((n:Int))):=show _=_ by rw [HE.out,CO UI.out (n:=n) (by have:=NP.out;rw [<-rX.out] at this;exact this)];rfl
      go_wp2_with fail;go_ret2;exact ⟨by rw [EE.out];rfl,rfl⟩
theorem Ho (l:List UInt8) (hl:l.length<=2000000) (w:World) :
  Calls Tryz.prog 10 #[.string (B8 l)] w fun e w'=>e=.returned (.tuple #[.int .i64 ((Num.bQ l).getD 0),.bool (Num.bQ l).isSome])/\w'=w:=by
 cases l with
 | nil =>
  have hq:(B8 []).size=0:=by rw [aQ];rfl
  have EE:Hid (Num.bQ []=none):=rfl;generalize B8 []=S at hq;go_enter Tryz.func10,Tryz.ntmps10;go_wp2_with fail;go_ret2;exact ⟨by rw [EE.out];rfl,rfl⟩
 | cons c r =>
  have hl':r.length+1<=2000000:=hl;by_cases hc:c=45
  ·subst hc;exact CP (45 :: r) r _ _ r.length (by rw [aQ];rfl) (by omega) (fun h=>uZ (45 :: r) 0 h (by simp)) (by have:=gI (45 :: r) 1;rw [aQ] at this;exact this) r.length (aQ r) (by omega) (show r.length=r.length from rfl) (fun i h h'=>uZ r i h h')
    (show Num.bQ (45 :: r)=_ by unfold Num.bQ;rw [if_pos (by rfl)];rfl) w
  ·refine CQ (c :: r) (c :: r) _ c (fun h=>uZ (c :: r) 0 h (by simp)) ?_ (r.length+1) (by rw [aQ];rfl) (by omega) hl' (show (c :: r).length=_ from rfl) (fun i h h'=>uZ (c :: r) i h h') (show (c :: r).head? = some c from rfl) ?_ w
   ·rw [beq_eq_false_iff_ne];intro e;exact hc (UInt8.toNat_inj.1 (by show c.toNat=45;omega))
   ·show Num.bQ (c :: r)=_;unfold Num.bQ;rw [if_neg (by intro e;exact hc (Option.some.inj e))]
open Go.RowKit
theorem LZ:∀(a:List (List UInt8)) (x:List UInt8),Num.numsW (a ++ [x])=(Num.numsW a).bind fun l=>(Num.bQ x).map fun n=>l ++ [n]:=by
 intro a
 induction a with
 | nil =>intro x;rw [List.nil_append,Num.jR];show _=(Num.bQ x).map _;cases Num.bQ x<;>rfl
 | cons w r ih =>
  intro x;rw [List.cons_append,Num.jR,Num.jR,ih x];cases Num.bQ w with
  | none=>rfl
  | some n =>
   cases Num.numsW r with
   | none=>rfl
   | some l=>cases Num.bQ x<;>rfl
theorem L6:∀(ws:List (List UInt8)) (x:List UInt8),x∈ws->Num.bQ x=none->Num.numsW ws=none:=by
 intro ws
 induction ws with
 | nil=>intro x h;cases h
 | cons w r ih =>
  intro x h hx;rw [Num.jR];rcases List.mem_cons.1 h with h|h
  ·rw [<-h,hx];rfl
  ·rw [ih x h hx];cases Num.bQ w<;>rfl
def Strs (w:World) (a:Option Addr) (n:Nat) (ws:List (List UInt8)) : Prop :=
 n=ws.length/\(n=0\/∃b off,a=some ⟨b,off,none⟩/\b < w.heap.size/\∀j,j < n->w.cell? ⟨b,off+j,none⟩=some (.string (B8 (ws[j]?.getD []))))
theorem Strs.Ef {w:World} {base:Nat} {a:Option Addr} {n c:Nat} {ws:List (List UInt8)} (h:w.ownsRow base 9 1 (.slice a n c) n (strs ws)) : Strs w a n ws/\(n=0\/∃g,a=some ⟨g,0,none⟩/\base<=g/\n<=c):=by
 have hl:n=ws.length:=by have:=h.1;rw [pW] at this;omega
 have h':=h;rcases h.2 with ⟨hv,h0⟩|⟨g,cap,cur,hv,hb,_,hcap,_⟩
 ·exact ⟨⟨hl,Or.inl h0⟩,Or.inl h0⟩
 ·simp only [Value.slice.injEq] at hv;obtain ⟨rfl,_,rfl⟩:=hv;refine ⟨⟨hl,Or.inr ⟨g,0,rfl,(h'.lt g rfl).2,fun j hj=>?_⟩⟩,Or.inr ⟨g,rfl,hb,hcap⟩⟩;rw [Nat.zero_add,h'.cellAt j (by omega)];unfold strs;rw [List.getElem?_map,List.getElem?_eq_getElem (by omega)];rfl
end Go.Proofs.YtipcbhodlgoflabGreatDoor
