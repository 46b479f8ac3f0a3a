/- The statement's own split, said, fraction. -/
import Derived.Test.YtipcbhodlgoflabGreatDoorTxO
import Derived.Test.YtipcbhodlgoflabGreatDoorTxFG
import Derived.Test.YtipcbhodlgoflabGreatDoorDrvM
import Derived.Test.YtipcbhodlgoflabGreatDoorDrvW
set_option maxHeartbeats 3200000
set_option maxRecDepth 8000
namespace Go.Proofs.YtipcbhodlgoflabGreatDoor
open Go.RowKit
theorem zW (c:UInt8) (x:Int) (hx:x=(c.toNat:Int)) (l:List UInt8) (hl:l.length<=2000000) (w:World) :
  Calls Tryz.prog 5 #[.string (B8 l),.int .u8 x] w fun e w'=>∃a n k,e=.returned (.slice a n k)/\w'.ownsRow w.heap.size 9 1 (.slice a n k) n (strs (Num.splitW c l))/\Below w.heap.size w w':=by
 obtain ⟨i0,hif,hz0,hz1,hz2⟩:=info_parts Tryz.xB;have HX:Hid (x=(c.toNat:Int)):=hx;have hsz:(B8 l).size=l.length:=aQ l;have HG:Hid (∀(i:Nat) (h:i < (B8 l).size) (h':i < l.length),(B8 l)[i]'h=l[i]'h'):=fun i h h'=>uZ l i h h';have HE:Hid (∀i j,(B8 l).extract i j=B8 ((l.drop i).take (j - i))):=lT l;generalize B8 l=S at hsz HG HE;obtain ⟨n,hll⟩ : ∃n,l.length=n:=⟨_,rfl⟩;have HN:Hid (l.length=n):=hll;rw [hll] at hsz hl;have J4:Hid (n<=2000000):=hl;clear hx hll hl;go_enter Tryz.func5,Tryz.ntmps5;go_wp2_with fail;go_loopw [5,6,7] (fun v fv iv wr=>∃(i f:Nat) (parts:List (List UInt8)) (a:Option Addr) (k:Nat),iv=.int .i64 i/\fv=.int .i64 f/\v=.slice a parts.length k/\i<=n+1/\Splits c l i f parts/\wr.ownsRow w.heap.size 9 1 (.slice a parts.length k) parts.length (strs parts)/\Below w.heap.size w wr) (fun _ _ iv _=>n+1 - (intOf iv).toNat)
 case atStart=>exact ⟨0,0,[],none,0,rfl,rfl,rfl,by omega,Or.inl ⟨Nat.zero_le _,Nat.le_refl _,by simp,by simp⟩,World.ownsRow_nil _ _ _ _,Below.refl _ _⟩
 case round =>
  obtain ⟨i,f,parts,a,k,rfl,rfl,rfl,hi,hsp,hown,hbl⟩:=hrel;have K8:Hid (Splits c l i f parts):=hsp;have Xd:=hsp.few;rw [HN.out] at Xd;have HFI:Hid (i<=n->f<=i):=fun h=>by
   rcases hsp with ⟨_,h2,_⟩|⟨h1,_⟩
   ·exact h2
   ·have:=HN.out;omega
  have HO:Hid (wr.ownsRow w.heap.size 9 1 (.slice a parts.length k) parts.length (strs parts)):=hown;generalize hpl:parts.length=pl at *;have R7:Hid (parts.length=pl):=hpl;clear hsp hown hpl;by_cases h1:(i:Int)<=n
  ·have hfi:=HFI.out (by omega);have hln:=J4.out;have hex:S.extract f i=B8 ((l.drop f).take (i - f)):=HE.out f i;have HAP:Hid (∀W,Below wr.heap.size wr W->W.ownsRow w.heap.size 9 1 (.slice a pl k) pl (strs parts)):=fun W h=>gN HO.out h;by_cases h2:i=n
   ·subst h2;have heq:((i:Int) == (i:Int))=true:=by simp
    have R0:Hid (Splits c l (i+1) (i+1) (parts ++ [(l.drop f).take (i - f)])):=Hm K8.out (by have:=HN.out;omega);generalize (l.drop f).take (i - f)=piece at hex R0;go_wp2_with (at_builtin;refine wpList_append_own _ rfl (.tmp 25) (.tmp 30) 22 rfl w.heap.size 9 i0 (.string ⟨#[]⟩) 1 16 Tryz.underlying22 hif hz0 hz1 hz2 rfl (by decide) _ _ _ rfl (by exact World.ownsRow.alloc HO.out _) ⟨wr.heap.size,0,none⟩ 1 1 [.string (B8 piece)] rfl rfl ?am0 ?am1 ?am2 ?am3 ?am4 ?_)
    case am0=>first|exact eu rfl _ _|exact dQ rfl _ _
    case am1=>first|rfl|(intro u hu;simp at hu;subst hu;rfl)
    case am2=>unfold maxLen;omega
    case am3=>omega
    case am4=>have:=hbl.size;simp;omega
    intro v' w3 hown' hgrow _;obtain ⟨a',c',hv'⟩:=dW hown';subst hv';have hB:Below w.heap.size w w3:=Below.grown (by exact hbl.alloc hbl.size _) hgrow (by have:=hbl.size;simp;omega) (fun j hj=>(World.ownsRow.lt HO.out j hj).1);have R:Hid (w3.ownsRow w.heap.size 9 1 (.slice a' (parts ++ [piece]).length c') (parts ++ [piece]).length (strs (parts ++ [piece]))):=by show w3.ownsRow _ _ _ _ _ _;rw [ky,List.length_append,List.length_singleton,R7.out];exact hown'
    have Re:Hid ((parts ++ [piece]).length=pl+1):=show _=_ by rw [List.length_append,List.length_singleton,R7.out]
    clear hown' hgrow;go_wp2_with fail;go_roundw
    case rel=>exact ⟨i+1,i+1,parts ++ [piece],a',c',by go_num,by go_num,by rw [Re.out],by omega,R0.out,R.out,hB⟩
    case measure=>simp [intOf]
   ·have hin:i < n:=by omega
    have heq:((i:Int) == (n:Int))=false:=by rw [beq_eq_false_iff_ne];omega
    have hil:i < l.length:=by have:=HN.out;omega
    have hgi:∀h,S[i]'h=l[i]'hil:=fun h=>HG.out i h hil;by_cases hc:l[i]'hil=c
    ·have R0:Hid (Splits c l (i+1) (i+1) (parts ++ [(l.drop f).take (i - f)])):=EF K8.out hil hc;have hcx:(((l[i]'hil).toNat:Int) == x)=true:=by rw [hc,HX.out];simp
     generalize (l.drop f).take (i - f)=piece at hex R0;generalize l[i]'hil=ci at hgi hcx;clear hc;go_wp2_with (at_builtin;refine wpList_append_own _ rfl (.tmp 25) (.tmp 30) 22 rfl w.heap.size 9 i0 (.string ⟨#[]⟩) 1 16 Tryz.underlying22 hif hz0 hz1 hz2 rfl (by decide) _ _ _ rfl (by exact World.ownsRow.alloc HO.out _) ⟨wr.heap.size,0,none⟩ 1 1 [.string (B8 piece)] rfl rfl ?am5 ?am6 ?am7 ?am8 ?am9 ?_)
     case am5=>first|exact eu rfl _ _|exact dQ rfl _ _
     case am6=>first|rfl|(intro u hu;simp at hu;subst hu;rfl)
     case am7=>unfold maxLen;omega
     case am8=>omega
     case am9=>have:=hbl.size;simp;omega
     intro v' w3 hown' hgrow _;obtain ⟨a',c',hv'⟩:=dW hown';subst hv';have hB:Below w.heap.size w w3:=Below.grown (by exact hbl.alloc hbl.size _) hgrow (by have:=hbl.size;simp;omega) (fun j hj=>(World.ownsRow.lt HO.out j hj).1);have R:Hid (w3.ownsRow w.heap.size 9 1 (.slice a' (parts ++ [piece]).length c') (parts ++ [piece]).length (strs (parts ++ [piece]))):=by show w3.ownsRow _ _ _ _ _ _;rw [ky,List.length_append,List.length_singleton,R7.out];exact hown'
     have Re:Hid ((parts ++ [piece]).length=pl+1):=show _=_ by rw [List.length_append,List.length_singleton,R7.out]
     clear hown' hgrow;go_wp2_with fail;go_roundw
     case rel=>exact ⟨i+1,i+1,parts ++ [piece],a',c',by go_num,by go_num,by rw [Re.out],by omega,R0.out,R.out,hB⟩
     case measure=>simp [intOf];omega
    ·have R0:Hid (Splits c l (i+1) f parts):=ED K8.out hil hc;have hcx:(((l[i]'hil).toNat:Int) == x)=false:=by rw [beq_eq_false_iff_ne,HX.out];intro e;exact hc (UInt8.toNat_inj.1 (by omega))
     generalize l[i]'hil=ci at hgi hcx;clear hc hex;go_wp2_with fail;go_roundw
     case rel=>exact ⟨i+1,f,parts,a,k,by go_num,rfl,by rw [R7.out],by omega,R0.out,by rw [R7.out];exact HO.out,hbl⟩
     case measure=>simp [intOf];omega
  ·go_wp2_with fail;go_ret;have hie:i=l.length+1:=by have:=HN.out;omega
   rcases K8.out with ⟨h,_⟩|⟨_,h⟩
   ·omega
   ·refine ⟨a,pl,k,rfl,?_,hbl⟩;rw [h];exact HO.out
theorem iE (wd:List UInt8) (n:Int) (hw:wd.length<=1000) (hn : -1099511627776<=n/\n<=1099511627776) (w:World) :
  Calls Tryz.prog 8 #[.string (B8 wd),.int .i64 n] w fun e w'=>e=.returned (.string (B8 (Num.dC wd n)))/\Below w.heap.size w w':=by
 have E:Hid (B8 wd ++ ⟨#[32]⟩ ++ B8 (Num.aR n)=B8 (Num.dC wd n)):=show B8 wd ++ B8 [32] ++ B8 (Num.aR n)=_ by rw [bL,bL,List.append_assoc];rfl
 have s1:(B8 wd).size<=1000:=by rw [aQ];exact hw
 have s2:(B8 (Num.aR n)).size<=20:=by rw [aQ];exact ed n (by omega) (by omega)
 have K:Hid (∀w',Calls Tryz.prog 17 #[.int .i64 n] w' fun e w''=>e=.returned (.string (B8 (Num.aR n)))/\Below w'.heap.size w' w''):=fun w'=>lW n hn w';go_enter Tryz.func8,Tryz.ntmps8;generalize B8 wd=S at E s1 ⊢;generalize B8 (Num.aR n)=D at E s2 K;go_wp2_with fail;refine (K.out w).mono ?_;rintro e w1 ⟨rfl,hb1⟩;have s3:(S ++ ⟨#[32]⟩).size=S.size+1:=by rw [ByteArray.size_append];rfl
 go_wp2_with fail;go_ret;exact ⟨by rw [<-E.out];rfl,hb1⟩
theorem nV (n d:Int) (hn : -1073741824<=n/\n<=1073741824) (hd : -1073741824<=d/\d<=1073741824) (w:World) :
  Calls Tryz.prog 21 #[.agg #[.int .i64 n,.int .i64 d]] w fun e w'=>e=.returned (.string (B8 (Num.bg n d)))/\Below w.heap.size w w':=by
 have E:Hid (B8 (Num.aR n) ++ ⟨#[47]⟩ ++ B8 (Num.aR d)=B8 (Num.bg n d)):=show B8 (Num.aR n) ++ B8 [47] ++ B8 (Num.aR d)=_ by rw [bL,bL,List.append_assoc];rfl
 have s1:(B8 (Num.aR n)).size<=20:=by rw [aQ];exact ed n (by omega) (by omega)
 have s2:(B8 (Num.aR d)).size<=20:=by rw [aQ];exact ed d (by omega) (by omega)
 have n1:¬ 9223372036854775807 < (B8 (Num.aR n)).size+1:=by omega
 have n2:¬ 9223372036854775807 < (B8 (Num.aR n)).size+1+(B8 (Num.aR d)).size:=by omega
 have hB0:=af w (.cells #[.int .i64 n,.int .i64 d] 66);have c0:=(aU (w:=w) rfl (.int .i64 n) (.int .i64 d) 66).1;have c1:=(aU (w:=w) rfl (.int .i64 n) (.int .i64 d) 66).2;go_enter Tryz.func21,Tryz.ntmps21;go_wp2_with fail;generalize w.alloc (.cells #[.int .i64 n,.int .i64 d] 66)=V at *;have q0:∀w',Below V.heap.size V w'->w'.cell? ⟨w.heap.size,0,none⟩=some (.int .i64 n):=fun w' h=>carry h c0;have q1:∀w',Below V.heap.size V w'->w'.cell? ⟨w.heap.size,1,none⟩=some (.int .i64 d):=fun w' h=>carry h c1;have K1:Hid (∀w',Below V.heap.size V w'->Calls Tryz.prog 17 #[.int .i64 n] w' fun e w''=>e=.returned (.string (B8 (Num.aR n)))/\Below V.heap.size V w''):=fun w' h=>(lW n (by omega) w').mono fun _ _ k=>⟨k.1,ai h k.2⟩;have K2:Hid (∀w',Below V.heap.size V w'->Calls Tryz.prog 17 #[.int .i64 d] w' fun e w''=>e=.returned (.string (B8 (Num.aR d)))/\Below V.heap.size V w''):=fun w' h=>(lW d (by omega) w').mono fun _ _ k=>⟨k.1,ai h k.2⟩;clear c0 c1;generalize B8 (Num.aR n)=N0 at E K1 n1 n2;generalize B8 (Num.aR d)=D0 at E K2 n2;clear s1 s2;go_region_held3 (fun w'=>Below V.heap.size V w') (first|with_reducible assumption|exact (Below.refl _ _).drew)
  (first|(go_at_call_of 17 (Value.int .i64 n);refine (K1.out _ ?_).mono ?_;with_reducible assumption;rintro e v1 ⟨rfl,hb1⟩)
           | (go_at_call_of 17 (Value.int .i64 d);refine (K2.out _ ?_).mono ?_;with_reducible assumption;rintro e v2 ⟨rfl,hb2⟩))
 all_goals go_wp2_with fail
 all_goals go_ret
 all_goals exact ⟨by rw [<-E.out];rfl,hB0.trans (Below.mono (by with_reducible assumption) hB0.size)⟩
open Go.RowKit
theorem GR (Q:Nat) (ca:Option Addr) (cl cc:Nat) (ra:Option Addr) (rl rc:Nat) (p:Num.Lp) (w:World) (h:Has Q w ca cl cc ra rl rc p) (hL:Laid w) (la:Option Addr) (n lc:Nat) (l:List Int) (hl:Ints w la n l) (hn:n<=100000000) :
  Calls Tryz.prog 11 #[.pointer (some ⟨Q,0,none⟩),.string (B8 Num.eX),.slice la n lc] w fun e w'=>e=.returned (.string (B8 (Num.jg p)))/\Below w.heap.size w w':=by
 have HH:Hid (Has Q w ca cl cc ra rl rc p):=h;have HT:Hid (Laid w):=hL;have HI:Hid (Ints w la n l):=hl;have HN:Hid (n=l.length):=hl.1;obtain ⟨i0,hif,hz0,hz1,hz2⟩:=info_parts Tryz.mV;clear h hL hl;have a1:((B8 Num.eX).toList == [115,111,108,118,101])=true:=(str_eq rfl).1;go_enter Tryz.func11,Tryz.ntmps11;generalize B8 Num.eX=S at a1 ⊢;go_wp2_with fail;go_loopw [7,8] (fun v i wr=>∃(k:Nat) (aa:Option Addr) (ac:Nat),k<=n/\i=.int .i64 k/\v=.slice aa k ac/\wr.ownsRow w.heap.size 3 1 (.slice aa k ac) k ((l.take k).map (Value.int .i64))/\Below w.heap.size w wr) (fun _ i _=>n - (intOf i).toNat)
 case atStart=>exact ⟨0,none,0,Nat.zero_le _,rfl,rfl,World.ownsRow_nil _ _ _ _,Below.refl _ _⟩
 case round =>
  obtain ⟨k,aa,ac,hk,rfl,rfl,hown,hbl⟩:=hrel;have HO:Hid (wr.ownsRow w.heap.size 3 1 (.slice aa k ac) k ((l.take k).map (Value.int .i64))):=hown;clear hown;by_cases hlt:k < n
  ·have hkl:k < l.length:=by have:=HN.out;omega
   rcases (HI.out.below hbl (Nat.le_refl _)).2 with h|⟨b,off,ha,hbs,hc⟩
   ·omega
   have ck:=hc k hlt;clear hc;have Lx:Hid ((l.take (k+1)).map (Value.int .i64)=(l.take k).map (Value.int .i64) ++ [.int .i64 (l[k]?.getD 0)]):=show _=_ by rw [List.take_succ_eq_append_getElem hkl,List.map_append,List.getElem?_eq_getElem hkl];rfl
   generalize l[k]?.getD 0=x at ck Lx;subst ha;go_wp2_with (at_builtin;refine wpList_append_own _ rfl (.tmp 29) (.tmp 34) 62 rfl w.heap.size 3 i0 (.int .i64 0) 1 8 Tryz.underlying62 hif hz0 hz1 hz2 rfl (by decide) _ _ _ rfl (by exact World.ownsRow.alloc HO.out _) ⟨wr.heap.size,0,none⟩ 1 1 [.int .i64 x] rfl rfl ?o3 ?o4 ?o5 ?o6 ?o7 ?_)
   case o3=>first|exact eu rfl _ _|exact dQ rfl _ _
   case o4=>first|rfl|(intro u hu;simp at hu;subst hu;rfl)
   case o5=>unfold maxLen;omega
   case o6=>omega
   case o7=>have:=hbl.size;simp;omega
   intro v' w3 hown' hgrow _;obtain ⟨a',c',hv'⟩:=dW hown';subst hv';have hB:Below w.heap.size w w3:=Below.grown (by exact hbl.alloc hbl.size _) hgrow (by have:=hbl.size;simp;omega) (fun j hj=>(World.ownsRow.lt HO.out j hj).1);have R:Hid (w3.ownsRow w.heap.size 3 1 (.slice a' (k+1) c') (k+1) ((l.take (k+1)).map (Value.int .i64))):=by
    show w3.ownsRow _ _ _ _ _ _;rw [Lx.out]
    first|exact hown'|(rw [<-List.map_take] at hown';exact hown')
   clear hown' hgrow;go_wp2_with fail;go_roundw
   case rel=>exact ⟨k+1,a',c',by omega,by go_num,rfl,R.out,hB⟩
   case measure=>simp [intOf];omega
  ·have hke:k=n:=by omega
   subst hke;have HAT:Hid (Ints wr aa k l):=by have h1:=HO.out;rw [List.take_of_length_le (by have:=HN.out;omega)] at h1;obtain ⟨a',c',hv,hi,_⟩:=Ints.jr h1 HN.out;simp only [Value.slice.injEq] at hv;obtain ⟨rfl,_,_⟩:=hv;exact hi
   have jH:Hid (Has Q wr ca cl cc ra rl rc p):=HH.out.later hbl;have XH:Hid (Laid wr):=HT.out.later hbl;have c0:=jH.out.c0;have c1:=jH.out.c1;clear HO;go_wp2_with fail;refine (BN ca cl cc ra rl rc p wr jH.out.costs (by have:=jH.out.NW;omega) jH.out.rows (by have:=jH.out.Jt;omega)).mono ?_;rintro e w1 ⟨hb1,⟨hm,_⟩|⟨_,a,xa,xl,xc,ya,yl,yc,za,zl,zc,rfl,_,hh⟩⟩
   ·exact absurd (jH.out.may.symm.trans hm) (by decide)
   have HS:Hid (B8 (Num.zK a)=B8 (Num.jg p)):=show _=_ by rw [Num.zL p a hh]
   have Le:Hid (a.kind=1->(-1073741824<=a.wn/\a.wn<=1073741824)/\(-1073741824<=a.wd/\a.wd<=1073741824)):=Num.qM p a hh;obtain ⟨kd,x,xd,y,yd,r,rd,wn,wd⟩:=a;clear hh c0 c1;have hN:=iT.new w1 (.int .i64 kd) (.slice xa xl xc) (.int .i64 xd) (.slice ya yl yc) (.int .i64 yd) (.slice za zl zc) (.int .i64 rd) (.int .i64 wn) (.int .i64 wd) 68;have tQ:=ai (ai hbl hb1) (af w1 (.cells #[.int .i64 kd,.slice xa xl xc,.int .i64 xd,.slice ya yl yc,.int .i64 yd,.slice za zl zc,.int .i64 rd,.int .i64 wn,.int .i64 wd] 68));clear hb1 hbl;by_cases hk1:kd=1
   ·obtain ⟨hwn,hwd⟩:=Le.out hk1;subst hk1;have E:Hid (⟨#[98,101,115,116,32]⟩ ++ B8 (Num.bg wn wd)=B8 (Num.jg p)):=show B8 [98,101,115,116,32] ++ B8 (Num.bg wn wd)=_ by rw [bL,<-HS.out];rfl
    have s1:(B8 (Num.bg wn wd)).size<=23:=by rw [aQ];exact Num.gL wn wd hwn hwd
    clear hN;go_wp2_with fail;refine (nV wn wd hwn hwd _).mono ?_;rintro e w2 ⟨rfl,hb2⟩;generalize B8 (Num.bg wn wd)=FT at E s1;go_wp2_with fail;go_ret;exact ⟨by rw [<-E.out];rfl,ai tQ hb2⟩
   ·have hq1:(kd == 1)=false:=by simpa using hk1
    by_cases hk2:kd=2
    ·subst hk2;have E:Hid (B8 Num.mr=B8 (Num.jg p)):=HS.out;go_wp2_with fail;go_ret;exact ⟨by rw [<-E.out];rfl,tQ⟩
    ·have hq2:(kd == 2)=false:=by simpa using hk2
     have E:Hid (B8 Num.qK=B8 (Num.jg p)):=show _=_ by rw [<-HS.out];unfold Num.zK;rw [if_neg hk1,if_neg hk2]
     clear hk1 hk2;go_wp2_with fail;go_ret;exact ⟨by rw [<-E.out];rfl,tQ⟩
theorem JF (Q:Nat) (ca:Option Addr) (cl cc:Nat) (ra:Option Addr) (rl rc:Nat) (p:Num.Lp) (w:World) (h:Has Q w ca cl cc ra rl rc p) (hL:Laid w) (la:Option Addr) (n lc:Nat) (l:List Int) (hl:Ints w la n l) (hn:n<=100000000) :
  Calls Tryz.prog 11 #[.pointer (some ⟨Q,0,none⟩),.string (B8 Num.gW),.slice la n lc] w fun e w'=>e=.returned (.string (B8 (Num.aR (Num.jI p).length)))/\Below w.heap.size w w':=by
 have HH:Hid (Has Q w ca cl cc ra rl rc p):=h;have HT:Hid (Laid w):=hL;have HI:Hid (Ints w la n l):=hl;have HN:Hid (n=l.length):=hl.1;obtain ⟨i0,hif,hz0,hz1,hz2⟩:=info_parts Tryz.mV;clear h hL hl;have a1:((B8 Num.gW).toList == [115,111,108,118,101])=false:=(eY (by decide)).1;have a2:((B8 Num.gW).toList == [115,104,111,119])=true:=(str_eq rfl).1;go_enter Tryz.func11,Tryz.ntmps11;generalize B8 Num.gW=S at a1 a2 ⊢;go_wp2_with fail;go_loopw [7,8] (fun v i wr=>∃(k:Nat) (aa:Option Addr) (ac:Nat),k<=n/\i=.int .i64 k/\v=.slice aa k ac/\wr.ownsRow w.heap.size 3 1 (.slice aa k ac) k ((l.take k).map (Value.int .i64))/\Below w.heap.size w wr) (fun _ i _=>n - (intOf i).toNat)
 case atStart=>exact ⟨0,none,0,Nat.zero_le _,rfl,rfl,World.ownsRow_nil _ _ _ _,Below.refl _ _⟩
 case round =>
  obtain ⟨k,aa,ac,hk,rfl,rfl,hown,hbl⟩:=hrel;have HO:Hid (wr.ownsRow w.heap.size 3 1 (.slice aa k ac) k ((l.take k).map (Value.int .i64))):=hown;clear hown;by_cases hlt:k < n
  ·have hkl:k < l.length:=by have:=HN.out;omega
   rcases (HI.out.below hbl (Nat.le_refl _)).2 with h|⟨b,off,ha,hbs,hc⟩
   ·omega
   have ck:=hc k hlt;clear hc;have Lx:Hid ((l.take (k+1)).map (Value.int .i64)=(l.take k).map (Value.int .i64) ++ [.int .i64 (l[k]?.getD 0)]):=show _=_ by rw [List.take_succ_eq_append_getElem hkl,List.map_append,List.getElem?_eq_getElem hkl];rfl
   generalize l[k]?.getD 0=x at ck Lx;subst ha;go_wp2_with (at_builtin;refine wpList_append_own _ rfl (.tmp 29) (.tmp 34) 62 rfl w.heap.size 3 i0 (.int .i64 0) 1 8 Tryz.underlying62 hif hz0 hz1 hz2 rfl (by decide) _ _ _ rfl (by exact World.ownsRow.alloc HO.out _) ⟨wr.heap.size,0,none⟩ 1 1 [.int .i64 x] rfl rfl ?o3 ?o4 ?o5 ?o6 ?o7 ?_)
   case o3=>first|exact eu rfl _ _|exact dQ rfl _ _
   case o4=>first|rfl|(intro u hu;simp at hu;subst hu;rfl)
   case o5=>unfold maxLen;omega
   case o6=>omega
   case o7=>have:=hbl.size;simp;omega
   intro v' w3 hown' hgrow _;obtain ⟨a',c',hv'⟩:=dW hown';subst hv';have hB:Below w.heap.size w w3:=Below.grown (by exact hbl.alloc hbl.size _) hgrow (by have:=hbl.size;simp;omega) (fun j hj=>(World.ownsRow.lt HO.out j hj).1);have R:Hid (w3.ownsRow w.heap.size 3 1 (.slice a' (k+1) c') (k+1) ((l.take (k+1)).map (Value.int .i64))):=by
    show w3.ownsRow _ _ _ _ _ _;rw [Lx.out]
    first|exact hown'|(rw [<-List.map_take] at hown';exact hown')
   clear hown' hgrow;go_wp2_with fail;go_roundw
   case rel=>exact ⟨k+1,a',c',by omega,by go_num,rfl,R.out,hB⟩
   case measure=>simp [intOf];omega
  ·have hke:k=n:=by omega
   subst hke;have HAT:Hid (Ints wr aa k l):=by have h1:=HO.out;rw [List.take_of_length_le (by have:=HN.out;omega)] at h1;obtain ⟨a',c',hv,hi,_⟩:=Ints.jr h1 HN.out;simp only [Value.slice.injEq] at hv;obtain ⟨rfl,_,_⟩:=hv;exact hi
   have jH:Hid (Has Q wr ca cl cc ra rl rc p):=HH.out.later hbl;have XH:Hid (Laid wr):=HT.out.later hbl;have c0:=jH.out.c0;have c1:=jH.out.c1;clear HO;have hlen:(Num.jI p).length<=1000:=by have:=um p jH.out.may p.rows.length (Nat.le_refl _);rw [uk] at this;have:=(p.aj jH.out.may).2.2.1;omega
   go_wp2_with fail;refine (Bl ca cl cc ra rl rc p wr jH.out.costs (by have:=jH.out.NW;omega) jH.out.rows (by have:=jH.out.Jt;omega) jH.out.may XH.out.tab).mono ?_;rintro e w1 ⟨rfl,hb1⟩;have hs:=aQ (Num.jI p);clear c0 c1;go_wp2_with fail;refine (lW _ (by omega) w1).mono ?_;rintro e w2 ⟨rfl,hb2⟩;go_wp2_with fail;go_ret;exact ⟨rfl,ai (ai hbl hb1) hb2⟩
theorem JG (Q:Nat) (ca:Option Addr) (cl cc:Nat) (ra:Option Addr) (rl rc:Nat) (p:Num.Lp) (w:World) (h:Has Q w ca cl cc ra rl rc p) (hL:Laid w) (la:Option Addr) (n lc:Nat) (l:List Int) (hl:Ints w la n l) (hn:n<=100000000) :
  Calls Tryz.prog 11 #[.pointer (some ⟨Q,0,none⟩),.string (B8 Num.fZ),.slice la n lc] w fun e w'=>e=.returned (.string (B8 (Num.jm p l)))/\Below w.heap.size w w':=by
 have HH:Hid (Has Q w ca cl cc ra rl rc p):=h;have HT:Hid (Laid w):=hL;have HI:Hid (Ints w la n l):=hl;have HN:Hid (n=l.length):=hl.1;obtain ⟨i0,hif,hz0,hz1,hz2⟩:=info_parts Tryz.mV;clear h hL hl;have a1:((B8 Num.fZ).toList == [115,111,108,118,101])=false:=(eY (by decide)).1;have a2:((B8 Num.fZ).toList == [115,104,111,119])=false:=(eY (by decide)).1;have a3:((B8 Num.fZ).toList == [108,111,111,107])=false:=(eY (by decide)).1;have a4:((B8 Num.fZ).toList == [119,97,108,107])=true:=(str_eq rfl).1;go_enter Tryz.func11,Tryz.ntmps11;generalize B8 Num.fZ=S at a1 a2 a3 a4 ⊢;go_wp2_with fail;go_loopw [7,8] (fun v i wr=>∃(k:Nat) (aa:Option Addr) (ac:Nat),k<=n/\i=.int .i64 k/\v=.slice aa k ac/\wr.ownsRow w.heap.size 3 1 (.slice aa k ac) k ((l.take k).map (Value.int .i64))/\Below w.heap.size w wr) (fun _ i _=>n - (intOf i).toNat)
 case atStart=>exact ⟨0,none,0,Nat.zero_le _,rfl,rfl,World.ownsRow_nil _ _ _ _,Below.refl _ _⟩
 case round =>
  obtain ⟨k,aa,ac,hk,rfl,rfl,hown,hbl⟩:=hrel;have HO:Hid (wr.ownsRow w.heap.size 3 1 (.slice aa k ac) k ((l.take k).map (Value.int .i64))):=hown;clear hown;by_cases hlt:k < n
  ·have hkl:k < l.length:=by have:=HN.out;omega
   rcases (HI.out.below hbl (Nat.le_refl _)).2 with h|⟨b,off,ha,hbs,hc⟩
   ·omega
   have ck:=hc k hlt;clear hc;have Lx:Hid ((l.take (k+1)).map (Value.int .i64)=(l.take k).map (Value.int .i64) ++ [.int .i64 (l[k]?.getD 0)]):=show _=_ by rw [List.take_succ_eq_append_getElem hkl,List.map_append,List.getElem?_eq_getElem hkl];rfl
   generalize l[k]?.getD 0=x at ck Lx;subst ha;go_wp2_with (at_builtin;refine wpList_append_own _ rfl (.tmp 29) (.tmp 34) 62 rfl w.heap.size 3 i0 (.int .i64 0) 1 8 Tryz.underlying62 hif hz0 hz1 hz2 rfl (by decide) _ _ _ rfl (by exact World.ownsRow.alloc HO.out _) ⟨wr.heap.size,0,none⟩ 1 1 [.int .i64 x] rfl rfl ?o3 ?o4 ?o5 ?o6 ?o7 ?_)
   case o3=>first|exact eu rfl _ _|exact dQ rfl _ _
   case o4=>first|rfl|(intro u hu;simp at hu;subst hu;rfl)
   case o5=>unfold maxLen;omega
   case o6=>omega
   case o7=>have:=hbl.size;simp;omega
   intro v' w3 hown' hgrow _;obtain ⟨a',c',hv'⟩:=dW hown';subst hv';have hB:Below w.heap.size w w3:=Below.grown (by exact hbl.alloc hbl.size _) hgrow (by have:=hbl.size;simp;omega) (fun j hj=>(World.ownsRow.lt HO.out j hj).1);have R:Hid (w3.ownsRow w.heap.size 3 1 (.slice a' (k+1) c') (k+1) ((l.take (k+1)).map (Value.int .i64))):=by
    show w3.ownsRow _ _ _ _ _ _;rw [Lx.out]
    first|exact hown'|(rw [<-List.map_take] at hown';exact hown')
   clear hown' hgrow;go_wp2_with fail;go_roundw
   case rel=>exact ⟨k+1,a',c',by omega,by go_num,rfl,R.out,hB⟩
   case measure=>simp [intOf];omega
  ·have hke:k=n:=by omega
   subst hke;have HAT:Hid (Ints wr aa k l):=by have h1:=HO.out;rw [List.take_of_length_le (by have:=HN.out;omega)] at h1;obtain ⟨a',c',hv,hi,_⟩:=Ints.jr h1 HN.out;simp only [Value.slice.injEq] at hv;obtain ⟨rfl,_,_⟩:=hv;exact hi
   have jH:Hid (Has Q wr ca cl cc ra rl rc p):=HH.out.later hbl;have XH:Hid (Laid wr):=HT.out.later hbl;have c0:=jH.out.c0;have c1:=jH.out.c1;clear HO;go_wp2_with fail;refine (zn ca cl cc ra rl rc p wr jH.out.costs (by have:=jH.out.NW;omega) jH.out.rows (by have:=jH.out.Jt;omega) aa k ac l HAT.out (by omega)).mono ?_;rintro e w1 ⟨ya,ll,yc,kd,er,rfl,lw,hlw,hl4,hwk,hb1⟩;have Xx:Hid (Num.ik p l lw kd er):=hwk;have ng:Hid (ll=lw.length):=hlw.1;have her:=Num.tu hwk;have XC:Hid (Num.jm p l=Num.uO lw kd er):=Num.vY hwk;have hB1:Below w.heap.size w w1:=ai hbl hb1;clear hlw hwk hb1 c0 c1;by_cases h0:er=0
   ·subst h0;by_cases hk1:kd=1
    ·subst hk1;have HE:Hid (B8 (Num.dC Num.qJ ll)=B8 (Num.jm p l)):=show _=_ by rw [XC.out,ng.out];rfl
     go_wp2_with fail;refine (iE Num.qJ ll (by decide) (by omega) w1).mono ?_;rintro e w2 ⟨rfl,hb2⟩;go_wp2_with fail;go_ret;exact ⟨by rw [<-HE.out];rfl,ai hB1 hb2⟩
    ·have hq1:(kd == 1)=false:=by simpa using hk1
     have HE:Hid (B8 (Num.dC Num.mr ll)=B8 (Num.jm p l)):=show _=_ by rw [XC.out,ng.out];unfold Num.uO;rw [if_neg (by omega),if_neg hk1]
     clear hk1;go_wp2_with fail;refine (iE Num.mr ll (by decide) (by omega) w1).mono ?_;rintro e w2 ⟨rfl,hb2⟩;go_wp2_with fail;go_ret;exact ⟨by rw [<-HE.out];rfl,ai hB1 hb2⟩
   ·have h0':(er != 0)=true:=by simpa using h0
    have HE:Hid (B8 (Num.dC Num.iK er)=B8 (Num.jm p l)):=show _=_ by rw [XC.out];unfold Num.uO;rw [if_pos h0]
    go_wp2_with fail;refine (iE Num.iK er (by decide) (by omega) w1).mono ?_;rintro e w2 ⟨rfl,hb2⟩;go_wp2_with fail;go_ret;exact ⟨by rw [<-HE.out];rfl,ai hB1 hb2⟩
end Go.Proofs.YtipcbhodlgoflabGreatDoor
