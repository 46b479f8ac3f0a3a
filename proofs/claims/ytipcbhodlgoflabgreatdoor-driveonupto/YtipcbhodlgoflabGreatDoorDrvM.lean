/- Package drive's small functions: said, number, bad, named, fraction, columns. -/
import Derived.Test.YtipcbhodlgoflabGreatDoorDrvA
import Derived.Test.YtipcbhodlgoflabGreatDoorTxFG
import Derived.Test.YtipcbhodlgoflabGreatDoorTxAB
import Derived.Test.YtipcbhodlgoflabGreatDoorSrtL
import Derived.Test.YtipcbhodlgoflabGreatDoorSlvW7
import Derived.Test.YtipcbhodlgoflabGreatDoorBxs
import Derived.Test.YtipcbhodlgoflabGreatDoorSwpW
import Derived.Deep.CutRange
set_option maxHeartbeats 1600000
set_option maxRecDepth 8000
namespace Go.Proofs.YtipcbhodlgoflabGreatDoor
open Go.RowKit
theorem Rb (n:Int) (h0 : -9223372036854775808<=n) (h1:n<=9223372036854775807) (w:World) (ht:Lib.TabIs Tryz.prog w "internal/strconv.uint64pow10" .u64 Lib.pow10Tab) :
  Calls Tryz.prog 115 #[.int .i64 n] w fun e w'=>e=.returned (.string (B8 (Num.aR n)))/\Below w.heap.size w w':=by
 refine (Tryz.strconv_Itoa n h0 h1 w ht).mono ?_;rintro e w' ⟨rfl,k,os,rfl⟩;refine ⟨?_,Lib.below_grow _ _ (Nat.le_refl _) _ _⟩;rw [Num.Er];rfl
theorem nT (n:Int) (h0 : -9223372036854775808<=n) (h1:n<=9223372036854775807) (w:World) (ht:Lib.TabIs Tryz.prog w "internal/strconv.uint64pow10" .u64 Lib.pow10Tab) :
  Calls Tryz.prog 72 #[.int .i64 n] w fun e w'=>e=.returned (.string (B8 (Num.aR n)))/\Below w.heap.size w w':=by
 go_enter Tryz.func72,Tryz.ntmps72;go_wp2_with fail;refine (Rb n h0 h1 w ht).mono ?_;rintro e w1 ⟨rfl,hb1⟩;go_wp2_with fail;go_ret;exact ⟨rfl,hb1⟩
theorem GJ (g c n:Nat) (ws:List (List UInt8)) (base:Nat) (w:World) (hown:w.ownsRow base 9 1 (.slice (some ⟨g,0,none⟩) n c) n (strs ws)) (hn:1<=n) (hn2:n<=1000000) (hj:(Num.joinW 32 ws).length<=1000000) :
  Calls Tryz.prog 71 #[.slice (some ⟨g,0,none⟩) n c] w fun e w'=>e=.returned (.string (B8 (Num.joinW 32 ws)))/\Below w.heap.size w w':=by
 have HO:Hid (w.ownsRow base 9 1 (.slice (some ⟨g,0,none⟩) n c) n (strs ws)):=hown;clear hown;go_enter Tryz.func71,Tryz.ntmps71;go_wp2_with fail;refine (EB g c n ws base w HO.out hn hn2 hj).mono ?_;rintro e w1 ⟨rfl,hb1⟩;go_wp2_with fail;go_ret;exact ⟨rfl,hb1⟩
theorem DV {w:World} {k:Nat} (hk:k=w.heap.size) (x y:List UInt8) : (w.alloc (.cells #[.string (B8 x),.string (B8 y)] 9)).ownsRow 0 9 1 (.slice (some ⟨k,0,none⟩) 2 2) 2 (strs [x,y]) :=
 ⟨rfl,Or.inr ⟨k,2,#[.string (B8 x),.string (B8 y)],rfl,Nat.zero_le _,fM hk _,Nat.le_refl _,by unfold maxLen;omega,rfl,rfl⟩⟩
theorem Rc (x y:List UInt8) : Num.joinW 32 [x,y]=x ++ 32 :: y:=rfl
theorem mD (k:Nat) (x y:List UInt8) (w:World) (hk:k=w.heap.size) (hx:x.length<=1000) (hy:y.length<=1000) :
  Calls Tryz.prog 71 #[.slice (some ⟨k,0,none⟩) 2 2] (w.alloc (.cells #[.string (B8 x),.string (B8 y)] 9)) fun e w'=>e=.returned (.string (B8 (x ++ 32 :: y)))/\Below w.heap.size w w':=by
 refine (GJ k 2 2 [x,y] 0 _ (DV hk x y) (by omega) (by omega) (by rw [Rc,List.length_append,List.length_cons];omega)).mono ?_;rintro e w' ⟨rfl,hb⟩;exact ⟨rfl,dN hb⟩
theorem ed (n:Int) (h0 : -9223372036854775808<=n) (h1:n<=9223372036854775807) : (Num.aR n).length<=20:=by
 have:=Num.kv 18 n.natAbs (by omega);unfold Num.aR;split
 ·rw [List.length_cons];omega
 ·omega
theorem uP (n:Int) (h0 : -9223372036854775808<=n) (h1:n<=9223372036854775807) (w:World) (ht:Lib.TabIs Tryz.prog w "internal/strconv.uint64pow10" .u64 Lib.pow10Tab) :
  Calls Tryz.prog 75 #[.int .i64 n] w fun e w'=>e=.returned (.string (B8 (Num.dC Num.iK n)))/\Below w.heap.size w w':=by
 have hl:=ed n h0 h1;have HS:Hid (∀w1:World,Calls Tryz.prog 71 #[.slice (some ⟨w1.heap.size,0,none⟩) 2 2] (w1.alloc (.cells #[.string (B8 Num.iK),.string (B8 (Num.aR n))] 9)) fun e w'=>e=.returned (.string (B8 (Num.dC Num.iK n)))/\Below w1.heap.size w1 w'):=fun w1=>mD _ Num.iK (Num.aR n) w1 rfl (by decide) (by omega);go_enter Tryz.func75,Tryz.ntmps75;go_wp2_with fail;refine (nT n h0 h1 w ht).mono ?_;rintro e w1 ⟨rfl,hb1⟩;go_wp2_with fail;refine (HS.out w1).mono ?_;rintro e w2 ⟨rfl,hb2⟩;have hB:Below w.heap.size w w2:=ai hb1 hb2;clear hb1 hb2 HS;go_wp2_with fail;go_ret;exact ⟨rfl,hB⟩
def oL (k:Int) : List UInt8:=if k=1 then Num.qJ else if k=2 then Num.mr else Num.qK
theorem wm (k:Int) (w:World) :
  Calls Tryz.prog 77 #[.int .i64 k] w fun e w'=>e=.returned (.string (B8 (oL k)))/\w'=w:=by
 by_cases h1:k=1
 ·subst h1;go_enter Tryz.func77,Tryz.ntmps77;go_wp2_with fail;go_ret;exact ⟨rfl,rfl⟩
 ·have q1:(k == 1)=false:=by simpa using h1
  by_cases h2:k=2
  ·subst h2;go_enter Tryz.func77,Tryz.ntmps77;go_wp2_with fail;go_ret;exact ⟨rfl,rfl⟩
  ·have q2:(k == 2)=false:=by simpa using h2
   have e:oL k=Num.qK:=by unfold oL;rw [if_neg h1,if_neg h2]
   rw [e];clear h1 h2 e;go_enter Tryz.func77,Tryz.ntmps77;go_wp2_with fail;go_ret;exact ⟨rfl,rfl⟩
theorem nU (n d:Int) (hn : -1073741824<=n/\n<=1073741824) (hd : -1073741824<=d/\d<=1073741824) (w:World) (ht:Lib.TabIs Tryz.prog w "internal/strconv.uint64pow10" .u64 Lib.pow10Tab) :
  Calls Tryz.prog 78 #[.agg #[.int .i64 n,.int .i64 d]] w fun e w'=>e=.returned (.string (B8 (Num.bg n d)))/\Below w.heap.size w w':=by
 have HT:Hid (Lib.TabIs Tryz.prog w "internal/strconv.uint64pow10" .u64 Lib.pow10Tab):=ht;have E:Hid (B8 (Num.aR n) ++ ⟨#[47]⟩ ++ B8 (Num.aR d)=B8 (Num.bg n d)):=show B8 (Num.aR n) ++ B8 [47] ++ B8 (Num.aR d)=_ by rw [bL,bL,List.append_assoc];rfl
 have s1:(B8 (Num.aR n)).size<=20:=by rw [aQ];exact ed n (by omega) (by omega)
 have s2:(B8 (Num.aR d)).size<=20:=by rw [aQ];exact ed d (by omega) (by omega)
 have n1:¬ 9223372036854775807 < (B8 (Num.aR n)).size+1:=by omega
 have n2:¬ 9223372036854775807 < (B8 (Num.aR n)).size+1+(B8 (Num.aR d)).size:=by omega
 have hB0:=af w (.cells #[.int .i64 n,.int .i64 d] 66);have c0:=(aU (w:=w) rfl (.int .i64 n) (.int .i64 d) 66).1;have c1:=(aU (w:=w) rfl (.int .i64 n) (.int .i64 d) 66).2;have hs0:(w.alloc (.cells #[.int .i64 n,.int .i64 d] 66)).heap.size=w.heap.size+1:=by simp
 go_enter Tryz.func78,Tryz.ntmps78;go_wp2_with fail;generalize w.alloc (.cells #[.int .i64 n,.int .i64 d] 66)=V at *;have q0:∀w',Below V.heap.size V w'->w'.cell? ⟨w.heap.size,0,none⟩=some (.int .i64 n):=fun w' h=>carry h c0;have q1:∀w',Below V.heap.size V w'->w'.cell? ⟨w.heap.size,1,none⟩=some (.int .i64 d):=fun w' h=>carry h c1;have K:Hid (∀x w',(x=n\/x=d)->Below V.heap.size V w'->Calls Tryz.prog 93 #[.int .i64 x,.int .i64 10] w' fun e w''=>e=.returned (.string (B8 (Num.aR x)))/\Below V.heap.size V w''):=by intro x w' hx h;exact (rW x (by omega) (by omega) w' (cO HT.out (hB0.trans (h.mono (by omega))))).mono fun _ _ k=>⟨k.1,ai h k.2⟩
 have K1:Hid (∀w',Below V.heap.size V w'->Calls Tryz.prog 93 #[.int .i64 n,.int .i64 10] w' fun e w''=>e=.returned (.string (B8 (Num.aR n)))/\Below V.heap.size V w''):=fun w' h=>K.out n w' (Or.inl rfl) h;have K2:Hid (∀w',Below V.heap.size V w'->Calls Tryz.prog 93 #[.int .i64 d,.int .i64 10] w' fun e w''=>e=.returned (.string (B8 (Num.aR d)))/\Below V.heap.size V w''):=fun w' h=>K.out d w' (Or.inr rfl) h;clear c0 c1 K ht hs0;generalize B8 (Num.aR n)=N0 at E K1 n1 n2;generalize B8 (Num.aR d)=D0 at E K2 n2;clear s1 s2;go_region_held3 (fun w'=>Below V.heap.size V w') (first|with_reducible assumption|exact (Below.refl _ _).drew)
  (first|(go_at_call_of 93 (Value.int .i64 n);refine (K1.out _ ?_).mono ?_;with_reducible assumption;rintro e v1 ⟨rfl,hb1⟩)
           | (go_at_call_of 93 (Value.int .i64 d);refine (K2.out _ ?_).mono ?_;with_reducible assumption;rintro e v2 ⟨rfl,hb2⟩))
 all_goals go_wp2_with fail
 all_goals go_ret
 all_goals exact ⟨by rw [<-E.out];rfl,hB0.trans (Below.mono (by with_reducible assumption) hB0.size)⟩
open Go.RowKit
def mE (w:World) (base g n:Nat) (l:List Int) : Prop:=w.ownsRow base 3 1 (.slice (some ⟨g,0,none⟩) n n) n (l.map (Value.int .i64))
theorem mE.made {w:World} {base g n:Nat} (f:Nat->Int) (h:w.ownsRow base 3 1 (.slice (some ⟨g,0,none⟩) n n) n (madeCells (Value.int .i64 0).cells (n*1)).toList) : mE w base g n (Num.fill f n 0):=by
 unfold mE;rw [Num.qO,List.map_replicate];have e:(madeCells (Value.int .i64 0).cells (n*1)).toList=List.replicate n (Value.int .i64 0):=by rw [Nat.mul_one];exact toList_madeCells_one _ _
 rw [e] at h;exact h
theorem mE.len {w:World} {base g n:Nat} {l:List Int} (h:mE w base g n l) : l.length=n:=by simpa using h.1
theorem mE.cell {w:World} {base g n:Nat} {l:List Int} (h:mE w base g n l) (k:Nat) (hk:k < n) : w.cell? ⟨g,k,none⟩=some (.int .i64 (l[k]?.getD 0))/\w.frozen? ⟨g,k,none⟩=false:=by refine ⟨?_,World.ownsRow.frozenAt h k⟩;have:=World.ownsRow.cellAt h k (by omega);rw [this,List.getElem?_map,List.getElem?_eq_getElem (by have:=h.len;omega)];simp
theorem mE.cell' {w:World} {base g n:Nat} {l:List Int} (h:mE w base g n l) (k:Nat) (hk:k < n) : (∃u,w.cell? ⟨g,k,none⟩=some u)/\w.frozen? ⟨g,k,none⟩=false:=⟨⟨_,(h.cell k hk).1⟩,(h.cell k hk).2⟩
theorem mE.store {w:World} {base g n:Nat} {l:List Int} (h:mE w base g n l) (k:Nat) (v:Int) : mE (w.setCell ⟨g,k,none⟩ (.int .i64 v)) base g n (l.set k v):=by unfold mE;rw [List.map_set];exact (World.ownsRow.stored h k (.int .i64 v)).1
theorem mE.lt {w:World} {base g n:Nat} {l:List Int} (h:mE w base g n l) : base<=g/\g < w.heap.size:=World.ownsRow.lt h g rfl
theorem mE.ints {w:World} {base g n:Nat} {l:List Int} (h:mE w base g n l) : Ints w (some ⟨g,0,none⟩) n l :=
 ⟨h.len.symm,Or.inr ⟨g,0,rfl,h.lt.2,fun j hj=>by rw [Nat.zero_add];exact (h.cell j hj).1⟩⟩
theorem Js (l:List Int) : (List.range l.length).map (fun k=>l[k]?.getD 0)=l:=by
 apply List.ext_getElem?;intro i;rw [List.getElem?_map];by_cases h:i < l.length
 ·simp [h]
 ·rw [List.getElem?_eq_none (by simp;omega),List.getElem?_eq_none (by omega)];rfl
theorem uQ (a:Option Addr) (n c:Nat) (l:List Int) (w:World) (hi:Ints w a n l) (h5:n<=5) :
  Calls Tryz.prog 116 #[.slice a n c] w fun e w'=>∃g,e=.returned (.slice (some ⟨g,0,none⟩) n n)/\Ints w' (some ⟨g,0,none⟩) n l/\Below w.heap.size w w':=by
 have HI:Hid (Ints w a n l):=hi;have HL:Hid (n=l.length):=hi.1;clear hi;obtain ⟨i0,hif,hz0,hz1,hz2⟩:=info_parts Tryz.mV;go_enter Tryz.func116,Tryz.ntmps116;go_wp2_with (at_make;refine wpList_make_full _ rfl (.tmp 7) (.tmp 7) 62 rfl w.heap.size 3 i0 (.int .i64 0) 1 Tryz.underlying62 hif hz0 hz1 .i64 .i64 _ _ n rfl rfl rfl rfl (by rw [hz2];omega) (by unfold maxLen;omega) (by simp) ?_;intro w3 hown hgrow;have hb3:=bY hgrow;have HO:Hid _:=hown;clear hown hgrow);have rD:Hid (mE w3 w.heap.size w.heap.size n (Num.fill (fun k=>l[k]?.getD 0) n 0)):=mE.made _ HO.out;clear HO;go_loopw [11] (fun i wr=>∃k:Nat,k<=n/\i=.int .i64 k/\mE wr w.heap.size w.heap.size n (Num.fill (fun k=>l[k]?.getD 0) n k)/\Below w.heap.size w wr) (fun i _=>n - (intOf i).toNat)
 case atStart=>exact ⟨0,Nat.zero_le _,rfl,rD.out,hb3⟩
 case round =>
  obtain ⟨k,hk,rfl,hO,hbl⟩:=hrel;have HO:Hid (mE wr w.heap.size w.heap.size n (Num.fill (fun k=>l[k]?.getD 0) n k)):=hO;clear rD hb3;by_cases hlt:k < n
  ·rcases (HI.out.below hbl (Nat.le_refl _)).2 with h|⟨b,off,ha,hbs,hc⟩
   ·omega
   have ck:=hc k hlt;clear hc;obtain ⟨⟨u,u0⟩,u1⟩:=hO.cell' k hlt;have hg:=hO.lt.2;clear hO;have HE:Hid (l[k]?.getD 0=(fun k=>l[k]?.getD 0) k):=rfl;generalize l[k]?.getD 0=x at ck HE;subst ha;go_wp2_with fail;go_roundw
   case rel=>exact ⟨k+1,hlt,by go_num,by rw [<-Num.gJ _ _ _ x hlt HE.out];exact mE.store HO.out k x,aV hbl (Nat.le_refl _) _⟩
   case measure=>simp [intOf];omega
  ·have hke:k=n:=by omega
   subst hke;clear hO;go_wp2_with fail;go_ret;refine ⟨w.heap.size,rfl,?_,hbl⟩;have:=mE.ints HO.out;rw [Num.iN] at this;have e:(List.range k).map (fun k=>l[k]?.getD 0)=l:=by rw [HL.out];exact Js l
   rw [e] at this;exact this
open Go.RowKit
structure Has (P:Nat) (w:World) (ca:Option Addr) (cl cc:Nat) (ra:Option Addr) (rl rc:Nat) (p:Num.Lp) : Prop where
 c0:w.cell? ⟨P,0,none⟩=some (.slice ca cl cc)
 c1:w.cell? ⟨P,1,none⟩=some (.slice ra rl rc)
 costs:Ints w ca cl p.costs
 rows:ay w ra rl p.rows
 may:p.may=true
theorem Has.NW {P:Nat} {w:World} {ca:Option Addr} {cl cc:Nat} {ra:Option Addr} {rl rc:Nat} {p:Num.Lp} (h:Has P w ca cl cc ra rl rc p) : cl<=4:=by have:=h.costs.1;have:=(p.aj h.may).1;omega
theorem Has.Jt {P:Nat} {w:World} {ca:Option Addr} {cl cc:Nat} {ra:Option Addr} {rl rc:Nat} {p:Num.Lp} (h:Has P w ca cl cc ra rl rc p) : rl<=4/\1<=rl:=by have:=h.rows.1;have:=(p.aj h.may).2.2.1;omega
theorem Has.later {P:Nat} {w w':World} {ca:Option Addr} {cl cc:Nat} {ra:Option Addr} {rl rc:Nat} {p:Num.Lp} (h:Has P w ca cl cc ra rl rc p) (hb:Below w.heap.size w w') : Has P w' ca cl cc ra rl rc p :=
 ⟨carry hb h.c0,carry hb h.c1,h.costs.below hb (Nat.le_refl _),h.rows.below hb (Nat.le_refl _),h.may⟩
theorem Ju (P:Nat) (ca:Option Addr) (cl cc:Nat) (ra:Option Addr) (rl rc:Nat) (p:Num.Lp) (w:World) (h:Has P w ca cl cc ra rl rc p) (hL:Laid w) :
  Calls Tryz.prog 36 #[.pointer (some ⟨P,0,none⟩)] w fun e w'=>e=.returned (.string (B8 (Num.jg p)))/\Below w.heap.size w w':=by
 have HH:Hid (Has P w ca cl cc ra rl rc p):=h;have HT:Hid (Laid w):=hL;have c0:=h.c0;have c1:=h.c1;clear h hL;go_enter Tryz.func36,Tryz.ntmps36;go_wp2_with fail;refine (BN ca cl cc ra rl rc p w HH.out.costs (by have:=HH.out.NW;omega) HH.out.rows (by have:=HH.out.Jt;omega)).mono ?_;rintro e w1 ⟨hb1,⟨hm,_⟩|⟨_,a,xa,xl,xc,ya,yl,yc,za,zl,zc,rfl,_,hh⟩⟩
 ·exact absurd (HH.out.may.symm.trans hm) (by decide)
 have HS:Hid (B8 (Num.zK a)=B8 (Num.jg p)):=show _=_ by rw [Num.zL p a hh]
 have Le:Hid (a.kind=1->(-1073741824<=a.wn/\a.wn<=1073741824)/\(-1073741824<=a.wd/\a.wd<=1073741824)):=Num.qM p a hh;obtain ⟨kd,x,xd,y,yd,r,rd,wn,wd⟩:=a;clear hh c0 c1;have hN:=iT.new w1 (.int .i64 kd) (.slice xa xl xc) (.int .i64 xd) (.slice ya yl yc) (.int .i64 yd) (.slice za zl zc) (.int .i64 rd) (.int .i64 wn) (.int .i64 wd) 68;have tQ:=ai hb1 (af w1 (.cells #[.int .i64 kd,.slice xa xl xc,.int .i64 xd,.slice ya yl yc,.int .i64 yd,.slice za zl zc,.int .i64 rd,.int .i64 wn,.int .i64 wd] 68));by_cases hk:kd=1
 ·obtain ⟨hn,hd⟩:=Le.out hk;subst hk;go_upto_region 3 with fail;generalize w1.alloc (.cells #[.int .i64 1,.slice xa xl xc,.int .i64 xd,.slice ya yl yc,.int .i64 yd,.slice za zl zc,.int .i64 rd,.int .i64 wn,.int .i64 wd] 68)=V at *;generalize w1.heap.size=b9 at *;have q0:∀w',Below V.heap.size V w'->w'.cell? ⟨b9,0,none⟩=some (.int .i64 1):=fun w' h=>carry h hN.c0;have q7:∀w',Below V.heap.size V w'->w'.cell? ⟨b9,7,none⟩=some (.int .i64 wn):=fun w' h=>carry h hN.c7;have q8:∀w',Below V.heap.size V w'->w'.cell? ⟨b9,8,none⟩=some (.int .i64 wd):=fun w' h=>carry h hN.c8;have KN:Hid (∀w',Below V.heap.size V w'->Calls Tryz.prog 77 #[.int .i64 1] w' fun e w''=>e=.returned (.string (B8 Num.qJ))/\Below V.heap.size V w''):=fun w' h=>(wm 1 w').mono fun e w'' k=>⟨k.1,by rw [k.2];exact h⟩;have KF:Hid (∀w',Below V.heap.size V w'->Calls Tryz.prog 78 #[.agg #[.int .i64 wn,.int .i64 wd]] w' fun e w''=>e=.returned (.string (B8 (Num.bg wn wd)))/\Below V.heap.size V w''):=fun w' h=>(nU wn wd hn hd w' (cO HT.out.tab (ai tQ h))).mono fun e w'' k=>⟨k.1,ai h k.2⟩;have KS:Hid (∀w',Below V.heap.size V w'->Calls Tryz.prog 71 #[.slice (some ⟨w'.heap.size,0,none⟩) 2 2] (w'.alloc (.cells #[.string (B8 Num.qJ),.string (B8 (Num.bg wn wd))] 9)) fun e w''=>e=.returned (.string (B8 (Num.zK ⟨1,x,xd,y,yd,r,rd,wn,wd⟩)))/\Below V.heap.size V w''):=fun w' h=>(mD _ Num.qJ (Num.bg wn wd) w' rfl (by decide) (by have:=Num.gL wn wd hn hd;omega)).mono fun e w'' k=>⟨k.1,ai h k.2⟩;clear hN hb1 Le hn hd;generalize B8 (Num.zK ⟨1,x,xd,y,yd,r,rd,wn,wd⟩)=R at KS HS;generalize B8 Num.qJ=S1 at KN KS;generalize B8 (Num.bg wn wd)=S2 at KF KS;go_region_held3 (fun w'=>Below V.heap.size V w') (first|with_reducible assumption|exact (Below.refl _ _).drew|(refine Below.alloc ?_ ?_ _<;>first|with_reducible assumption|(apply Below.size;with_reducible assumption)))
   (first|(go_at_call 77;refine (KN.out _ ?_).mono ?_;with_reducible assumption;rintro e v1 ⟨rfl,hb1⟩)
             | (go_at_call 78;refine (KF.out _ ?_).mono ?_;with_reducible assumption;rintro e v2 ⟨rfl,hb2⟩)
             | (go_at_call 71;refine (KS.out _ ?_).mono ?_;with_reducible assumption;rintro e v3 ⟨rfl,hb3⟩))
  all_goals go_wp2_with fail
  all_goals go_ret
  all_goals exact ⟨by rw [<-HS.out];rfl,ai tQ hb3⟩
 ·have hk1:(kd == 1)=false:=by simpa using hk
  have HE:Hid (B8 (oL kd)=B8 (Num.jg p)):=show _=_ by rw [<-HS.out];unfold Num.zK oL;rw [if_neg hk,if_neg hk]
  clear hk Le HS;clear hN;go_wp2_with fail;refine (wm kd _).mono ?_;rintro e w2 ⟨rfl,rfl⟩;go_wp2_with fail;go_ret;exact ⟨by rw [<-HE.out];rfl,tQ⟩
theorem NA (P:Nat) (ca:Option Addr) (cl cc:Nat) (ra:Option Addr) (rl rc:Nat) (p:Num.Lp) (w:World) (h:Has P w ca cl cc ra rl rc p) (hL:Laid w) :
  Calls Tryz.prog 37 #[.pointer (some ⟨P,0,none⟩)] w fun e w'=>e=.returned (.string (B8 (Num.aR (Num.jI p).length)))/\Below w.heap.size w w':=by
 have HH:Hid (Has P w ca cl cc ra rl rc p):=h;have HT:Hid (Laid w):=hL;have c0:=h.c0;have c1:=h.c1;have hlen:(Num.jI p).length<=1000:=by have:=um p h.may p.rows.length (Nat.le_refl _);rw [uk] at this;have:=(p.aj h.may).2.2.1;omega
 clear h hL;go_enter Tryz.func37,Tryz.ntmps37;go_wp2_with fail;refine (Bl ca cl cc ra rl rc p w HH.out.costs (by have:=HH.out.NW;omega) HH.out.rows (by have:=HH.out.Jt;omega) HH.out.may HT.out.tab).mono ?_;rintro e w1 ⟨rfl,hb1⟩;have hs:=aQ (Num.jI p);clear c0 c1;go_wp2_with fail;refine (nT _ (by omega) (by omega) w1 (cO HT.out.tab hb1)).mono ?_;rintro e w2 ⟨rfl,hb2⟩;go_wp2_with fail;go_ret;exact ⟨rfl,ai hb1 hb2⟩
open Go.RowKit
theorem Num.uR (p:Num.Lp) (a:List Int) : 0<=(Num.look p a).err/\(Num.look p a).err<=4:=by
 unfold Num.look;split
 ·exact ⟨by decide,by decide⟩
 ·split
  ·exact ⟨by decide,by decide⟩
  ·split
   ·exact ⟨by decide,by decide⟩
   ·exact ⟨by simp,by simp⟩
theorem Num.tu {p:Num.Lp} {a:List Int} {l:List (List Int)} {k er:Int} (h:Num.ik p a l k er) : 0<=er/\er<=4:=by
 rcases h with ⟨h0,_,_,h3⟩|⟨h0,_⟩
 ·have e:=Num.uR p a;unfold Num.cz at h3;split at h3
  ·simp only [Prod.mk.injEq,true_and] at h3;omega
  ·split at h3
   ·simp only [Prod.mk.injEq,true_and] at h3;omega
   ·split at h3
    ·simp only [Prod.mk.injEq,true_and] at h3;omega
    ·split at h3
     ·simp only [Prod.mk.injEq,true_and] at h3;omega
     ·simp only [Prod.mk.injEq] at h3;omega
 ·omega
theorem NC (P:Nat) (ca:Option Addr) (cl cc:Nat) (ra:Option Addr) (rl rc:Nat) (p:Num.Lp) (w:World) (h:Has P w ca cl cc ra rl rc p) (hL:Laid w) (na:Option Addr) (nl nc:Nat) (m:List Int) (hm:Ints w na nl m) (h5:nl<=5) :
  Calls Tryz.prog 80 #[.pointer (some ⟨P,0,none⟩),.slice na nl nc] w fun e w'=>e=.returned (.string (B8 (Num.jm p m)))/\Below w.heap.size w w':=by
 have HH:Hid (Has P w ca cl cc ra rl rc p):=h;have HT:Hid (Laid w):=hL;have HM:Hid (Ints w na nl m):=hm;have q0:∀w',Below w.heap.size w w'->w'.cell? ⟨P,0,none⟩=some (.slice ca cl cc):=fun w' k=>carry k HH.out.c0;have q1:∀w',Below w.heap.size w w'->w'.cell? ⟨P,1,none⟩=some (.slice ra rl rc):=fun w' k=>carry k HH.out.c1;have KC:Hid (∀w',Below w.heap.size w w'->Calls Tryz.prog 116 #[.slice na nl nc] w' fun e w''=>∃g,e=.returned (.slice (some ⟨g,0,none⟩) nl nl)/\Ints w'' (some ⟨g,0,none⟩) nl m/\Below w.heap.size w w''):=by intro w' k;refine (uQ na nl nc m w' (HM.out.below k (Nat.le_refl _)) h5).mono ?_;rintro e w'' ⟨g,rfl,hi,hb⟩;exact ⟨g,rfl,hi,ai k hb⟩
 have KW:Hid (∀w' g,Below w.heap.size w w'->Ints w' (some ⟨g,0,none⟩) nl m->Calls Tryz.prog 27 #[.agg #[.slice ca cl cc,.slice ra rl rc],.slice (some ⟨g,0,none⟩) nl nl] w' fun e w''=>∃la ll lc k er,e=.returned (.tuple #[.slice la ll lc,.int .i64 k,.int .i64 er])/\(∃l,ll=l.length/\ll<=4096/\Num.ik p m l k er)/\Below w.heap.size w w''):=by intro w' g k hi;have h':=HH.out.later k;refine (zn ca cl cc ra rl rc p w' h'.costs (by have:=h'.NW;omega) h'.rows (by have:=h'.Jt;omega) _ nl nl m hi (by omega)).mono ?_;rintro e w'' ⟨la,ll,lc,k',er,rfl,l,hl,hll,hw,hb⟩;exact ⟨la,ll,lc,k',er,rfl,⟨l,hl.1,hll,hw⟩,ai k hb⟩
 clear h hL hm;go_enter Tryz.func80,Tryz.ntmps80;go_wp2_with fail;go_region_held3 (fun w'=>Below w.heap.size w w') (first|with_reducible assumption|exact (Below.refl _ _).drew)
  (first|(go_at_call 116;refine (KC.out _ ?_).mono ?_;with_reducible assumption;rintro e v1 ⟨g1,rfl,hI1,hb1⟩)
           | (go_at_call 27;refine (KW.out _ _ ?_ hI1).mono ?_;with_reducible assumption;rintro e v2 ⟨la,ll,lc,kd,er,rfl,hW,hb2⟩))
 rename_i hfin;obtain ⟨l,hll,hl4,hwk⟩:=hW;have Xx:Hid (Num.ik p m l kd er):=hwk;have ng:Hid (ll=l.length):=hll;have her:=Num.tu hwk;have XC:Hid (Num.jm p m=Num.uO l kd er):=Num.vY hwk;clear KC KW q0 q1 hI1 hb1 hfin hll hwk;by_cases h0:er=0
 ·subst h0;have HE:Hid (B8 (Num.dC (oL kd) ll)=B8 (Num.jm p m)):=show _=_ by rw [XC.out,ng.out];unfold Num.uO;rw [if_neg (by omega)];rcases Num.GH Xx.out with h|h<;>rw [h]<;>rfl
  have hn1:(oL kd).length<=7:=by unfold oL;split;decide;split<;>decide
  have hn2:=ed (ll:Int) (by omega) (by omega);go_wp2_with fail;refine (wm kd v2).mono ?_;rintro e w3 ⟨rfl,rfl⟩;go_wp2_with fail;refine (nT ll (by omega) (by omega) _ (cO HT.out.tab hb2)).mono ?_;rintro e w4 ⟨rfl,hb4⟩;go_wp2_with fail;refine (mD _ (oL kd) (Num.aR ll) w4 rfl (by omega) (by omega)).mono ?_;rintro e w5 ⟨rfl,hb5⟩;go_wp2_with fail;go_ret;exact ⟨by rw [<-HE.out];rfl,ai (ai hb2 hb4) hb5⟩
 ·have h0':(er != 0)=true:=by simpa using h0
  have HE:Hid (B8 (Num.dC Num.iK er)=B8 (Num.jm p m)):=show _=_ by rw [XC.out];unfold Num.uO;rw [if_pos h0]
  go_wp2_with fail;refine (uP er (by omega) (by omega) _ (cO HT.out.tab hb2)).mono ?_;rintro e w3 ⟨rfl,hb3⟩;go_wp2_with fail;go_ret;exact ⟨by rw [<-HE.out];rfl,ai hb2 hb3⟩
def CB (bb:Nat) (xa:Option Addr) (xl xc:Nat) (dx:Int) (lx:List Int) (wx:World) : Prop:=(wx.cell? ⟨bb,0,none⟩=some (.slice xa xl xc)/\wx.cell? ⟨bb,1,none⟩=some (.int .i64 dx))/\Ints wx xa xl lx/\xl<=xc
theorem CB.new (w:World) (xa:Option Addr) (xl xc:Nat) (dx:Int) (lx:List Int) (v2 v3 v4 v5:Value) (hi:Ints w xa xl lx) (hc:xl<=xc) : CB w.heap.size xa xl xc dx lx (w.alloc (.cells #[.slice xa xl xc,.int .i64 dx,v2,v3,v4,v5] 75)):=by have hs:=H5.new w (.slice xa xl xc) (.int .i64 dx) v2 v3 v4 v5 75;exact ⟨⟨hs.c0,hs.c1⟩,hi.below (af _ _) (Nat.le_refl _),hc⟩
theorem CB.late {b:Nat} {w:World} (h:ZC b w) (xa:Option Addr) (xl xc:Nat) (dx:Int) (lx:List Int) (v2 v3 v4 v5:Value) (hi:Ints w xa xl lx) (hc:xl<=xc) (h2:lx.length=0\/2<=lx.length) (X:World)
  (hX:X=((((((w.setCell ⟨b,0,none⟩ (.slice xa xl xc)).setCell ⟨b,1,none⟩ (.int .i64 dx)).setCell ⟨b,2,none⟩ v2).setCell ⟨b,3,none⟩ v3).setCell ⟨b,4,none⟩ v4).setCell ⟨b,5,none⟩ v5)) : CB b xa xl xc dx lx X:=by
 obtain ⟨_,⟨y0,y1,y2,y3,y4,y5⟩,_⟩:=id h;obtain ⟨x0,x1,_⟩:=uj y0 y1 y2 y3 y4 y5 _ _ _ _ _ _ X hX;refine ⟨⟨x0,x1⟩,?_,hc⟩;rcases h2 with h2|h2
 ·exact ⟨hi.1,Or.inl (by have:=hi.1;omega)⟩
 ·rw [hX];exact ZC.kept h hi (by have:=hi.1;omega) _ _ _ _ _ _
theorem Num.BZ (p:Num.Lp) (a:List Int) (hm:p.may=true) : ((Num.look p a).err≠0/\(Num.look p a).x=[])\/((Num.look p a).err=0/\(Num.look p a).x.length=p.costs.length+p.rows.length/\(∀j:Nat,-1073741824<=(Num.look p a).x[j]?.getD 0/\(Num.look p a).x[j]?.getD 0<=1073741824)):=by
 cases hr:Num.aH a p.rows.length (p.costs.length+p.rows.length) with
 | false=>rw [Num.jX p a hm hr];exact Or.inl ⟨by decide,rfl⟩
 | true =>
  by_cases hd:Num.aF p a p.rows.length=0
  ·rw [Num.nJ p a hm hr hd];exact Or.inl ⟨by decide,rfl⟩
  ·obtain ⟨h1,h2,_,_,h5,_⟩:=Num.bK p a p.rows.length p.costs.length hm rfl rfl hr hd;exact Or.inr ⟨h1,h2,fun j=>by have:=h5 j;omega⟩
end Go.Proofs.YtipcbhodlgoflabGreatDoor
