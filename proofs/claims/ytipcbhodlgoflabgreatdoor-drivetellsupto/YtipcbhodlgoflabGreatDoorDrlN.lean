/- The statement's own asked: look. -/
import Derived.Test.YtipcbhodlgoflabGreatDoorDrlM
import Derived.Test.YtipcbhodlgoflabGreatDoorRef4A
import Derived.Deep.CutRange
set_option maxHeartbeats 3200000
set_option maxRecDepth 8000
namespace Go.Proofs.YtipcbhodlgoflabGreatDoor
open Go.RowKit
theorem JI (a m:List Int) (n:Nat) : ∀k,k<=n->Num.dotN a (m.take n) k=Num.dotN a m k:=by
 intro k
 induction k with
 | zero=>intro _;rfl
 | succ k ih =>intro h;show Num.dotN a (m.take n) k+_=Num.dotN a m k+_;rw [ih (by omega),List.getElem?_take_of_lt (by omega)]
theorem Ints.takeD {w:World} {b off n:Nat} {l:List Int} (h:Ints w (some ⟨b,off,none⟩) n l) (k:Nat) (hk:k<=n) : Ints w (some ⟨b,off,none⟩) k (l.take k):=by
 refine ⟨by rw [List.length_take];have:=h.1;omega,?_⟩;rcases h.2 with h0|⟨b',off',e,hb,hc⟩
 ·exact Or.inl (by omega)
 ·refine Or.inr ⟨b',off',e,hb,fun j hj=>?_⟩;rw [List.getElem?_take_of_lt hj];exact hc j (by omega)
theorem JJ (Q:Nat) (ca:Option Addr) (cl cc:Nat) (ra:Option Addr) (rl rc:Nat) (p:Num.Lp) (w:World) (h:Has Q w ca cl cc ra rl rc p) (hL:Laid w) (la:Option Addr) (n lc:Nat) (l:List Int) (hl:Ints w la n l) (hn:n<=100000000) :
  Calls Tryz.prog 11 #[.pointer (some ⟨Q,0,none⟩),.string (B8 Num.lookW),.slice la n lc] w fun e w'=>e=.returned (.string (B8 (Num.jD p l)))/\Below w.heap.size w w':=by
 have HH:Hid (Has Q w ca cl cc ra rl rc p):=h;have HT:Hid (Laid w):=hL;have HI:Hid (Ints w la n l):=hl;have HN:Hid (n=l.length):=hl.1;obtain ⟨i0,hif,hz0,hz1,hz2⟩:=info_parts Tryz.mV;clear h hL hl;have a1:((B8 Num.lookW).toList == [115,111,108,118,101])=false:=(eY (by decide)).1;have a2:((B8 Num.lookW).toList == [115,104,111,119])=false:=(eY (by decide)).1;have a3:((B8 Num.lookW).toList == [108,111,111,107])=true:=(str_eq rfl).1;go_enter Tryz.func11,Tryz.ntmps11;generalize B8 Num.lookW=S at a1 a2 a3 ⊢;go_wp2_with fail;go_loopw [7,8] (fun v i wr=>∃(k:Nat) (aa:Option Addr) (ac:Nat),k<=n/\i=.int .i64 k/\v=.slice aa k ac/\wr.ownsRow w.heap.size 3 1 (.slice aa k ac) k ((l.take k).map (Value.int .i64))/\Below w.heap.size w wr) (fun _ i _=>n - (intOf i).toNat)
 case atStart=>exact ⟨0,none,0,Nat.zero_le _,rfl,rfl,World.ownsRow_nil _ _ _ _,Below.refl _ _⟩
 case round =>
  obtain ⟨k,aa,ac,hk,rfl,rfl,hown,hbl⟩:=hrel;have HO:Hid (wr.ownsRow w.heap.size 3 1 (.slice aa k ac) k ((l.take k).map (Value.int .i64))):=hown;clear hown;by_cases hlt:k < n
  ·have hkl:k < l.length:=by have:=HN.out;omega
   rcases (HI.out.below hbl (Nat.le_refl _)).2 with h|⟨b,off,ha,hbs,hc⟩
   ·omega
   have ck:=hc k hlt;clear hc;have Lx:Hid ((l.take (k+1)).map (Value.int .i64)=(l.take k).map (Value.int .i64) ++ [.int .i64 (l[k]?.getD 0)]):=show _=_ by rw [List.take_succ_eq_append_getElem hkl,List.map_append,List.getElem?_eq_getElem hkl];rfl
   generalize l[k]?.getD 0=x at ck Lx;subst ha;go_wp2_with (at_builtin;refine wpList_append_own _ rfl (.tmp 29) (.tmp 34) 62 rfl w.heap.size 3 i0 (.int .i64 0) 1 8 Tryz.underlying62 hif hz0 hz1 hz2 rfl (by decide) _ _ _ rfl (by exact World.ownsRow.alloc HO.out _) ⟨wr.heap.size,0,none⟩ 1 1 [.int .i64 x] rfl rfl ?o3 ?o4 ?o5 ?o6 ?o7 ?_)
   case o3=>first|exact eu rfl _ _|exact dQ rfl _ _
   case o4=>first|rfl|(intro u hu;simp at hu;subst hu;rfl)
   case o5=>unfold maxLen;omega
   case o6=>omega
   case o7=>have:=hbl.size;simp;omega
   intro v' w3 hown' hgrow _;obtain ⟨a',c',hv'⟩:=dW hown';subst hv';have hB:Below w.heap.size w w3:=Below.grown (by exact hbl.alloc hbl.size _) hgrow (by have:=hbl.size;simp;omega) (fun j hj=>(World.ownsRow.lt HO.out j hj).1);have R:Hid (w3.ownsRow w.heap.size 3 1 (.slice a' (k+1) c') (k+1) ((l.take (k+1)).map (Value.int .i64))):=by
    show w3.ownsRow _ _ _ _ _ _;rw [Lx.out]
    first|exact hown'|(rw [<-List.map_take] at hown';exact hown')
   clear hown' hgrow;go_wp2_with fail;go_roundw
   case rel=>exact ⟨k+1,a',c',by omega,by go_num,rfl,R.out,hB⟩
   case measure=>simp [intOf];omega
  ·have hke:k=n:=by omega
   subst hke;have HAT:Hid (Ints wr aa k l):=by have h1:=HO.out;rw [List.take_of_length_le (by have:=HN.out;omega)] at h1;obtain ⟨a',c',hv,hi,_⟩:=Ints.jr h1 HN.out;simp only [Value.slice.injEq] at hv;obtain ⟨rfl,_,_⟩:=hv;exact hi
   have jH:Hid (Has Q wr ca cl cc ra rl rc p):=HH.out.later hbl;have XH:Hid (Laid wr):=HT.out.later hbl;have c0:=jH.out.c0;have c1:=jH.out.c1;clear HO;have kZ:Hid (cl=p.costs.length):=jH.out.costs.1;have Uo:Hid (Num.jD p l=if (Num.look p l).err≠0 then Num.dC Num.iK (Num.look p l).err
     else (if Num.bO (Num.look p l).x=true then Num.Nu else Num.BU) ++ 32 :: Num.bg (Num.mk (Num.dotN p.costs (Num.look p l).x cl) (Num.look p l).xd).1 (Num.mk (Num.dotN p.costs (Num.look p l).x cl) (Num.look p l).xd).2.1):=show _=_ by rw [kZ.out];rfl
   have xA:Hid _:=Num.BZ p l jH.out.may;have Zo:=Num.uR p l;go_wp2_with fail;refine (lU ca cl cc ra rl rc p wr jH.out.costs (by have:=jH.out.NW;omega) jH.out.rows (by have:=jH.out.Jt;omega) aa k ac l HAT.out (by omega)).mono ?_;rintro e w1 ⟨xa,xl,xc,ya,yl,yc,ga,gl,gc,rfl,hx,_,_,TS,_,_,hb1,⟨Ot,_,_⟩,_⟩;obtain ⟨u,v,ez,hmk⟩ : ∃u v ez,Num.mk (Num.dotN p.costs (Num.look p l).x cl) (Num.look p l).xd=(u,v,ez):=⟨_,_,_,rfl⟩;have NU:Hid (Num.mk (Num.dotN p.costs (Num.look p l).x cl) (Num.look p l).xd=(u,v,ez)):=hmk;have hsm:=Num.zN (Num.dotN p.costs (Num.look p l).x cl) (Num.look p l).xd;rw [hmk] at hsm;obtain ⟨hu,hv⟩:=hsm;dsimp only at hu hv;rw [hmk] at Uo;have ZA:Hid (Has Q w1 ca cl cc ra rl rc p):=jH.out.later hb1;have kQ:Hid (Ints w1 xa xl (Num.look p l).x):=hx;have hB1:Below w.heap.size w w1:=ai hbl hb1;clear hmk hx hb1 c0 c1 hbl HAT;generalize Num.look p l=L at *;obtain ⟨er,lx,dx,ly,dy,lg,dg⟩:=L;dsimp only at *;have hs:=H5.new w1 (.slice xa xl xc) (.int .i64 dx) (.slice ya yl yc) (.int .i64 dy) (.slice ga gl gc) (.int .i64 dg) 75;have tQ:=ai hB1 (af w1 (.cells #[.slice xa xl xc,.int .i64 dx,.slice ya yl yc,.int .i64 dy,.slice ga gl gc,.int .i64 dg] 75));have YJ:Hid (Ints (w1.alloc (.cells #[.slice xa xl xc,.int .i64 dx,.slice ya yl yc,.int .i64 dy,.slice ga gl gc,.int .i64 dg] 75)) xa xl lx):=kQ.out.below (af _ _) (Nat.le_refl _);have HHV:Hid (Has Q (w1.alloc (.cells #[.slice xa xl xc,.int .i64 dx,.slice ya yl yc,.int .i64 dy,.slice ga gl gc,.int .i64 dg] 75)) ca cl cc ra rl rc p):=ZA.out.later (af _ _);by_cases h0:er=0
   ·subst h0;have hxl:cl<=xl/\2<=xl:=by
     rcases xA.out with ⟨h,_⟩|⟨_,h,_⟩
     ·exact absurd rfl h
     ·have:=kQ.out.1;have:=kZ.out;have:=ZA.out.Jt;have:=ZA.out.rows.1;have:=(p.aj ZA.out.may).1;omega
    have HXB:Hid (∀j:Nat,-1073741824<=(lx.take cl)[j]?.getD 0/\(lx.take cl)[j]?.getD 0<=1073741824):=by
     rcases xA.out with ⟨h,_⟩|⟨_,_,h⟩
     ·exact absurd rfl h
     ·intro j;rw [List.getElem?_take];split
      ·exact h j
      ·simp
    obtain ⟨xb,xo,rfl⟩ : ∃xb xo,xa=some ⟨xb,xo,none⟩:=by
     rcases kQ.out.2 with h|⟨b,o,e,_⟩
     ·omega
     ·exact ⟨b,o,e⟩
    have aL4:(cl:Int)<=(xc:Int):=by omega
    have x0:=hs.c0;have x1:=hs.c1;clear hs kQ ZA;go_upto_region 21 with fail;generalize w1.alloc (.cells #[.slice (some ⟨xb,xo,none⟩) xl xc,.int .i64 dx,.slice ya yl yc,.int .i64 dy,.slice ga gl gc,.int .i64 dg] 75)=W at *;generalize w1.heap.size=bb at *;go_cut [15] from 72 to 104 (fun s15 wx=>∃b1:Nat,s15=.pointer (some ⟨b1,0,none⟩)/\Hid (wx.cell? ⟨b1,0,none⟩=some (.int .i64 u)/\wx.cell? ⟨b1,1,none⟩=some (.int .i64 v))/\Below W.heap.size W wx)
    case first =>
     have q0:∀w',Below W.heap.size W w'->w'.cell? ⟨Q,0,none⟩=some (.slice ca cl cc):=fun w' j=>carry j HHV.out.c0;have q1:∀w',Below W.heap.size W w'->w'.cell? ⟨bb,0,none⟩=some (.slice (some ⟨xb,xo,none⟩) xl xc):=fun w' j=>carry j x0;have q2:∀w',Below W.heap.size W w'->w'.cell? ⟨bb,1,none⟩=some (.int .i64 dx):=fun w' j=>carry j x1;have KD:Hid (∀w',Below W.heap.size W w'->Calls Tryz.prog 25 #[.slice ca cl cc,.slice (some ⟨xb,xo,none⟩) cl xc] w' fun e w''=>e=.returned (.int .i64 (Num.dotN p.costs lx cl))/\Below W.heap.size W w''/\Below w'.heap.size w' w''):=by intro w' j;rw [<-JI p.costs lx cl cl (Nat.le_refl _)];exact (fE (Su _ _ _ _ _ _ p.costs (lx.take cl) w' 400 1073741824 (HHV.out.costs.below j (Nat.le_refl _)) (Ints.takeD (YJ.out.below j (Nat.le_refl _)) cl hxl.1) (Nat.le_refl _) (by omega) (Num.aJ _ _ (p.aj HHV.out.may).2.1 (by omega)) HXB.out (by have:=HHV.out.NW;omega))).mono fun _ _ i=>⟨i.1,ai j i.2,i.2⟩
     have KM:Hid (∀w',Below W.heap.size W w'->Calls Tryz.prog 24 #[.int .i64 (Num.dotN p.costs lx cl),.int .i64 dx] w' fun e w''=>e=.returned (.agg #[.int .i64 u,.int .i64 v])/\Below W.heap.size W w''/\Below w'.heap.size w' w''):=by intro w' j;exact (Wv _ _ w' u v ez NU.out).mono fun _ _ i=>⟨i.1,ai j i.2,i.2⟩
     clear x0 x1;generalize Num.dotN p.costs lx cl=D at KD KM;go_region_held3 (fun w'=>Below W.heap.size W w') (first|(with_reducible assumption)|(with_reducible exact (Below.refl _ _).drew)|(with_reducible exact ((Below.refl _ _).alloc (Nat.le_refl _) _).drew)|(with_reducible refine Below.alloc ?_ ?_ _<;>first|(with_reducible assumption)|(apply Below.size;with_reducible assumption))|(with_reducible refine Below.setCell (Below.setCell ?_ ?_ _) ?_ _<;>first|(with_reducible assumption)|(with_reducible exact Nat.le_refl _)|(apply Below.size;with_reducible assumption)))
      (first|(go_at_call 25;refine (KD.out _ ?_).mono ?_;with_reducible assumption;rintro e v1 ⟨rfl,hb1,hk1⟩;(try (have hz3:=lQ hk1)))
                   | (go_at_call 24;refine (KM.out _ ?_).mono ?_;with_reducible assumption;rintro e v2 ⟨rfl,hb2,hk2⟩;(first|(have hz3:=uY hk2 hz3)|(have hz3:=fO hk2)|(have hz3:=lQ hk2)|skip)))
     ·rename_i hfin;have HZ0:Hid _:=aU (w:=v2) rfl (.int .i64 u) (.int .i64 v) 66;have HG:Hid _:=hfin;clear q0 q1 q2 KD KM hfin;go_wp2_with fail;go_meet;exact ⟨_,rfl,HZ0.out,HG.out⟩
     all_goals
      rename_i hfin;have HG:Hid _:=hfin;obtain ⟨⟨z0,z1⟩,zr⟩:=hz3;have HZ0:Hid _:=GK z0 z1 (.int .i64 u) (.int .i64 v);clear q0 q1 q2 KD KM hfin zr;go_wp2_with fail;go_meet;exact ⟨_,rfl,HZ0.out,HG.out⟩
    case rest =>
     obtain ⟨b1,rfl,hzz,hbx⟩:=hcut;obtain ⟨z0,z1⟩:=hzz.out;have x0':=carry hbx x0;have x1':=carry hbx x1;have W9:Hid (Ints wc (some ⟨xb,xo,none⟩) xl lx):=YJ.out.below hbx (Nat.le_refl _);have hb1:b1 < wc.heap.size:=World.block_lt_of_cell? wc _ z0;have hBW:Below w.heap.size w wc:=tQ.trans (hbx.mono tQ.size);have hfl:(B8 (Num.bg u v)).size<=23:=by rw [aQ];exact Num.gL u v hu hv
     clear hzz x0 x1 Ot;go_wp2_with fail;refine (JH _ xl xc dx lx wc W9.out (by omega)).mono ?_;rintro e w2 ⟨rfl,hb2⟩;have y0:=carry hb2 z0;have y1:=carry hb2 z1;have hB2:Below w.heap.size w w2:=ai hBW hb2;have aL6:b1 < w2.heap.size:=World.block_lt_of_cell? w2 _ y0;clear z0 z1 x0' x1' hb2;cases hneg:Num.bO lx with
     | true =>
      have E:Hid (⟨#[110,111,116,32]⟩ ++ B8 (Num.bg u v)=B8 (Num.jD p l)):=show B8 [110,111,116,32] ++ B8 (Num.bg u v)=_ by rw [bL,Uo.out,if_neg (by omega),if_pos hneg];rfl
      clear hneg;simp only [Bool.not_true];go_wp2_with fail;refine (nV u v hu hv w2).mono ?_;rintro e w3 ⟨rfl,hb3⟩;generalize B8 (Num.bg u v)=FT at E hfl;go_wp2_with fail;go_ret;exact ⟨by rw [<-E.out];rfl,ai hB2 hb3⟩
     | false =>
      have E:Hid (⟨#[103,111,101,115,32]⟩ ++ B8 (Num.bg u v)=B8 (Num.jD p l)):=show B8 [103,111,101,115,32] ++ B8 (Num.bg u v)=_ by rw [bL,Uo.out,if_neg (by omega),if_neg (by rw [hneg];decide)];rfl
      clear hneg;simp only [Bool.not_false];go_wp2_with fail;refine (nV u v hu hv w2).mono ?_;rintro e w3 ⟨rfl,hb3⟩;generalize B8 (Num.bg u v)=FT at E hfl;go_wp2_with fail;go_ret;exact ⟨by rw [<-E.out];rfl,ai hB2 hb3⟩
   ·have h0':(er != 0)=true:=by simpa using h0
    have HE:Hid (B8 (Num.dC Num.iK er)=B8 (Num.jD p l)):=show _=_ by rw [Uo.out,if_pos h0]
    clear hs;go_wp2_with fail;refine (iE Num.iK er (by decide) (by omega) _).mono ?_;rintro e w3 ⟨rfl,hb3⟩;go_wp2_with fail;go_ret;exact ⟨by rw [<-HE.out];rfl,ai tQ hb3⟩
open Go.RowKit
theorem GU (Q:Nat) (ca:Option Addr) (cl cc:Nat) (ra:Option Addr) (rl rc:Nat) (p:Num.Lp) (w:World) (h:Has Q w ca cl cc ra rl rc p) (hL:Laid w) (la:Option Addr) (n lc:Nat) (l:List Int) (hl:Ints w la n l) (hn:n<=100000000) (word:List UInt8) (g1:word≠Num.eX) (g2:word≠Num.gW) (g3:word≠Num.lookW) (g4:word≠Num.fZ) :
  Calls Tryz.prog 11 #[.pointer (some ⟨Q,0,none⟩),.string (B8 word),.slice la n lc] w fun e w'=>e=.returned (.string (B8 (Num.eH p l)))/\Below w.heap.size w w':=by
 have HH:Hid (Has Q w ca cl cc ra rl rc p):=h;have HT:Hid (Laid w):=hL;have HI:Hid (Ints w la n l):=hl;have HN:Hid (n=l.length):=hl.1;obtain ⟨i0,hif,hz0,hz1,hz2⟩:=info_parts Tryz.mV;clear h hL hl;have a1:((B8 word).toList == [115,111,108,118,101])=false:=(eY g1).1;have a2:((B8 word).toList == [115,104,111,119])=false:=(eY g2).1;have a3:((B8 word).toList == [108,111,111,107])=false:=(eY g3).1;have a4:((B8 word).toList == [119,97,108,107])=false:=(eY g4).1;go_enter Tryz.func11,Tryz.ntmps11;generalize B8 word=S at a1 a2 a3 a4 ⊢;go_wp2_with fail;go_loopw [7,8] (fun v i wr=>∃(k:Nat) (aa:Option Addr) (ac:Nat),k<=n/\i=.int .i64 k/\v=.slice aa k ac/\wr.ownsRow w.heap.size 3 1 (.slice aa k ac) k ((l.take k).map (Value.int .i64))/\Below w.heap.size w wr) (fun _ i _=>n - (intOf i).toNat)
 case atStart=>exact ⟨0,none,0,Nat.zero_le _,rfl,rfl,World.ownsRow_nil _ _ _ _,Below.refl _ _⟩
 case round =>
  obtain ⟨k,aa,ac,hk,rfl,rfl,hown,hbl⟩:=hrel;have HO:Hid (wr.ownsRow w.heap.size 3 1 (.slice aa k ac) k ((l.take k).map (Value.int .i64))):=hown;clear hown;by_cases hlt:k < n
  ·have hkl:k < l.length:=by have:=HN.out;omega
   rcases (HI.out.below hbl (Nat.le_refl _)).2 with h|⟨b,off,ha,hbs,hc⟩
   ·omega
   have ck:=hc k hlt;clear hc;have Lx:Hid ((l.take (k+1)).map (Value.int .i64)=(l.take k).map (Value.int .i64) ++ [.int .i64 (l[k]?.getD 0)]):=show _=_ by rw [List.take_succ_eq_append_getElem hkl,List.map_append,List.getElem?_eq_getElem hkl];rfl
   generalize l[k]?.getD 0=x at ck Lx;subst ha;go_wp2_with (at_builtin;refine wpList_append_own _ rfl (.tmp 29) (.tmp 34) 62 rfl w.heap.size 3 i0 (.int .i64 0) 1 8 Tryz.underlying62 hif hz0 hz1 hz2 rfl (by decide) _ _ _ rfl (by exact World.ownsRow.alloc HO.out _) ⟨wr.heap.size,0,none⟩ 1 1 [.int .i64 x] rfl rfl ?o3 ?o4 ?o5 ?o6 ?o7 ?_)
   case o3=>first|exact eu rfl _ _|exact dQ rfl _ _
   case o4=>first|rfl|(intro u hu;simp at hu;subst hu;rfl)
   case o5=>unfold maxLen;omega
   case o6=>omega
   case o7=>have:=hbl.size;simp;omega
   intro v' w3 hown' hgrow _;obtain ⟨a',c',hv'⟩:=dW hown';subst hv';have hB:Below w.heap.size w w3:=Below.grown (by exact hbl.alloc hbl.size _) hgrow (by have:=hbl.size;simp;omega) (fun j hj=>(World.ownsRow.lt HO.out j hj).1);have R:Hid (w3.ownsRow w.heap.size 3 1 (.slice a' (k+1) c') (k+1) ((l.take (k+1)).map (Value.int .i64))):=by
    show w3.ownsRow _ _ _ _ _ _;rw [Lx.out]
    first|exact hown'|(rw [<-List.map_take] at hown';exact hown')
   clear hown' hgrow;go_wp2_with fail;go_roundw
   case rel=>exact ⟨k+1,a',c',by omega,by go_num,rfl,R.out,hB⟩
   case measure=>simp [intOf];omega
  ·have hke:k=n:=by omega
   subst hke;have HAT:Hid (Ints wr aa k l):=by have h1:=HO.out;rw [List.take_of_length_le (by have:=HN.out;omega)] at h1;obtain ⟨a',c',hv,hi,_⟩:=Ints.jr h1 HN.out;simp only [Value.slice.injEq] at hv;obtain ⟨rfl,_,_⟩:=hv;exact hi
   have jH:Hid (Has Q wr ca cl cc ra rl rc p):=HH.out.later hbl;have XH:Hid (Laid wr):=HT.out.later hbl;have c0:=jH.out.c0;have c1:=jH.out.c1;clear HO;have kZ:Hid (cl=p.costs.length):=jH.out.costs.1;have kz:Hid (rl=p.rows.length):=jH.out.rows.1;go_wp2_with fail;refine (zJ ca cl cc ra rl rc p wr jH.out.costs (by have:=jH.out.NW;omega) jH.out.rows (by have:=jH.out.Jt;omega) la k lc l (HI.out.below hbl (Nat.le_refl _)) (by omega)).mono ?_;clear c0 c1 HAT;rintro e w1 ⟨hb1,⟨au,_⟩|⟨_,ny,rfl⟩|⟨_,ny,V9,rfl⟩|⟨_,ny,hyg,a,c,rfl,hpc⟩⟩
   ·exact absurd (jH.out.may.symm.trans au) (by decide)
   ·have HE:Hid (B8 (Num.dC Num.iK 1)=B8 (Num.eH p l)):=show _=_ by unfold Num.eH;rw [if_pos ny]
    clear ny;go_wp2_with fail;refine (iE Num.iK 1 (by decide) (by omega) _).mono ?_;rintro e w2 ⟨rfl,hb2⟩;go_wp2_with fail;go_ret;exact ⟨by rw [<-HE.out];rfl,ai (ai hbl hb1) hb2⟩
   ·have HE:Hid (B8 (Num.dC Num.iK 4)=B8 (Num.eH p l)):=show _=_ by unfold Num.eH;rw [if_neg (by rw [ny];decide),if_pos (by rw [<-kz.out,<-kZ.out];exact V9)]
    clear ny V9;go_wp2_with fail;refine (iE Num.iK 4 (by decide) (by omega) _).mono ?_;rintro e w2 ⟨rfl,hb2⟩;go_wp2_with fail;go_ret;exact ⟨by rw [<-HE.out];rfl,ai (ai hbl hb1) hb2⟩
   ·have Re:Hid (Num.nC p l rl cl=Num.eG p l):=show _=_ by rw [kz.out,kZ.out];rfl
    rw [Re.out] at hpc ⊢;have hsmall:=fun y hy=>Num.oK p l jH.out.may ny y hy;have hlen:(Num.eG p l).length<=1000:=by
     have hbl:l.length=cl:=by have h1:=(p.aj jH.out.may).2.2;have h2:=((Num.aD p l).aj ny).2.2;have h0:0 < p.rows.length:=h1.1.1;have r1:=List.all_eq_true.1 h1.2 p.rows[0] (List.getElem_mem _);have r2:=List.all_eq_true.1 h2.2 p.rows[0] (List.getElem_mem _);unfold Num.iL at r1 r2;simp only [Bool.and_eq_true,beq_iff_eq] at r1 r2;rw [kZ.out];exact r2.1.1.symm.trans r1.1.1
     have:=Num.sW p l rl cl ⟨kz.out,kZ.out,hbl,jH.out.may,ny⟩;rw [Re.out] at this;exact this
    have HE:Hid (B8 (Num.aR (Num.eG p l).length ++ Num.qL (Num.eG p l))=B8 (Num.eH p l)):=show _=_ by unfold Num.eH;rw [if_neg (by rw [ny];decide),if_neg (by rw [<-kz.out,<-kZ.out];exact fun h=>h hyg)]
    have hB1:Below w.heap.size w w1:=ai hbl hb1;clear ny hyg Re hb1 hbl jH XH;generalize Num.eG p l=L at *;have Le:Hid (∀y∈L,((-1073741824<=y.bn/\y.bn<=1073741824)/\(-1073741824<=y.bd/\y.bd<=1073741824))/\((-1073741824<=y.sn/\y.sn<=1073741824)/\(-1073741824<=y.sd/\y.sd<=1073741824))):=hsmall;have Uh:Hid (rP w1 a L.length L):=hpc;clear hsmall hpc;generalize hm:L.length=m at *;have HM:Hid (L.length=m):=hm;clear hm;have aL7:=ed (m:Int) (by omega) (by omega);go_wp2_with fail;refine (lW m (by omega) w1).mono ?_;rintro e w2 ⟨rfl,hb2⟩;go_wp2_with fail;go_loopw [21,22] (fun sv i ws=>∃(j:Nat) (t:List UInt8),j<=m/\i=.int .i64 j/\sv=.string (B8 t)/\t=Num.aR m ++ Num.qL (L.take j)/\t.length<=20+48*j/\Below w1.heap.size w1 ws) (fun _ i _=>m - (intOf i).toNat)
    case atStart=>exact ⟨0,Num.aR m,Nat.zero_le _,rfl,rfl,by simp [Num.qL],by omega,hb2⟩
    case round =>
     obtain ⟨j,t,hj,rfl,rfl,htt,htl,hbs⟩:=hrel;have XB:Hid (t=Num.aR m ++ Num.qL (L.take j)):=htt;have rX:Hid (t.length<=20+48*j):=htl;clear htt htl hb2;by_cases hlt:j < m
     ·have hjl:j < L.length:=by have:=HM.out;omega
      obtain ⟨ga,rfl,hga,hho⟩ : ∃ga,a=some ⟨ga,0,none⟩/\ga < w1.heap.size/\dE w1 ga L:=by
       rcases Uh.out.2 with h|h
       ·omega
       ·exact h
      have hy:L[j]? = some L[j]:=List.getElem?_eq_getElem hjl;have Rf:=Le.out L[j] (List.getElem_mem hjl);have Xa:Hid (Num.qL (L.take (j+1))=Num.qL (L.take j) ++ 32 :: (Num.bg L[j].bn L[j].bd ++ 32 :: Num.bg L[j].sn L[j].sd)):=show _=_ by rw [List.take_succ_eq_append_getElem hjl,Num.Ra]
      generalize L[j]=y at hy Rf Xa;obtain ⟨⟨fo,fn,fd⟩,⟨tt,tn,td⟩,bn,bd,sn,sd⟩:=y;obtain ⟨⟨hs1,hs2⟩,hs3,hs4⟩:=Rf;dsimp only at hs1 hs2 hs3 hs4 Xa;have hf1:=Num.gL bn bd hs1 hs2;have hf2:=Num.gL sn sd hs3 hs4;obtain ⟨_,_,_,_,_,_,p6,p7,p8,p9⟩:=hho.ten hy;have hgs:ga < wr.heap.size:=by have:=hbs.size;omega
      have r6:wr.cell? ⟨ga,j*10+6,none⟩=some (.int .i64 bn):=by rw [hbs.cell (p:=⟨ga,j*10+6,none⟩) hga];exact p6
      have r7:wr.cell? ⟨ga,j*10+7,none⟩=some (.int .i64 bd):=by rw [hbs.cell (p:=⟨ga,j*10+7,none⟩) hga];exact p7
      have r8:wr.cell? ⟨ga,j*10+8,none⟩=some (.int .i64 sn):=by rw [hbs.cell (p:=⟨ga,j*10+8,none⟩) hga];exact p8
      have r9:wr.cell? ⟨ga,j*10+9,none⟩=some (.int .i64 sd):=by rw [hbs.cell (p:=⟨ga,j*10+9,none⟩) hga];exact p9
      have q6:∀w',Below wr.heap.size wr w'->w'.cell? ⟨ga,j*10+6,none⟩=some (.int .i64 bn):=fun w' h=>carry h r6;have q7:∀w',Below wr.heap.size wr w'->w'.cell? ⟨ga,j*10+7,none⟩=some (.int .i64 bd):=fun w' h=>carry h r7;have q8:∀w',Below wr.heap.size wr w'->w'.cell? ⟨ga,j*10+8,none⟩=some (.int .i64 sn):=fun w' h=>carry h r8;have q9:∀w',Below wr.heap.size wr w'->w'.cell? ⟨ga,j*10+9,none⟩=some (.int .i64 sd):=fun w' h=>carry h r9;have XE:Hid (∀w',Below wr.heap.size wr w'->Calls Tryz.prog 21 #[.agg #[.int .i64 bn,.int .i64 bd]] w' fun e w''=>e=.returned (.string (B8 (Num.bg bn bd)))/\Below wr.heap.size wr w''):=fun w' h=>(nV bn bd hs1 hs2 w').mono fun e w'' i=>⟨i.1,ai h i.2⟩;have XF:Hid (∀w',Below wr.heap.size wr w'->Calls Tryz.prog 21 #[.agg #[.int .i64 sn,.int .i64 sd]] w' fun e w''=>e=.returned (.string (B8 (Num.bg sn sd)))/\Below wr.heap.size wr w''):=fun w' h=>(nV sn sd hs3 hs4 w').mono fun e w'' i=>⟨i.1,ai h i.2⟩;have E:Hid (B8 t ++ ⟨#[32]⟩ ++ B8 (Num.bg bn bd) ++ ⟨#[32]⟩ ++ B8 (Num.bg sn sd)=B8 (t ++ 32 :: (Num.bg bn bd ++ 32 :: Num.bg sn sd))):=show B8 t ++ B8 [32] ++ B8 (Num.bg bn bd) ++ B8 [32] ++ B8 (Num.bg sn sd)=_ by rw [bL,bL,bL,bL];congr 1;simp
      have z1:(B8 t).size<=50000:=by rw [aQ];have:=rX.out;omega
      have z2:(B8 (Num.bg bn bd)).size<=23:=by rw [aQ];exact hf1
      have z3:(B8 (Num.bg sn sd)).size<=23:=by rw [aQ];exact hf2
      have n1:¬ 9223372036854775807 < (B8 t).size+1:=by omega
      have n2:¬ 9223372036854775807 < (B8 t).size+1+(B8 (Num.bg bn bd)).size:=by omega
      have n3:¬ 9223372036854775807 < (B8 t).size+1+(B8 (Num.bg bn bd)).size+1:=by omega
      have n4:¬ 9223372036854775807 < (B8 t).size+1+(B8 (Num.bg bn bd)).size+1+(B8 (Num.bg sn sd)).size:=by omega
      have b1:(0:Int)<=(j:Int):=by omega
      have b2:(j:Int) < (m:Int):=by omega
      have HT2:Hid (t ++ 32 :: (Num.bg bn bd ++ 32 :: Num.bg sn sd)=Num.aR m ++ Num.qL (L.take (j+1))/\(t ++ 32 :: (Num.bg bn bd ++ 32 :: Num.bg sn sd)).length<=20+48*(j+1)):=by refine ⟨by rw [Xa.out,XB.out,List.append_assoc],?_⟩;rw [List.length_append,List.length_cons,List.length_append,List.length_cons];have:=rX.out;omega
      clear p6 p7 p8 p9 r6 r7 r8 r9 hho hy z1 z2 z3;go_upto_region 39 with fail;generalize hT2:t ++ 32 :: (Num.bg bn bd ++ 32 :: Num.bg sn sd)=t2 at E HT2;clear hT2;generalize B8 (Num.bg bn bd)=F1 at E XE n2 n3 n4;generalize B8 (Num.bg sn sd)=F2 at E XF n4;generalize B8 t=ST at E n1 n2 n3 n4 ⊢;go_region_held3 (fun w'=>Below wr.heap.size wr w') (first|with_reducible assumption|exact (Below.refl _ _).drew)
       (first|(go_at_call_of 21 (Value.agg #[.int .i64 bn,.int .i64 bd]);refine (XE.out _ ?_).mono ?_;with_reducible assumption;rintro e v1 ⟨rfl,hb1⟩)
                     | (go_at_call_of 21 (Value.agg #[.int .i64 sn,.int .i64 sd]);refine (XF.out _ ?_).mono ?_;with_reducible assumption;rintro e v2 ⟨rfl,hb2⟩))
      all_goals (clear q6 q7 q8 q9 XE XF)
      all_goals go_wp2_with fail
      all_goals go_roundw
      all_goals first
              | (simp [intOf];omega)
              | exact ⟨j+1,t2,by omega,by go_num,by rw [<-E.out],HT2.out.1,HT2.out.2,ai hbs (by with_reducible assumption)⟩
     ·have hke:j=m:=by omega
      subst hke;have HE2:Hid (B8 t=B8 (Num.eH p l)):=show _=_ by rw [<-HE.out,XB.out,List.take_of_length_le (by have:=HM.out;omega)]
      go_wp2_with fail;go_ret;exact ⟨by rw [<-HE2.out];rfl,hB1.trans (hbs.mono hB1.size)⟩
end Go.Proofs.YtipcbhodlgoflabGreatDoor
