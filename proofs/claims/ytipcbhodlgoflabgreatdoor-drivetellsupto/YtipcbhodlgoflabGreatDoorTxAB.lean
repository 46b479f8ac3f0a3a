/- Package text's reading: what the listed variables hold, the library's calls, and readNumber. -/
import Derived.Test.YtipcbhodlgoflabGreatDoorRef2A
import Derived.Test.YtipcbhodlgoflabGreatDoorTxt2
import Derived.Test.YtipcbhodlgoflabGreatDoorShx
import Derived.Test.YtipcbhodlgoflabGreatDoorShy
import Derived.Lib.AppendIntMem
import Derived.Lib.AtoiErrMem
import Derived.Lib.ItoaLen
set_option maxHeartbeats 1600000
set_option maxRecDepth 8000
namespace Go.Proofs.YtipcbhodlgoflabGreatDoor
open Go.RowKit
structure Laid (w:World) : Prop where
 tab:Lib.TabIs Tryz.prog w "internal/strconv.uint64pow10" .u64 Lib.pow10Tab
 bad:∃tp p,w.var? Tryz.prog "strconv.ErrSyntax" = some #[.iface tp p]
 far:∃tp p,w.var? Tryz.prog "strconv.ErrRange" = some #[.iface tp p]
 most:∃m,w.cell? ⟨0,0,none⟩=some (.int .i64 m)
theorem A7 {w w':World} {name:String} {cs:Array Value} (h:w.var? Tryz.prog name=some cs) (hb:Below w.heap.size w w') : w'.var? Tryz.prog name=some cs:=by
 unfold World.var? at *;cases hg:Tryz.prog.globalNamed name with
 | none=>simp [hg] at h
 | some g =>
  simp only [hg,Option.bind_some] at h ⊢;have hlt:g < w.heap.size:=by
   rcases Nat.lt_or_ge g w.heap.size with h'|h'
   ·exact h'
   ·rw [Array.getElem?_eq_none h'] at h;simp at h
  rw [hb.block g hlt];exact h
theorem cO {w w':World} (h:Lib.TabIs Tryz.prog w "internal/strconv.uint64pow10" .u64 Lib.pow10Tab) (hb:Below w.heap.size w w') : Lib.TabIs Tryz.prog w' "internal/strconv.uint64pow10" .u64 Lib.pow10Tab :=
 (Lib.tabBelow_of_tabIs h) w' hb
theorem Laid.later {w w':World} (h:Laid w) (hb:Below w.heap.size w w') : Laid w':=by obtain ⟨h1,⟨t2,p2,h2⟩,⟨t3,p3,h3⟩,⟨m,h4⟩⟩:=h;refine ⟨cO h1 hb,⟨t2,p2,A7 h2 hb⟩,⟨t3,p3,A7 h3 hb⟩,⟨m,?_⟩⟩;rw [hb.cell (World.block_lt_of_cell? w ⟨0,0,none⟩ (by rw [h4]))];exact h4
def B8 (l:List UInt8) : ByteArray:=⟨l.toArray⟩
theorem iX (l:List UInt8) : (B8 l).data.toList=l:=by simp [B8]
theorem aQ (l:List UInt8) : (B8 l).size=l.length:=by simp [B8,ByteArray.size]
theorem OA (s:ByteArray) : B8 s.data.toList=s:=by cases s;simp [B8]
theorem rW (n:Int) (h0 : -9223372036854775808<=n) (h1:n<=9223372036854775807) (w:World) (ht:Lib.TabIs Tryz.prog w "internal/strconv.uint64pow10" .u64 Lib.pow10Tab) :
  Calls Tryz.prog 93 #[.int .i64 n,.int .i64 10] w fun e w'=>e=.returned (.string (B8 (Num.aR n)))/\Below w.heap.size w w':=by
 refine (Tryz.strconv_FormatInt_10 n h0 h1 w ht).mono ?_;rintro e w' ⟨rfl,k,os,rfl⟩;refine ⟨?_,Lib.below_grow _ _ (Nat.le_refl _) _ _⟩;rw [Num.Er];rfl
theorem LW (l:List UInt8) (hl:l.length<=281474976710656) (w:World) (hL:Laid w) :
  Calls Tryz.prog 118 #[.string (B8 l),.int .i64 10,.int .i64 64] w fun e w'=>Below w.heap.size w w'/\
   ((∃n,Lib.parseIntB 64 l=.ok n/\e=.returned (.tuple #[.int .i64 n,.nilIface]))\/(Num.Sy l=none/\∃x t p,e=.returned (.tuple #[.int .i64 x,.iface t p]))):=by
 have e0:=iX l;have hsz:(B8 l).size<=281474976710656:=by rw [aQ];exact hl
 cases hp:Lib.parseIntB 64 l with
 | ok n =>
  refine (Tryz.strconv_ParseInt_10_at64_ok (B8 l) (by omega) n (by rw [e0];exact hp) w).mono ?_;rintro e w' ⟨rfl,hw⟩;refine ⟨?_,Or.inl ⟨n,rfl,rfl⟩⟩;rcases hw with rfl|⟨t,rfl⟩
  ·exact Below.refl _ _
  ·exact Lib.bytesWorld_below _ _ _
 | «syntax» =>obtain ⟨tp,p,hv⟩:=hL.bad;refine (Tryz.strconv_ParseInt_10_at64_syntax_var (B8 l) hsz (by rw [e0];exact hp) tp p w hv).mono ?_;rintro e w' ⟨N,rfl,_,_,hb⟩;exact ⟨hb,Or.inr ⟨by unfold Num.Sy;rw [hp],_,_,_,rfl⟩⟩
 | range =>obtain ⟨tp,p,hv⟩:=hL.far;refine (Tryz.strconv_ParseInt_10_at64_range_var (B8 l) hsz (by rw [e0];exact hp) tp p w hv).mono ?_;rintro e w' ⟨N,rfl,_,_,hb⟩;exact ⟨hb,Or.inr ⟨by unfold Num.Sy;rw [hp],_,_,_,rfl⟩⟩
theorem tO (s sep:List UInt8) (hs:s.length < 4294967281) (w:World) (hL:Laid w) :
  Calls Tryz.prog 12 #[.string (B8 s),.string (B8 sep)] w fun e w'=>e=.returned (.tuple #[.string (B8 (Lib.cut s sep).1),.string (B8 (Lib.cut s sep).2.1),.bool (Lib.cut s sep).2.2])/\Below w.heap.size w w':=by
 obtain ⟨m,hm⟩:=hL.most;refine (Tryz.strings_Cut (B8 s) (B8 sep) m w (by rw [aQ];exact hs) hm).mono ?_;rintro e w' ⟨rfl,n,rfl⟩;refine ⟨?_,iZ (Below.refl _ _) _⟩;rw [iX,iX];rfl
theorem mZ (s p:List UInt8) (w:World) :
  Calls Tryz.prog 30 #[.string (B8 s),.string (B8 p)] w fun e w'=>e=.returned (.tuple #[.string (B8 (if p.isPrefixOf s=true then s.drop p.length else s)),.bool (p.isPrefixOf s)])/\w'=w:=by
 refine (Tryz.strings_CutPrefix (B8 s) (B8 p) w).mono ?_;rintro e w' ⟨rfl,rfl⟩;refine ⟨?_,rfl⟩;rw [iX,iX];rfl
theorem dX (l:List UInt8) : (B8 l).toList=l:=by rw [Lib.toList_data,iX]
theorem Eu (l m:List UInt8) : ((B8 l).toList == (B8 m).toList)=decide (l=m):=by
 rw [dX,dX];by_cases h:l=m
 ·subst h;simp
 ·simp [h]
theorem pU (n:Int) : Num.aB 999999 [n]=true<->-999999<=n/\n<=999999:=by rw [Num.mM];simp
theorem pV (l:List UInt8) (hl:l.length<=281474976710656) (w:World) (hL:Laid w) :
  Calls Tryz.prog 82 #[.string (B8 l)] w fun e w'=>e=.returned (.tuple #[.int .i64 ((Num.bQ l).getD 0),.bool (Num.bQ l).isSome])/\Below w.heap.size w w':=by
 have HR:Hid (Num.Sy l=Num.bQ l):=Num.VT l;have HT:Hid (Laid w):=hL;go_enter Tryz.func82,Tryz.ntmps82;go_wp2_with fail;refine (LW l hl w hL).mono ?_;clear hL;rintro e w1 ⟨hb1,⟨n,hn,rfl⟩|⟨hn,x,t,p,rfl⟩⟩
 ·have HN:Hid (Num.Sy l=if (-999999<=n/\n<=999999)/\Num.aR n=l then some n else none):=show Num.Sy l=_ by unfold Num.Sy;rw [hn]
  clear hn;go_wp2_with fail;refine (bq 999999 _ _ _ [n] _ (Ints.newAt rfl _ _) (by omega) (by omega) (by omega)).mono ?_;rintro e w2 ⟨rfl,rfl⟩;have hb2:Below w.heap.size w (w1.alloc (.cells #[.int .i64 n] 2)):=hb1.alloc hb1.size _;by_cases hin:Num.aB 999999 [n]=true
  ·have hin':=(pU n).1 hin;rw [hin];clear hin;have HI:Hid (-999999<=n/\n<=999999):=hin';go_wp2_with fail;refine (rW n (by omega) (by omega) _ (cO HT.out.tab hb2)).mono ?_;rintro e w3 ⟨rfl,hb3⟩;have hb:Below w.heap.size w w3:=hb2.trans (hb3.mono hb2.size);clear hb3 hb2 hb1;have hq:=Eu (Num.aR n) l;by_cases hd:Num.aR n=l
   ·have E:Hid (Num.bQ l=some n):=show Num.bQ l=some n by rw [<-HR.out,HN.out,if_pos ⟨HI.out,hd⟩]
    rw [decide_eq_true hd] at hq;clear hd;go_wp2_with fail;go_ret2;exact ⟨by rw [E.out];rfl,hb⟩
   ·have E:Hid (Num.bQ l=none):=show Num.bQ l=none by rw [<-HR.out,HN.out,if_neg (fun h=>hd h.2)]
    rw [decide_eq_false hd] at hq;clear hd;go_wp2_with fail;go_ret2;exact ⟨by rw [E.out];rfl,hb⟩
  ·have E:Hid (Num.bQ l=none):=show Num.bQ l=none by rw [<-HR.out,HN.out,if_neg (fun h=>hin ((pU n).2 h.1))]
   rw [Bool.eq_false_iff.2 hin];clear hin;go_wp2_with fail;go_ret2;exact ⟨by rw [E.out];rfl,hb2⟩
 ·have E:Hid (Num.bQ l=none):=show Num.bQ l=none by rw [<-HR.out,hn]
  clear hn;go_wp2_with fail;go_ret2;exact ⟨by rw [E.out];rfl,hb1⟩
open Go.RowKit
theorem lT (l:List UInt8) (i j:Nat) : (B8 l).extract i j=B8 ((l.drop i).take (j - i)):=by rw [Lib.extract_eq,iX];rfl
theorem gI (l:List UInt8) (i:Nat) : (B8 l).extract i (B8 l).size=B8 (l.drop i):=by rw [lT,aQ,List.take_of_length_le (by rw [List.length_drop];exact Nat.le_refl _)]
theorem uZ (l:List UInt8) (i:Nat) (h:i < (B8 l).size) (h':i < l.length) : (B8 l)[i]'h=l[i]'h':=by unfold B8;exact List.getElem_toArray ..
def XU:Value->Nat
 | .string s=>s.size
 | _=>0
theorem gN {w w':World} {base:Nat} {e:TypeId} {size n:Nat} {v:Value} {xs:List Value} (h:w.ownsRow base e size v n xs) (hb:Below w.heap.size w w') : w'.ownsRow base e size v n xs :=
 h.kept (row:=none) ⟨hb.os,hb.tape,hb.output,hb.size,fun k hk _=>hb.block k hk⟩ (by cases hv:v.ownBlock<;>simp)
theorem OB (t:List UInt8) : (Lib.cut t [32]).1.length<=t.length:=by
 rcases Num.ib 32 t with h|⟨a,b,rfl,h⟩
 ·rw [Num.pR 32 t h];exact Nat.le_refl _
 ·rw [Num.og 32 a b h];simp
theorem kN (l:List UInt8) (hl:l.length < 4294967281) (w:World) (hL:Laid w) :
  Calls Tryz.prog 39 #[.string (B8 l)] w fun e w'=>∃a n c,e=.returned (.tuple #[.slice a n c,.bool (Num.bu l).isSome])/\Ints w' a n (((Num.bu l).getD []).take 5)/\n<=5/\Below w.heap.size w w'/\(n=0\/∃g,a=some ⟨g,0,none⟩/\w.heap.size<=g):=by
 obtain ⟨i0,hif,hz0,hz1,hz2⟩:=info_parts Tryz.ja;have HT:Hid (Laid w):=hL;have ng:Hid (l.length < 4294967281):=hl;clear hL hl;go_enter Tryz.func39,Tryz.ntmps39;go_wp2_with fail;go_loopw [0,4] (fun s vv wr=>∃rest done,s=.string (B8 rest)/\rest.length<=l.length/\Num.bu l=(Num.bu rest).map (done ++ ·)/\
   wr.ownsRow w.heap.size 2 1 vv (done.take 5).length ((done.take 5).map (Value.int .i64))/\Below w.heap.size w wr) (fun s _ _=>XU s)
 case atStart=>exact ⟨l,[],rfl,Nat.le_refl _,by simp,World.ownsRow_nil _ _ _ _,Below.refl _ _⟩
 case round =>
  obtain ⟨rest,done,rfl,hlen,hrd,hown,hbl⟩:=hrel;have NN:Hid (Num.bu l=(Num.bu rest).map (done ++ ·)):=hrd;have HLEN:Hid (rest.length<=l.length):=hlen;clear hrd hlen;obtain ⟨a4,c4,hv4⟩:=dW hown;subst hv4;have CF:(done.take 5).length<=5:=by rw [List.length_take];omega
  have HD5:Hid ((done.take 5).length=min 5 done.length):=List.length_take;generalize hdl:(done.take 5).length=dl at *;have UF:Hid ((done.take 5).length=dl):=hdl;have HO:Hid (wr.ownsRow w.heap.size 2 1 (.slice a4 dl c4) dl ((done.take 5).map (Value.int .i64))):=hown;clear hown hdl;cases rest with
  | nil =>
   have hq:(B8 []).toList.isEmpty=true:=by rw [dX];rfl
   generalize hS:B8 []=S at hq;clear hS;go_wp2_with fail;go_ret2;have e:Num.bu l=some done:=by rw [NN.out];show some (done ++ [])=_;rw [List.append_nil]
   rw [e];obtain ⟨a',c',hv,hi,ku⟩:=Ints.jr HO.out UF.out.symm;simp only [Value.slice.injEq] at hv;obtain ⟨rfl,_,rfl⟩:=hv;exact ⟨a4,dl,c4,rfl,hi,CF,hbl,ku⟩
  | cons c t =>
   have hq:(B8 (c :: t)).toList.isEmpty=false:=by rw [dX];rfl
   have hsz:0 < (B8 (c :: t)).size:=by rw [aQ];simp
   have hc0:∀h,(B8 (c :: t))[0]'h=c:=fun h=>uZ (c :: t) 0 h (by simp);have hx:(B8 (c :: t)).extract 1 (B8 (c :: t)).size=B8 t:=gI (c :: t) 1;have HX:Hid (∀i,(B8 (c :: t)).extract i (B8 (c :: t)).size=B8 ((c :: t).drop i)):=gI (c :: t);have uX:Hid ((B8 (c :: t)).size=t.length+1):=by show _=_;rw [aQ];rfl
   generalize B8 (c :: t)=S at hq hsz hc0 hx HX uX;have rX:Hid (t.length+1 < 4294967281):=by have h1:=HLEN.out;have h2:=ng.out;rw [List.length_cons] at h1;show _ < _;omega
   by_cases hc:c=32
   ·subst hc;have hd:((((32:UInt8).toNat:Nat) : Int) != 32)=false:=by decide
    go_wp2_with fail;refine (tO t [32] (by have:=rX.out;omega) wr (HT.out.later hbl)).mono ?_;rintro e w1 ⟨rfl,hb1⟩;have HST:Hid (Num.bu (32 :: t)=(Num.bQ (Lib.cut t [32]).1).bind fun n=>(Num.bu (t.drop (Lib.cut t [32]).1.length)).map (n :: ·)):=Num.Cz t;have JY:Hid ((Lib.cut t [32]).1.length<=t.length):=OB t;generalize (Lib.cut t [32]).1=word at HST JY;generalize (Lib.cut t [32]).2.1=more;generalize (Lib.cut t [32]).2.2=ended;have kP:Below w.heap.size w w1:=hbl.trans (hb1.mono hbl.size);have Ev:Hid (w1.ownsRow w.heap.size 2 1 (.slice a4 dl c4) dl ((done.take 5).map (Value.int .i64))):=gN HO.out hb1;clear hb1;go_wp2_with fail;refine (pV word (by have:=JY.out;have:=rX.out;omega) w1 (HT.out.later kP)).mono ?_;rintro e w2 ⟨rfl,hb2⟩;have jT:Below w.heap.size w w2:=kP.trans (hb2.mono kP.size);have Ew:Hid (w2.ownsRow w.heap.size 2 1 (.slice a4 dl c4) dl ((done.take 5).map (Value.int .i64))):=gN Ev.out hb2;clear hb2 Ev HO hbl kP;cases hnw:Num.bQ word with
    | none =>
     have E:Hid (Num.bu l=none):=show Num.bu l=none by rw [NN.out,HST.out,hnw];rfl
     clear hnw;show _;simp only [Option.getD_none,Option.isSome_none];go_wp2_with fail;go_ret2;rw [E.out];exact ⟨none,0,0,rfl,⟨rfl,Or.inl rfl⟩,by omega,jT,Or.inl rfl⟩
    | some n =>
     have E:Hid (Num.bu l=(Num.bu (t.drop word.length)).map ((done ++ [n]) ++ ·)):=show _=_ by rw [NN.out,HST.out,hnw];show ((Num.bu (t.drop word.length)).map (n :: ·)).map (done ++ ·)=_;cases Num.bu (t.drop word.length)<;>simp
     clear hnw;simp only [Option.getD_some,Option.isSome_some];have hwl:(B8 word).size=word.length:=aQ word;have HD:Hid (S.extract (1+word.length) S.size=B8 (t.drop word.length)):=show _=_ by rw [HX.out,Nat.add_comm 1];rfl
     have hs1:(1:Int)+word.length<=S.size:=by have:=uX.out;have:=JY.out;omega
     have hs2:(1:Int)+word.length<=4294967281:=by have:=JY.out;have:=rX.out;omega
     clear hx hc0;have hw1:wrap64 ((1:Int)+word.length)=(1:Int)+word.length:=IntWalk.wrap64_in _ (by omega);have hex:S.extract (((1:Int)+word.length).toNat) S.size=B8 (t.drop word.length):=by rw [show ((1:Int)+word.length).toNat=1+word.length by omega];exact HD.out
     by_cases h4:(dl:Int)<=4
     ·go_wp2_with (at_builtin;refine wpList_append_own _ rfl (.tmp 32) (.tmp 34) 25 rfl w.heap.size 2 i0 (.int .i64 0) 1 8 Tryz.underlying25 hif hz0 hz1 hz2 rfl (by decide) _ _ _ rfl (by exact World.ownsRow.alloc Ew.out _) ⟨w2.heap.size,0,none⟩ 1 1 [.int .i64 n] rfl rfl ?Sk ?Sl ?Sm ?Sn ?Sr ?_)
      case Sk=>first|exact eu rfl _ _|exact dQ rfl _ _
      case Sl=>first|rfl|(intro u hu;simp at hu;subst hu;rfl)
      case Sm=>unfold maxLen;omega
      case Sn=>omega
      case Sr=>have:=jT.size;simp;omega
      intro v' w3 hown' hgrow _;obtain ⟨a',c',hv'⟩:=dW hown';subst hv';have hB:Below w.heap.size w w3:=Below.grown (by exact jT.alloc jT.size _) hgrow (by have:=jT.size;simp;omega) (fun j hj=>(World.ownsRow.lt Ew.out j hj).1);have R:Hid (w3.ownsRow w.heap.size 2 1 (.slice a' (dl+1) c') ((done ++ [n]).take 5).length (((done ++ [n]).take 5).map (Value.int .i64))):=by have hd5:=HD5.out;have hdl:=UF.out;have e1:done.take 5=done:=List.take_of_length_le (by omega);have e2:(done ++ [n]).take 5=done ++ [n]:=List.take_of_length_le (by rw [List.length_append,List.length_singleton];omega);show w3.ownsRow _ _ _ _ _ _;rw [e2,List.length_append,List.length_singleton,List.map_append];rw [<-List.map_take,e1] at hown';rw [e1] at hdl;rw [hdl];exact hown'
      clear hown' hgrow;go_wp2_with fail;go_roundw
      case rel=>exact ⟨t.drop word.length,done ++ [n],rfl,by rw [List.length_drop];have:=HLEN.out;rw [List.length_cons] at this;omega,E.out,R.out,hB⟩
      case measure=>show (B8 (t.drop word.length)).size < S.size;rw [aQ,List.length_drop,uX.out];omega
     ·have R:Hid (w2.ownsRow w.heap.size 2 1 (.slice a4 dl c4) ((done ++ [n]).take 5).length (((done ++ [n]).take 5).map (Value.int .i64))):=by have hd5:=HD5.out;have hdl:=UF.out;have e2:(done ++ [n]).take 5=done.take 5:=List.take_append_of_le_length (by omega);show w2.ownsRow _ _ _ _ _ _;rw [e2,hdl];exact Ew.out
      go_wp2_with fail;go_roundw
      case rel=>exact ⟨t.drop word.length,done ++ [n],rfl,by rw [List.length_drop];have:=HLEN.out;rw [List.length_cons] at this;omega,E.out,R.out,jT⟩
      case measure=>show (B8 (t.drop word.length)).size < S.size;rw [aQ,List.length_drop,uX.out];omega
   ·have hd:(((c.toNat:Nat) : Int) != 32)=true:=by rw [bne_iff_ne];intro e;exact hc (UInt8.toNat_inj.1 (by show c.toNat=32;omega))
    have E:Hid (Num.bu l=none):=show Num.bu l=none by rw [NN.out,Num.CE c t hc];rfl
    go_wp2_with fail;go_ret2;rw [E.out];exact ⟨none,0,0,rfl,⟨rfl,Or.inl rfl⟩,by omega,hbl,Or.inl rfl⟩
theorem Aj (l:List UInt8) (hl:l.length < 4294967281) (w:World) (hL:Laid w) :
  Calls Tryz.prog 43 #[.string (B8 l)] w fun e w'=>∃a n c,e=.returned (.tuple #[.slice a n c,.bool (Num.iM l).isSome])/\Ints w' a n (((Num.iM l).getD []).take 5)/\n<=5/\Below w.heap.size w w'/\(n=0\/∃g,a=some ⟨g,0,none⟩/\w.heap.size<=g):=by
 have HT:Hid (Laid w):=hL;have ng:Hid (l.length < 4294967281):=hl;clear hL hl;go_enter Tryz.func43,Tryz.ntmps43;go_wp2_with fail;refine (mZ l Num.fB w).mono ?_;rintro e w1 ⟨rfl,rfl⟩;have HQ:Hid (Num.iM l=if Num.fB.isPrefixOf l=true then Num.bu (l.drop 4) else none):=(Num.VU l).symm;by_cases hp:Num.fB.isPrefixOf l=true
 ·have E:Hid (Num.iM l=Num.bu (l.drop 4)):=show _=_ by rw [HQ.out,if_pos hp]
  rw [hp,if_pos rfl];clear hp;show _;rw [show l.drop Num.fB.length=l.drop 4 from rfl];go_wp2_with fail;refine (kN (l.drop 4) (by rw [List.length_drop];have:=ng.out;omega) _ HT.out).mono ?_;rintro e w2 ⟨a,n,c,rfl,hi,hn,hb,ku⟩;have HI:Hid (Ints w2 a n (((Num.bu (l.drop 4)).getD []).take 5)):=hi;clear hi;generalize hr:(Num.bu (l.drop 4)).isSome=ok;go_wp2_with fail;go_ret2;rw [E.out,hr];exact ⟨a,n,c,rfl,HI.out,hn,hb,ku⟩
 ·have E:Hid (Num.iM l=none):=show _=_ by rw [HQ.out,if_neg hp]
  rw [Bool.eq_false_iff.2 hp];clear hp;generalize (if false=true then l.drop Num.fB.length else l)=m;go_wp2_with fail;go_ret2;rw [E.out];exact ⟨none,0,0,rfl,⟨rfl,Or.inl rfl⟩,by omega,Below.refl _ _,Or.inl rfl⟩
theorem A8 (s sep:List UInt8) : (Lib.cut s sep).1.length<=s.length/\(Lib.cut s sep).2.1.length<=s.length:=by
 unfold Lib.cut;split
 ·constructor
  ·show (s.take _).length<=_;rw [List.length_take];omega
  ·show (s.drop _).length<=_;rw [List.length_drop];omega
 ·constructor
  ·exact Nat.le_refl _
  ·simp
theorem bL (l m:List UInt8) : B8 l ++ B8 m=B8 (l ++ m):=by apply ByteArray.ext;rw [ByteArray.data_append];simp [B8]
theorem Ex (l:List UInt8) (hl:l.length < 4294967280) (w:World) (hL:Laid w) :
  Calls Tryz.prog 44 #[.string (B8 l)] w fun e w'=>∃a n c m o,e=.returned (.tuple #[.agg #[.slice a n c,.int .i64 m],.bool (Num.rowP l).isSome])/\Ints w' a n (List.take 5 o)/\n<=5/\(∀q,Num.rowP l=some q->q=(o,m))/\Below w.heap.size w w'/\(n=0\/∃g,a=some ⟨g,0,none⟩/\w.heap.size<=g):=by
 have HT:Hid (Laid w):=hL;have ng:Hid (l.length < 4294967280):=hl;clear hL hl;have hap:(ByteArray.mk #[32]) ++ B8 l=B8 (32 :: l):=bL [32] l;have hsz:(B8 l).size<=4294967280:=by rw [aQ];have:=ng.out;omega
 have HQ:Hid (Num.rowP l=if (Lib.cut (32 :: l) Num.jb).2.2=true then (Num.bu (Lib.cut (32 :: l) Num.jb).1).bind fun o=>(Num.bQ (Lib.cut (32 :: l) Num.jb).2.1).map fun m=>(o,m) else none):=(Num.XT l).symm;have HC1:Hid ((Lib.cut (32 :: l) Num.jb).1.length<=l.length+1):=(A8 (32 :: l) Num.jb).1;have HC2:Hid ((Lib.cut (32 :: l) Num.jb).2.1.length<=l.length+1):=(A8 (32 :: l) Num.jb).2;go_enter Tryz.func44,Tryz.ntmps44;go_wp2_with fail;refine (tO (32 :: l) Num.jb (by rw [List.length_cons];have:=ng.out;omega) _ (HT.out.later (af w _))).mono ?_;rintro e w1 ⟨rfl,hb1⟩;generalize (Lib.cut (32 :: l) Num.jb).1=of at HQ HC1;generalize (Lib.cut (32 :: l) Num.jb).2.1=most at HQ HC2;generalize (Lib.cut (32 :: l) Num.jb).2.2=parted at HQ;have hB1:Below w.heap.size w w1:=dN hb1;go_wp2_with fail;refine (kN of (by have:=HC1.out;have:=ng.out;omega) _ (HT.out.later hB1)).mono ?_;rintro e w2 ⟨a,n,c,rfl,hi,hn,hb2,ku⟩;have SI:=hb1.trans (hb2.mono hb1.size);have hB2:Below w.heap.size w w2:=dN SI;have OC:n=0\/∃g,a=some ⟨g,0,none⟩/\w.heap.size+1<=g:=by
  rcases ku with h|⟨g,h,h'⟩
  ·exact Or.inl h
  ·have:=hb1.size;simp at this;exact Or.inr ⟨g,h,by omega⟩
 have HI:Hid (Ints w2 a n (((Num.bu of).getD []).take 5)):=hi;clear hi hb1 hb2 ku;generalize UG:(Num.bu of).isSome=fine;have HF:Hid ((Num.bu of).isSome=fine):=UG;clear UG;go_wp2_with fail;refine (pV most (by have:=HC2.out;have:=ng.out;omega) _ (HT.out.later hB2)).mono ?_;rintro e w3 ⟨rfl,hb3⟩;have LX:=SI.trans (hb3.mono SI.size);have hB3:Below w.heap.size w w3:=dN LX;have HI3:Hid (Ints w3 a n (((Num.bu of).getD []).take 5)):=Ints.below HI.out hb3 (Nat.le_refl _);generalize hw:(Num.bQ most).isSome=whole;generalize hm:(Num.bQ most).getD 0=m;have HW:Hid ((Num.bQ most).isSome=whole):=hw;have HM:Hid ((Num.bQ most).getD 0=m):=hm;have c0:w3.cell? ⟨w.heap.size,0,none⟩=some (.slice none 0 0):=by rw [(JS LX 0).1];go_simp
 have c1:w3.cell? ⟨w.heap.size,1,none⟩=some (.int .i64 0):=by rw [(JS LX 1).1];go_simp
 have f0:w3.frozen? ⟨w.heap.size,0,none⟩=false:=by rw [LX.frozen (by simp)];go_simp
 have f1:w3.frozen? ⟨w.heap.size,1,none⟩=false:=by rw [LX.frozen (by simp)];go_simp
 have HE:Hid ((Num.rowP l).isSome=(parted && fine && whole)):=by
  show _=_;rw [HQ.out,<-HF.out,<-HW.out];cases parted with
  | false=>rfl
  | true=>cases Num.bu of<;>cases Num.bQ most<;>rfl
 have HV:Hid (∀q,Num.rowP l=some q->q=((Num.bu of).getD [],m)):=by
  show ∀q,_;intro q hq;rw [HQ.out] at hq;rw [<-HM.out];cases parted with
  | false=>cases hq
  | true =>
   cases h1:Num.bu of with
   | none=>rw [h1] at hq;cases hq
   | some o =>
    cases h2:Num.bQ most with
    | none=>rw [h1,h2] at hq;cases hq
    | some k=>rw [h1,h2] at hq;exact (Option.some.inj hq).symm
 clear SI hb3 LX hw hm hB1 hB2;cases parted<;>cases fine<;>cases whole<;>(
  go_wp2_with fail;refine bodyPost_ret (v:=.tuple #[.agg #[.slice a n c,.int .i64 m],.bool _]) (by simp [results,Tryz.results44,go_sem,c0,c1];rfl) rfl ⟨a,n,c,m,(Num.bu of).getD [],by rw [HE.out];rfl,Ints.set (Ints.set HI3.out OC (by simp) _) OC (by simp) _,hn,HV.out,(hB3.setCell (Nat.le_refl _) _).setCell (Nat.le_refl _) _,by rcases OC with h|⟨g,h,h'⟩;exact Or.inl h;exact Or.inr ⟨g,h,by omega⟩⟩)
end Go.Proofs.YtipcbhodlgoflabGreatDoor
