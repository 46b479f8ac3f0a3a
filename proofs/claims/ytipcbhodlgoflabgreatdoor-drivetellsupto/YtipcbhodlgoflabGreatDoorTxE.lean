/- Package text's writing: written, and the closure that puts a line. -/
import Derived.Test.YtipcbhodlgoflabGreatDoorTxAB
import Derived.Deep.AppendLies
import Derived.Deep.RegionLaw
set_option maxHeartbeats 1600000
set_option maxRecDepth 8000
namespace Go.Proofs.YtipcbhodlgoflabGreatDoor
open Go.RowKit
theorem Tryz.xB:(Tryz.prog.info? 9).map (fun i=>(i.zero,i.size,i.bytes))=some (some (.string ⟨#[]⟩),1,16):=by kernel_rfl
def strs (ws:List (List UInt8)) : List Value:=ws.map fun s=>.string (B8 s)
theorem ky (a b:List (List UInt8)) : strs (a ++ b)=strs a ++ strs b:=List.map_append
theorem pW (a:List (List UInt8)) : (strs a).length=a.length:=List.length_map ..
def SK (w:World) (v0 v:Value) : Prop:=∀g,v.ownBlock=some g->v0.ownBlock=some g\/w.heap.size<=g
theorem Ints.Ez {W w2:World} {row:Option Nat} {a:Option Addr} {n:Nat} {l:List Int} (hi:Ints W a n l) (hg:W.grownBy w2 row) (hne:∀b off,a=some ⟨b,off,none⟩->some b≠row) : Ints w2 a n l:=by
 refine ⟨hi.1,?_⟩;rcases hi.2 with h0|⟨b,off,hab,hb,hc⟩
 ·exact Or.inl h0
 ·refine Or.inr ⟨b,off,hab,Nat.lt_of_lt_of_le hb hg.size,fun j hj=>?_⟩;rw [hg.cell_far ⟨b,off+j,none⟩ hb (hne b off hab)];exact hc j hj
theorem pX (B:Nat) (va:Option Addr) (n vc:Nat) (ws:List (List UInt8)) (a:Option Addr) (len cap:Nat) (l:List Int) (w:World)
  (hown:w.ownsRow B 9 1 (.slice va n vc) n (strs ws)) (hB:B<=w.heap.size) (hi:Ints w a len l) (hne:∀b off,0 < len->a=some ⟨b,off,none⟩->some b≠(Value.slice va n vc).ownBlock)
  (hn:n<=1000000) (hlen:len<=1000000) (hl:∀j,j < len->-1000000<=l[j]?.getD 0/\l[j]?.getD 0<=1000000)
  (ht:∀w',Below B w w'->Lib.TabIs Tryz.prog w' "internal/strconv.uint64pow10" .u64 Lib.pow10Tab) :
  Calls Tryz.prog 52 #[.slice va n vc,.slice a len cap] w fun e w'=>∃Bb J3,e=.returned (.slice Bb (n+len) J3)/\w'.ownsRow B 9 1 (.slice Bb (n+len) J3) (n+len) (strs (ws ++ l.map Num.aR))/\SK w (.slice va n vc) (.slice Bb (n+len) J3)/\Below B w w':=by
 have HO:Hid (w.ownsRow B 9 1 (.slice va n vc) n (strs ws)):=hown;have HI:Hid (Ints w a len l):=hi;have VW:Hid (∀b off,0 < len->a=some ⟨b,off,none⟩->some b≠(Value.slice va n vc).ownBlock):=hne;have HL:Hid (∀j,j < len->-1000000<=l[j]?.getD 0/\l[j]?.getD 0<=1000000):=hl;have HT:Hid (∀w',Below B w w'->Lib.TabIs Tryz.prog w' "internal/strconv.uint64pow10" .u64 Lib.pow10Tab):=ht;have J4:Hid (len=l.length):=hi.1;obtain ⟨i0,hif,hz0,hz1,hz2⟩:=info_parts Tryz.xB;clear hown hi hne hl ht;go_enter Tryz.func52,Tryz.ntmps52;go_wp2_with fail;go_loopw [0,9] (fun vv i wr=>∃(k:Nat) (xa:Option Addr) (xc:Nat),k<=len/\i=.int .i64 k/\vv=.slice xa (n+k) xc/\wr.ownsRow B 9 1 (.slice xa (n+k) xc) (n+k) (strs (ws ++ (l.take k).map Num.aR))/\SK w (.slice va n vc) (.slice xa (n+k) xc)/\Ints wr a len l/\Below B w wr) (fun _ i _=>len - (intOf i).toNat)
 case atStart=>exact ⟨0,va,vc,Nat.zero_le _,rfl,rfl,by simpa using HO.out,fun g h=>Or.inl h,HI.out,Below.refl _ _⟩
 case round =>
  obtain ⟨k,xa,xc,hk,rfl,rfl,ho,OL,ZE,hbl⟩:=hrel;have Ac:Hid (wr.ownsRow B 9 1 (.slice xa (n+k) xc) (n+k) (strs (ws ++ (l.take k).map Num.aR))):=ho;have HNR:Hid (SK w (.slice va n vc) (.slice xa (n+k) xc)):=OL;have HIW:Hid (Ints wr a len l):=ZE;by_cases hlt:k < len
  ·rcases ZE.2 with h0|⟨b,off,hab,hbs,hc⟩
   ·omega
   have ck:=hc k hlt;have hx:=HL.out k hlt;have hkl:k < l.length:=by have:=J4.out;omega
   generalize hxv:l[k]?.getD 0=x at ck hx;have HX:Hid (l[k]?.getD 0=x):=hxv;have OM:Hid (-1000000<=x/\x<=1000000):=hx;subst hab;clear hc ZE ho OL hxv hx;go_wp2_with fail;refine (rW x (by have:=OM.out;omega) (by have:=OM.out;omega) wr (HT.out wr hbl)).mono ?_;rintro e w1 ⟨rfl,hb1⟩;have kP:Below B w w1:=hbl.trans (hb1.mono (by have:=hbl.size;omega));have Ev:Hid (w1.ownsRow B 9 1 (.slice xa (n+k) xc) (n+k) (strs (ws ++ (l.take k).map Num.aR))):=World.ownsRow.kept (row:=none) Ac.out ⟨hb1.os,hb1.tape,hb1.output,hb1.size,fun k hk _=>hb1.block k hk⟩ (by cases (Value.slice xa (n+k) xc).ownBlock<;>simp);have HI1:Hid (Ints w1 (some ⟨b,off,none⟩) len l):=HIW.out.below hb1 (Nat.le_refl _);clear hb1 ck;go_wp2_with (at_builtin;refine wpList_append_lies _ rfl (.tmp 13) (.tmp 16) 22 rfl B 9 i0 (.string ⟨#[]⟩) 1 16 Tryz.underlying22 hif hz0 hz1 hz2 rfl (by decide) _ _ _ rfl (by exact World.ownsRow.alloc Ev.out _) ⟨w1.heap.size,0,none⟩ 1 1 [.string (B8 (Num.aR x))] rfl rfl ?Sk ?Sl (by decide) ?Sm ?Sn ?Sr (w1.heap.size+1) (by simp) ?_)
   case Sk=>first|exact eu rfl _ _|exact dQ rfl _ _
   case Sl=>first|rfl|(intro u hu;simp at hu;subst hu;rfl)
   case Sm=>unfold maxLen;omega
   case Sn=>omega
   case Sr=>have:=kP.size;simp;omega
   intro g cp w2 ho2 hg2 SN hlt2;have jT:Below B w w2:=Below.grown (by exact kP.alloc (by have:=kP.size;omega) _) hg2 (by have:=kP.size;simp;omega) (fun j hj=>(World.ownsRow.lt Ev.out j hj).1);have R1:Hid (w2.ownsRow B 9 1 (.slice (some ⟨g,0,none⟩) (n+(k+1)) cp) (n+(k+1)) (strs (ws ++ (l.take (k+1)).map Num.aR))):=by
    show w2.ownsRow _ _ _ _ _ _;have hX:=HX.out;rw [List.getElem?_eq_getElem hkl,Option.getD_some] at hX;rw [List.take_succ_eq_append_getElem hkl,hX,List.map_append,<-List.append_assoc,ky]
    first|exact ho2|(rw [<-List.map_take] at ho2;exact ho2)
   have R2:Hid (SK w (.slice va n vc) (.slice (some ⟨g,0,none⟩) (n+(k+1)) cp)):=by
    intro g' e;have e:g=g':=by simpa [Value.ownBlock] using e
    subst e;rcases SN with h|h
    ·exact HNR.out g h
    ·have:=kP.size;exact Or.inr (by omega)
   have R3:Hid (Ints w2 (some ⟨b,off,none⟩) len l):=by
    refine Ints.Ez (HI1.out.below (af w1 _) (Nat.le_refl _)) hg2 (fun b' off' e h=>?_);rcases HNR.out b' h.symm with h'|h'
    ·exact VW.out b' off' (by omega) e h'.symm
    ·rcases HI.out.2 with h0|⟨b2,CG,e2,hb2,_⟩
     ·omega
     ·rw [e] at e2;have:=Option.some.inj e2;simp only [Addr.mk.injEq] at this;omega
   clear ho2 hg2 SN;go_wp2_with fail;go_roundw
   case rel=>exact ⟨k+1,some ⟨g,0,none⟩,cp,by omega,by go_num,rfl,R1.out,R2.out,R3.out,jT⟩
   case measure=>simp [intOf];omega
  ·have hke:k=len:=by omega
   subst hke;clear ZE ho OL;go_wp2_with fail;go_ret;refine ⟨xa,xc,rfl,?_,HNR.out,hbl⟩;have:=Ac.out;rw [J4.out,List.take_length,<-J4.out] at this;exact this
theorem eO {B b:Nat} {bs:List Value} {w w':World} (h:Lib.IsBuilderF 46 5 B b bs w) (hb:Below w.heap.size w w') : Lib.IsBuilderF 46 5 B b bs w':=by
 have key:∀p,Lib.BuilderAtF 46 5 B b p bs w->Lib.BuilderAtF 46 5 B b p bs w':=by intro p hp;have hlt:=hp.lt;obtain ⟨h1,v,h2,h3,h4⟩:=hp;exact ⟨h1,v,by rw [hb.block b hlt];exact h2,h3.kept (row:=none) ⟨hb.os,hb.tape,hb.output,hb.size,fun k hk _=>hb.block k hk⟩ (by cases v.ownBlock<;>simp),h4⟩
 rcases h with h|h
 ·exact Or.inl (key _ h)
 ·exact Or.inr (key _ h)
theorem EA (ws:List (List UInt8)) : (ws.map B8).map (·.data.toList)=ws:=by
 rw [List.map_map];have:((fun x:ByteArray=>x.data.toList) ∘ B8)=id:=by funext l;exact iX l
 rw [this,List.map_id]
theorem EB (g c n:Nat) (ws:List (List UInt8)) (base:Nat) (w:World) (hown:w.ownsRow base 9 1 (.slice (some ⟨g,0,none⟩) n c) n (strs ws)) (hn:1<=n) (hn2:n<=1000000) (hj:(Num.joinW 32 ws).length<=1000000) :
  Calls Tryz.prog 51 #[.slice (some ⟨g,0,none⟩) n c,.string (B8 [32])] w fun e w'=>e=.returned (.string (B8 (Num.joinW 32 ws)))/\Below w.heap.size w w':=by
 have hl:ws.length=n:=by have:=hown.1;rw [pW] at this;omega
 have hlx:(ws.map B8).length=n:=by rw [List.length_map,hl]
 have hcap:n<=c:=by
  rcases hown.2 with ⟨hv,_⟩|⟨g',cap,cur,hv,h⟩
  ·cases hv
  ·simp only [Value.slice.injEq] at hv;obtain ⟨_,_,rfl⟩:=hv;exact h.2.2.1
 have key:=Tryz.strings_Join g 0 c (ws.map B8) (B8 [32]) w (fun j x hj=>by
   rw [Nat.zero_add,hown.cellAt j (by have:=List.getElem?_eq_some_iff.1 hj;obtain ⟨h,_⟩:=this;rw [hlx] at h;omega)];unfold strs;rw [List.getElem?_map] at hj ⊢;cases hw:ws[j]? with
   | none=>rw [hw] at hj;cases hj
   | some y=>rw [hw] at hj;rw [<-Option.some.inj hj];rfl) (hown.lt g rfl).2 (by omega) (by omega) (by rw [EA,iX,Num.AZ];omega)
 rw [hlx] at key;refine key.mono ?_;rintro e w' ⟨rfl,hb⟩;refine ⟨?_,hb⟩;rw [EA,iX,Num.AZ];rfl
theorem CJ {e:TypeId} {b:Option Nat} {w w':World} (hb:Below w.heap.size w w') : Lib.OthersKept e b w w':=fun k o hk _ _=>by
 rw [hb.block k (Array.getElem?_eq_some_iff.1 hk).1];exact hk
theorem EC (B b:Nat) (l:List UInt8) (va:Option Addr) (n vc:Nat) (ws:List (List UInt8)) (base:Nat) (w:World) (hI:Lib.IsBuilderF 46 5 B b (Lib.byteCells l) w) (hB:B<=w.heap.size) (hown:w.ownsRow base 9 1 (.slice va n vc) n (strs ws)) (hn:1<=n) (hn2:n<=1000) (hl:l.length<=1000000) (hj:(Num.joinW 32 ws).length<=1000000) :
  Calls Tryz.prog 50 #[.slice va n vc,.pointer (some ⟨b,0,none⟩)] w fun e w'=>e=.returned (.tuple #[])/\Lib.IsBuilderF 46 5 B b (Lib.byteCells (l ++ (Num.joinW 32 ws ++ [10]))) w'/\Below B w w'/\Lib.OthersKept 5 (some b) w w':=by
 have HI:Hid (Lib.IsBuilderF 46 5 B b (Lib.byteCells l) w):=hI;have HO:Hid (w.ownsRow base 9 1 (.slice va n vc) n (strs ws)):=hown;obtain ⟨g,c,hv,_,hlt⟩:=hown.form (by omega);simp only [Value.slice.injEq,true_and] at hv;obtain ⟨rfl,rfl⟩:=hv;have JY:Hid (ws.length=n):=show ws.length=n by have:=hown.1;rw [pW] at this;omega
 clear hI hown;go_enter Tryz.func50,Tryz.ntmps50;go_wp2_with fail;refine (EB g vc n ws base w HO.out hn (by omega) hj).mono ?_;rintro e w1 ⟨rfl,hb1⟩;have hs:=aQ (Num.joinW 32 ws);have RD:Hid (Lib.OthersKept 5 (some b) w w1):=CJ hb1;have hB1:Below B w w1:=hb1.mono hB;have HI1:Hid (Lib.IsBuilderF 46 5 B b (Lib.byteCells l) w1):=eO HI.out hb1;have hcl:(Lib.byteCells l).length=l.length:=by simp [Lib.byteCells]
 clear hb1;go_wp2_with fail;refine (Tryz.Builder_WriteString_k B b (Lib.byteCells l) (B8 (Num.joinW 32 ws)) w1 HI1.out (by rw [hcl,hs];omega) (by have:=hB1.size;omega)).mono ?_;rintro e w2 ⟨rfl,hI2,hb2,hk2⟩;have HI2:Hid (Lib.IsBuilderF 46 5 B b (Lib.byteCells l ++ Lib.strCells (B8 (Num.joinW 32 ws))) w2):=Or.inr hI2;have HB2:Hid (Below B w w2):=hB1.trans hb2;have UH:Hid (Lib.OthersKept 5 (some b) w w2):=RD.out.trans hk2;have hcs:(Lib.strCells (B8 (Num.joinW 32 ws))).length=(Num.joinW 32 ws).length:=by show (Lib.byteCells (Num.joinW 32 ws)).length=_;simp [Lib.byteCells]
 clear hI2 hb2 hk2;go_wp2_with fail;refine (Tryz.Builder_WriteByte_k B b (Lib.byteCells l ++ Lib.strCells (B8 (Num.joinW 32 ws))) 10 w2 HI2.out (by rw [List.length_append,hcl,hcs];omega) (by have:=HB2.out.size;omega)).mono ?_;rintro e w3 ⟨rfl,CK,hb3,hk3⟩;have HI3:Hid (Lib.BuilderAtF 46 5 B b (.pointer (some ⟨b,0,none⟩)) (Lib.byteCells l ++ Lib.strCells (B8 (Num.joinW 32 ws)) ++ [.int .u8 10]) w3):=CK;have HB3:Hid (Below B w w3):=HB2.out.trans hb3;have ZF:Hid (Lib.OthersKept 5 (some b) w w3):=UH.out.trans hk3;clear CK hb3 hk3;go_wp2_with fail;go_end0;refine ⟨rfl,?_,HB3.out,ZF.out⟩;have e:Lib.byteCells (l ++ (Num.joinW 32 ws ++ [10]))=Lib.byteCells l ++ Lib.strCells (B8 (Num.joinW 32 ws)) ++ [.int .u8 10]:=by show _=Lib.byteCells l ++ Lib.byteCells (Num.joinW 32 ws) ++ [.int .u8 10];rw [Lib.byteCells_append,Lib.byteCells_append,List.append_assoc];rfl
 rw [e];exact Or.inr HI3.out
end Go.Proofs.YtipcbhodlgoflabGreatDoor
