/- Package drive: which function answers a line. -/
import Derived.Test.YtipcbhodlgoflabGreatDoorDrvS
import Derived.Deep.CutRange
set_option maxHeartbeats 6400000
set_option maxRecDepth 8000
namespace Go.Proofs.YtipcbhodlgoflabGreatDoor
open Go.RowKit
theorem kK (P:Nat) (fn:Fn) (fs cs:Array Value) (w:World) :
  Calls Tryz.prog 35 #[.pointer (some ⟨P,0,none⟩),.func fn fs cs] w fun e w'=>∃b1 b2:Nat,e=.returned (.func (.func 76) #[] #[.pointer (some ⟨b1,0,none⟩),.pointer (some ⟨b2,0,none⟩)])/\
   w'.cell? ⟨b1,0,none⟩=some (.pointer (some ⟨P,0,none⟩))/\w'.cell? ⟨b2,0,none⟩=some (.func fn fs cs)/\Below w.heap.size w w':=by
 have HB:Hid (Below w.heap.size w ((w.alloc (.cells #[.pointer (some ⟨P,0,none⟩)] 91)).alloc (.cells #[.func fn fs cs] 51))):=ai (af _ _) (af _ _);have H1:Hid (((w.alloc (.cells #[.pointer (some ⟨P,0,none⟩)] 91)).alloc (.cells #[.func fn fs cs] 51)).cell? ⟨w.heap.size,0,none⟩=some (.pointer (some ⟨P,0,none⟩))):=carry (af _ _) (cB rfl _ _);have H2:Hid (((w.alloc (.cells #[.pointer (some ⟨P,0,none⟩)] 91)).alloc (.cells #[.func fn fs cs] 51)).cell? ⟨w.heap.size+1,0,none⟩=some (.func fn fs cs)):=cB (by simp) _ _;go_enter Tryz.func35,Tryz.ntmps35;go_wp2_with fail;go_ret;exact ⟨_,_,rfl,H1.out,H2.out,HB.out⟩
theorem str_eq {l c:List UInt8} (h:l=c) : ((B8 l).toList == c)=true/\(B8 l).toList=c:=by rw [dX];exact ⟨by simp [h],h⟩
theorem eY {l c:List UInt8} (h:l≠c) : ((B8 l).toList == c)=false/\¬ (B8 l).toList=c:=by rw [dX];exact ⟨by simpa using h,h⟩
theorem Us (P:Nat) (w:World) : Calls Tryz.prog 38 #[.pointer (some ⟨P,0,none⟩),.string (B8 Num.lookW)] w fun e w'=>e=.returned (.func (.func 79) #[.pointer (some ⟨P,0,none⟩)] #[])/\w'=w:=by have e1:((B8 Num.lookW).toList == [108,111,111,107])=true:=(str_eq rfl).1;generalize B8 Num.lookW=S at e1;go_enter Tryz.func38,Tryz.ntmps38;go_wp2_with fail;go_ret;exact ⟨rfl,rfl⟩
theorem Ut (P:Nat) (w:World) : Calls Tryz.prog 38 #[.pointer (some ⟨P,0,none⟩),.string (B8 Num.fZ)] w fun e w'=>e=.returned (.func (.func 80) #[.pointer (some ⟨P,0,none⟩)] #[])/\w'=w:=by have a1:((B8 Num.fZ).toList == [108,111,111,107])=false:=(eY (by decide)).1;have e1:((B8 Num.fZ).toList == [119,97,108,107])=true:=(str_eq rfl).1;generalize B8 Num.fZ=S at a1 e1;go_enter Tryz.func38,Tryz.ntmps38;go_wp2_with fail;go_ret;exact ⟨rfl,rfl⟩
theorem Rt (P:Nat) (w:World) : Calls Tryz.prog 38 #[.pointer (some ⟨P,0,none⟩),.string (B8 Num.gH)] w fun e w'=>e=.returned (.func (.func 81) #[.pointer (some ⟨P,0,none⟩)] #[])/\w'=w:=by have a1:((B8 Num.gH).toList == [108,111,111,107])=false:=(eY (by decide)).1;have a2:((B8 Num.gH).toList == [119,97,108,107])=false:=(eY (by decide)).1;have e1:((B8 Num.gH).toList == [115,119,101,101,112])=true:=(str_eq rfl).1;generalize B8 Num.gH=S at a1 a2 e1;go_enter Tryz.func38,Tryz.ntmps38;go_wp2_with fail;go_ret;exact ⟨rfl,rfl⟩
theorem Uu (P:Nat) (word:List UInt8) (h1:word≠Num.lookW) (h2:word≠Num.fZ) (h3:word≠Num.gH) (w:World) : Calls Tryz.prog 38 #[.pointer (some ⟨P,0,none⟩),.string (B8 word)] w fun e w'=>e=.returned .nilFunc/\w'=w:=by have a1:((B8 word).toList == [108,111,111,107])=false:=(eY h1).1;have a2:((B8 word).toList == [119,97,108,107])=false:=(eY h2).1;have a3:((B8 word).toList == [115,119,101,101,112])=false:=(eY h3).1;generalize B8 word=S at a1 a2 a3;go_enter Tryz.func38,Tryz.ntmps38;go_wp2_with fail;go_ret;exact ⟨rfl,rfl⟩
theorem uS (w:World) (u v:Value) (t:TypeId) (hv:v.oneCell'=true) : (store ⟨w.heap.size,0,none⟩ v).run Tryz.prog (w.alloc (.cells #[u] t))=.ok () (w.alloc (.cells #[v] t)):=by
 rw [run_store _ _ _ v _ hv,cB rfl u t];have hf:(w.alloc (.cells #[u] t)).frozen? ⟨w.heap.size,0,none⟩=false:=by go_simp
 rw [hf];have hs:(w.alloc (.cells #[u] t)).setCell ⟨w.heap.size,0,none⟩ v=w.alloc (.cells #[v] t):=by go_simp
 rw [hs];rfl
theorem JC (W:World) (f:Fn) (a b:Array Value) : (binOp .eql 95 (.func f a b) .nilFunc).run Tryz.prog W=.ok (.bool false) W:=by
 have h:∀d:Nat,(Op.equalIn (d+1) 95 (.func f a b) .nilFunc).run Tryz.prog W=.ok false W:=fun d=>by
  simp [Op.equalIn,run_underlying Tryz.underlying95]
 simp only [binOp];simp [Op.equal,Op.maxDepth,h 9999]
theorem Uv (W:World) : (binOp .eql 95 .nilFunc .nilFunc).run Tryz.prog W=.ok (.bool true) W:=by
 have h:∀d:Nat,(Op.equalIn (d+1) 95 .nilFunc .nilFunc).run Tryz.prog W=.ok true W:=fun d=>by
  simp [Op.equalIn,run_underlying Tryz.underlying95]
 simp only [binOp];simp [Op.equal,Op.maxDepth,h 9999]
def JD (w0:World) (P:Nat) (g:Num.Pl) (v:Value) (B E:Nat) (line:List UInt8) (F:Value) (w:World) : Prop :=
 (∃x y,F=.func (.func 31) #[] #[x,y]/\Hid (Calls Tryz.prog 31 #[x,y] w (Told w0 P v B E w (Num.aS Num.bC g line).1 (Num.aS Num.bC g line).2)))\/
 (∃x,F=.func (.func 33) #[x] #[]/\Hid (Calls Tryz.prog 33 #[x] w (Told w0 P v B E w (Num.aS Num.bC g line).1 (Num.aS Num.bC g line).2)))\/
 (∃x,F=.func (.func 34) #[x] #[]/\Hid (Calls Tryz.prog 34 #[x] w (Told w0 P v B E w (Num.aS Num.bC g line).1 (Num.aS Num.bC g line).2)))\/
 (F=.func (.func 40) #[] #[]/\Hid (Calls Tryz.prog 40 #[] w (Told w0 P v B E w (Num.aS Num.bC g line).1 (Num.aS Num.bC g line).2)))\/
 (∃x y,F=.func (.func 76) #[] #[x,y]/\Hid (Calls Tryz.prog 76 #[x,y] w (Told w0 P v B E w (Num.aS Num.bC g line).1 (Num.aS Num.bC g line).2)))
theorem rq (w0:World) (P:Nat) (g:Num.Pl) (v:Value) (B E:Nat) (line:List UInt8) (w:World) (h:Ag w0 P g v B E w) (hl:Num.aS Num.bC g line=(g,[63])) : JD w0 P g v B E line (.func (.func 40) #[] #[]) w:=by refine Or.inr (Or.inr (Or.inr (Or.inl ⟨rfl,?_⟩)));rw [hl];show Calls _ _ _ _ _;exact (Rs w).mono fun e w' k=>Told.of h k.1 k.2
theorem Vx {line:List UInt8} (h:¬ ∃more,line=61 :: 32 :: more) : line.take 2≠[61,32]/\[61,32].isPrefixOf line=false:=by
 match line,h with
 | [],_=>exact ⟨by decide,rfl⟩
 | [a],_=>exact ⟨by simp,by simp [List.isPrefixOf]⟩
 | a :: b :: r,h =>
  refine ⟨fun e=>h ⟨r,?_⟩,?_⟩
  ·simp at e;rw [e.1,e.2]
  ·cases hp:[61,32].isPrefixOf (a :: b :: r) with
   | false=>rfl
   | true =>simp [List.isPrefixOf] at hp;exact absurd ⟨r,by rw [<-hp.1,<-hp.2]⟩ h
theorem AO (w0:World) (P:Nat) (g:Num.Pl) (v:Value) (B E:Nat) (line:List UInt8) (w:World) (h:Ag w0 P g v B E w) (hlen:g.text.length+line.length+1<=100000000) :
  Calls Tryz.prog 13 #[.pointer (some ⟨P,0,none⟩),.string (B8 line)] w fun e w'=>∃F,e=.returned F/\Below w.heap.size w w'/\JD w0 P g v B E line F w':=by
 have HX:Hid (Ag w0 P g v B E w):=h;have Zr:Hid (Laid w):=by obtain ⟨_,_,_,_,_,_,_,h⟩:=h;exact h.iF
 have HL:Hid (line.length<=100000000/\g.text.length+line.length+1<=100000000):=⟨by omega,hlen⟩;clear h hlen;have hB0:=af w (.cells #[.pointer (some ⟨P,0,none⟩)] 91);have cP0:=cB (w:=w) rfl (.pointer (some ⟨P,0,none⟩)) 91;by_cases hpre:∃more,line=61 :: 32 :: more
 ·obtain ⟨more,rfl⟩:=hpre;have Lu:Hid (∀w':World,Calls Tryz.prog 30 #[.string (B8 (61 :: 32 :: more)),.string (B8 [61,32])] w' fun e w''=>e=.returned (.tuple #[.string (B8 more),.bool true])/\w''=w'):=by
   intro w';have:=mZ (61 :: 32 :: more) [61,32] w';have e1:[61,32].isPrefixOf (61 :: 32 :: more)=true:=by simp [List.isPrefixOf]
   rw [e1,if_pos rfl] at this;exact this
  have DT:Hid (Num.aS Num.bC g (61 :: 32 :: more)=(⟨g.text ++ more ++ [10],g.prog⟩,Num.dC Num.xu (g.text ++ more ++ [10]).length)):=Num.GI _ g more;have HLM:Hid (g.text.length+more.length+1<=100000000):=by have:=HL.out.2;rw [List.length_cons,List.length_cons] at this;show _<=_;omega
  have hB1:=ai hB0 (af (w.alloc (.cells #[.pointer (some ⟨P,0,none⟩)] 91)) (.cells #[.string (B8 more)] 9));have cP1:=carry (af (w.alloc (.cells #[.pointer (some ⟨P,0,none⟩)] 91)) (.cells #[.string (B8 more)] 9)) cP0;have cM1:=cB (w:=w.alloc (.cells #[.pointer (some ⟨P,0,none⟩)] 91)) (k:=w.heap.size+1) (by simp) (.string (B8 more)) 9;generalize hS:B8 (61 :: 32 :: more)=S at Lu;clear hS;go_enter Tryz.func13,Tryz.ntmps13;go_wp2_with fail;refine (Lu.out _).mono ?_;rintro e w1 ⟨rfl,rfl⟩;go_wp2_with fail;go_ret;refine ⟨_,rfl,hB1,Or.inl ⟨_,_,rfl,?_⟩⟩;rw [DT.out];exact Rq w0 P g v B E more _ _ _ (HX.out.later hB1) HLM.out cP1 cM1
 ·obtain ⟨hn0,hpf⟩:=Vx hpre;have Vy:Hid (line.take 2≠[61,32]):=hn0;have Lu:Hid (∀w':World,Calls Tryz.prog 30 #[.string (B8 line),.string (B8 [61,32])] w' fun e w''=>e=.returned (.tuple #[.string (B8 line),.bool false])/\w''=w'):=by intro w';have:=mZ line [61,32] w';rw [hpf,if_neg (by decide)] at this;exact this
  have vk:=ai hB0 (af (w.alloc (.cells #[.pointer (some ⟨P,0,none⟩)] 91)) (.cells #[.string (B8 line)] 9));have cP:=carry (af (w.alloc (.cells #[.pointer (some ⟨P,0,none⟩)] 91)) (.cells #[.string (B8 line)] 9)) cP0;clear hpre hn0 hpf cP0 hB0;by_cases h1:line=Num.iw
  ·subst h1;have e1:((B8 Num.iw).toList == [102,114,101,115,104])=true:=(str_eq rfl).1;have DT:Hid (Num.aS Num.bC g Num.iw=(⟨[],g.prog⟩,Num.xu)):=Num.zP _ g;generalize hS:B8 Num.iw=S at e1 Lu vk cP;clear hS;go_enter Tryz.func13,Tryz.ntmps13;go_wp2_with fail;refine (Lu.out _).mono ?_;rintro e w1 ⟨rfl,rfl⟩;go_wp2_with fail;go_ret;refine ⟨_,rfl,vk,Or.inr (Or.inl ⟨_,rfl,?_⟩)⟩;rw [DT.out];exact Jz w0 P g v B E _ (HX.out.later vk)
  have Qw:Hid (line≠Num.iw):=h1;have a1:((B8 line).toList == [102,114,101,115,104])=false:=(eY h1).1;clear h1;by_cases h2:line=Num.jL
  ·subst h2;have e1:((B8 Num.jL).toList == [116,97,107,101])=true:=(str_eq rfl).1;have DT:Hid (Num.aS Num.bC g Num.jL=jF g):=Ce g _;generalize hS:B8 Num.jL=S at a1 e1 Lu vk cP;clear hS;go_enter Tryz.func13,Tryz.ntmps13;go_wp2_with fail;refine (Lu.out _).mono ?_;rintro e w1 ⟨rfl,rfl⟩;go_wp2_with fail;go_ret;refine ⟨_,rfl,vk,Or.inr (Or.inr (Or.inl ⟨_,rfl,?_⟩))⟩;rw [DT.out];exact NH w0 P g v B E _ (HX.out.later vk) (by have:=HL.out;omega)
  have G6:Hid (line≠Num.jL):=h2;have a2:((B8 line).toList == [116,97,107,101])=false:=(eY h2).1;clear h2;by_cases h3:line=Num.eX
  ·subst h3;have e1:((B8 Num.eX).toList == [115,111,108,118,101])=true:=(str_eq rfl).1;have DT:Hid (Num.aS Num.bC g Num.eX=(g,match g.prog with|none=>Num.kJ|some p=>Num.jg p)):=Num.Jq g;go_enter Tryz.func13,Tryz.ntmps13;generalize hS:B8 Num.eX=S at a1 a2 e1 Lu vk cP ⊢;clear hS;go_wp2_with fail;refine (Lu.out _).mono ?_;rintro e w1 ⟨rfl,rfl⟩;go_wp2_with fail;refine (kK P (.func 36) #[.pointer (some ⟨P,0,none⟩)] #[] _).mono ?_;rintro e w2 ⟨b1,b2,rfl,c1,c2,hb2⟩;have hB2:Below w.heap.size w w2:=ai vk hb2;clear vk hb2 cP;go_wp2_with fail;go_ret;refine ⟨_,rfl,hB2,Or.inr (Or.inr (Or.inr (Or.inr ⟨_,_,rfl,?_⟩)))⟩;rw [DT.out];exact JB w0 P g v B E b1 b2 w2 (HX.out.later hB2) Num.jg c1 c2 (fun ca cl cc ra rl rc p _ hh hL=>Ju P ca cl cc ra rl rc p w2 hh hL)
  have Gb:Hid (line≠Num.eX):=h3;have a3:((B8 line).toList == [115,111,108,118,101])=false:=(eY h3).1;clear h3;by_cases h4:line=Num.gW
  ·subst h4;have e1:((B8 Num.gW).toList == [115,104,111,119])=true:=(str_eq rfl).1;have DT:Hid (Num.aS Num.bC g Num.gW=(g,match g.prog with|none=>Num.kJ|some p=>(fun p=>Num.aR (Num.jI p).length) p)):=Num.Nw g;go_enter Tryz.func13,Tryz.ntmps13;generalize hS:B8 Num.gW=S at a1 a2 a3 e1 Lu vk cP ⊢;clear hS;go_wp2_with fail;refine (Lu.out _).mono ?_;rintro e w1 ⟨rfl,rfl⟩;go_wp2_with fail;refine (kK P (.func 37) #[.pointer (some ⟨P,0,none⟩)] #[] _).mono ?_;rintro e w2 ⟨b1,b2,rfl,c1,c2,hb2⟩;have hB2:Below w.heap.size w w2:=ai vk hb2;clear vk hb2 cP;go_wp2_with fail;go_ret;refine ⟨_,rfl,hB2,Or.inr (Or.inr (Or.inr (Or.inr ⟨_,_,rfl,?_⟩)))⟩;rw [DT.out];exact NK w0 P g v B E b1 b2 w2 (HX.out.later hB2) (fun p=>Num.aR (Num.jI p).length) c1 c2 (fun ca cl cc ra rl rc p _ hh hL=>NA P ca cl cc ra rl rc p w2 hh hL)
  have TY:Hid (line≠Num.gW):=h4;have a4:((B8 line).toList == [115,104,111,119])=false:=(eY h4).1;clear h4;have zS:Hid (∀w',Laid w'->Calls Tryz.prog 12 #[.string (B8 line),.string (B8 [32])] w' fun e w''=>e=.returned (.tuple #[.string (B8 (Lib.cut line [32]).1),.string (B8 (Lib.cut line [32]).2.1),.bool (Lib.cut line [32]).2.2])/\Below w'.heap.size w' w''):=fun w' h=>tO line [32] (by have:=HL.out;omega) w' h;have hwl:=(Num.tq line).2.2;have R6:Hid ((B8 line).extract (Lib.cut line [32]).1.length (B8 line).size=B8 (line.drop (Lib.cut line [32]).1.length)):=gI line _;have R5:Hid (∀w',Laid w'->Calls Tryz.prog 39 #[.string (B8 (line.drop (Lib.cut line [32]).1.length))] w' fun e w''=>∃a n c,e=.returned (.tuple #[.slice a n c,.bool (Num.bu (line.drop (Lib.cut line [32]).1.length)).isSome])/\Ints w'' a n (((Num.bu (line.drop (Lib.cut line [32]).1.length)).getD []).take 5)/\n<=5/\Below w'.heap.size w' w''/\(n=0\/∃g,a=some ⟨g,0,none⟩/\w'.heap.size<=g)):=fun w' h=>kN _ (by rw [List.length_drop];have:=HL.out;omega) w' h;have hle:((Lib.cut line [32]).1.length:Int)<=((B8 line).size:Int):=by rw [aQ];omega
  have hbig:((B8 line).size:Int)<=100000000:=by rw [aQ];have:=HL.out.1;omega
  have hwz:=aQ (Lib.cut line [32]).1;go_enter Tryz.func13,Tryz.ntmps13;generalize hS:B8 line=S at a1 a2 a3 a4 Lu vk cP zS R6 hle hbig ⊢;clear hS hwl;go_wp2_with fail;refine (Lu.out _).mono ?_;rintro e w1 ⟨rfl,rfl⟩;go_wp2_with fail;refine (zS.out _ (Zr.out.later vk)).mono ?_;rintro e w2 ⟨rfl,hb2⟩;have hbw2:Below w.heap.size w w2:=ai vk hb2;have cP2:=carry hb2 cP;clear vk cP hb2 zS Lu a1 a2 a3 a4;generalize (Lib.cut line [32]).2.1=x1;generalize (Lib.cut line [32]).2.2=x2;by_cases hw:(Lib.cut line [32]).1=Num.lookW
  ·have DT:Hid (∀l,Num.bu (line.drop (Lib.cut line [32]).1.length)=some l->Num.aS Num.bC g line=(g,match g.prog with|none=>Num.kJ|some p=>Num.jD p l)):=by
    intro l hl;have:=Num.wh g line Vy.out Qw.out G6.out (by rw [hw];exact Or.inl rfl) l hl;rw [hw] at this;rw [this];cases g.prog with
    | none=>rfl
    | some p=>exact congrArg (Prod.mk g) (Num.Ny p l)
   have RA:Hid ((Lib.cut line [32]).1=Num.lookW):=hw;rw [hw] at R6 R5 hwz hle ⊢;clear hw;go_wp2_with fail;refine (Us P w2).mono ?_;rintro e w3 ⟨rfl,rfl⟩;have heq:∀W:World,(binOp .eql 95 (.func (.func 79) #[.pointer (some ⟨P,0,none⟩)] #[]) .nilFunc).run Tryz.prog W=.ok (.bool false) W:=fun W=>JC W _ _ _;have hst:=uS w3 .nilFunc (.func (.func 79) #[.pointer (some ⟨P,0,none⟩)] #[]) 95 rfl;have k10:=cB (w:=w3) rfl (.func (.func 79) #[.pointer (some ⟨P,0,none⟩)] #[]) 95;have hb3:Below w.heap.size w (w3.alloc (.cells #[.func (.func 79) #[.pointer (some ⟨P,0,none⟩)] #[]] 95)):=ai hbw2 (af _ _);have Zt:=carry (af w3 (.cells #[.func (.func 79) #[.pointer (some ⟨P,0,none⟩)] #[]] 95)) cP2;go_wp2_with fail;clear hst;generalize w3.alloc (.cells #[.func (.func 79) #[.pointer (some ⟨P,0,none⟩)] #[]] 95)=V3 at *;generalize w3.heap.size=b10 at *;rw [R6.out];refine (R5.out V3 (Zr.out.later hb3)).mono ?_;rintro e w4 ⟨na,nl,nc,rfl,hi,CF,hb4,_⟩;cases hrd:Num.bu (line.drop (Num.lookW).length) with
   | none =>have hl:Num.aS Num.bC g line=(g,[63]):=Num.nS Num.bC g line Vy.out Qw.out G6.out Gb.out TY.out (Or.inl (by rw [RA.out];exact hrd));have hb5:=af w4 (.cells #[.slice na nl nc] 25);have xx:=carry hb5 (carry hb4 k10);have hB:Below w.heap.size w (w4.alloc (.cells #[.slice na nl nc] 25)):=ai (ai hb3 hb4) hb5;clear hrd hi;simp only [Option.isSome_none];go_wp2_with fail;go_ret;exact ⟨_,rfl,hB,rq w0 P g v B E line _ (HX.out.later hB) hl⟩
   | some l =>have hl:=DT.out l (by rw [RA.out];exact hrd);rw [hrd] at hi;have hb5:=af w4 (.cells #[.slice na nl nc] 25);have xx:=carry hb5 (carry hb4 k10);have k11:=cB (w:=w4) rfl (.slice na nl nc) 25;have Zu:=carry hb5 (carry hb4 Zt);have VZ:Hid (Ints (w4.alloc (.cells #[.slice na nl nc] 25)) na nl (l.take 5)):=hi.below hb5 (Nat.le_refl _);have hB:Below w.heap.size w (w4.alloc (.cells #[.slice na nl nc] 25)):=ai (ai hb3 hb4) hb5;clear hrd hi;simp only [Option.isSome_some];go_wp2_with fail;generalize w4.alloc (.cells #[.slice na nl nc] 25)=V5 at *;generalize w4.heap.size=b11 at *;refine (kK P (.func 41) #[] #[.pointer (some ⟨b10,0,none⟩),.pointer (some ⟨b11,0,none⟩)] V5).mono ?_;rintro e w6 ⟨b1,b2,rfl,c1,c2,hb6⟩;have j10:=carry hb6 xx;have j11:=carry hb6 k11;have Zv:Hid (Ints w6 na nl (l.take 5)):=VZ.out.below hb6 (Nat.le_refl _);have CV:Below w.heap.size w w6:=ai hB hb6;clear xx k11 Zu hb5 hb6;go_wp2_with fail;go_ret;refine ⟨_,rfl,CV,Or.inr (Or.inr (Or.inr (Or.inr ⟨_,_,rfl,?_⟩)))⟩;rw [hl];show Calls _ _ _ _ _;refine wu w0 P g v B E b1 b2 b10 b11 w6 (HX.out.later CV) (fun p=>Num.jD p l) c1 c2 ?_;intro ca cl cc ra rl rc p _ hh hL;refine (NI P ca cl cc ra rl rc p w6 hh hL na nl nc (l.take 5) Zv.out CF b10 b11 j10 j11).mono ?_;rintro e w7 ⟨rfl,jJ⟩;exact ⟨by rw [Num.Jo p l hh.may],jJ⟩
  have HW1:Hid ((Lib.cut line [32]).1≠Num.lookW):=hw;clear hw;by_cases hw:(Lib.cut line [32]).1=Num.fZ
  ·have DT:Hid (∀l,Num.bu (line.drop (Lib.cut line [32]).1.length)=some l->Num.aS Num.bC g line=(g,match g.prog with|none=>Num.kJ|some p=>Num.jm p l)):=by
    intro l hl;have:=Num.wh g line Vy.out Qw.out G6.out (by rw [hw];exact Or.inr (Or.inl rfl)) l hl;rw [hw] at this;rw [this];cases g.prog with
    | none=>rfl
    | some p=>exact congrArg (Prod.mk g) (Num.Nz p l)
   have RA:Hid ((Lib.cut line [32]).1=Num.fZ):=hw;rw [hw] at R6 R5 hwz hle ⊢;clear hw;go_wp2_with fail;refine (Ut P w2).mono ?_;rintro e w3 ⟨rfl,rfl⟩;have heq:∀W:World,(binOp .eql 95 (.func (.func 80) #[.pointer (some ⟨P,0,none⟩)] #[]) .nilFunc).run Tryz.prog W=.ok (.bool false) W:=fun W=>JC W _ _ _;have hst:=uS w3 .nilFunc (.func (.func 80) #[.pointer (some ⟨P,0,none⟩)] #[]) 95 rfl;have k10:=cB (w:=w3) rfl (.func (.func 80) #[.pointer (some ⟨P,0,none⟩)] #[]) 95;have hb3:Below w.heap.size w (w3.alloc (.cells #[.func (.func 80) #[.pointer (some ⟨P,0,none⟩)] #[]] 95)):=ai hbw2 (af _ _);have Zt:=carry (af w3 (.cells #[.func (.func 80) #[.pointer (some ⟨P,0,none⟩)] #[]] 95)) cP2;go_wp2_with fail;clear hst;generalize w3.alloc (.cells #[.func (.func 80) #[.pointer (some ⟨P,0,none⟩)] #[]] 95)=V3 at *;generalize w3.heap.size=b10 at *;rw [R6.out];refine (R5.out V3 (Zr.out.later hb3)).mono ?_;rintro e w4 ⟨na,nl,nc,rfl,hi,CF,hb4,_⟩;cases hrd:Num.bu (line.drop (Num.fZ).length) with
   | none =>have hl:Num.aS Num.bC g line=(g,[63]):=Num.nS Num.bC g line Vy.out Qw.out G6.out Gb.out TY.out (Or.inl (by rw [RA.out];exact hrd));have hb5:=af w4 (.cells #[.slice na nl nc] 25);have xx:=carry hb5 (carry hb4 k10);have hB:Below w.heap.size w (w4.alloc (.cells #[.slice na nl nc] 25)):=ai (ai hb3 hb4) hb5;clear hrd hi;simp only [Option.isSome_none];go_wp2_with fail;go_ret;exact ⟨_,rfl,hB,rq w0 P g v B E line _ (HX.out.later hB) hl⟩
   | some l =>have hl:=DT.out l (by rw [RA.out];exact hrd);rw [hrd] at hi;have hb5:=af w4 (.cells #[.slice na nl nc] 25);have xx:=carry hb5 (carry hb4 k10);have k11:=cB (w:=w4) rfl (.slice na nl nc) 25;have Zu:=carry hb5 (carry hb4 Zt);have VZ:Hid (Ints (w4.alloc (.cells #[.slice na nl nc] 25)) na nl (l.take 5)):=hi.below hb5 (Nat.le_refl _);have hB:Below w.heap.size w (w4.alloc (.cells #[.slice na nl nc] 25)):=ai (ai hb3 hb4) hb5;clear hrd hi;simp only [Option.isSome_some];go_wp2_with fail;generalize w4.alloc (.cells #[.slice na nl nc] 25)=V5 at *;generalize w4.heap.size=b11 at *;refine (kK P (.func 41) #[] #[.pointer (some ⟨b10,0,none⟩),.pointer (some ⟨b11,0,none⟩)] V5).mono ?_;rintro e w6 ⟨b1,b2,rfl,c1,c2,hb6⟩;have j10:=carry hb6 xx;have j11:=carry hb6 k11;have Zv:Hid (Ints w6 na nl (l.take 5)):=VZ.out.below hb6 (Nat.le_refl _);have CV:Below w.heap.size w w6:=ai hB hb6;clear xx k11 Zu hb5 hb6;go_wp2_with fail;go_ret;refine ⟨_,rfl,CV,Or.inr (Or.inr (Or.inr (Or.inr ⟨_,_,rfl,?_⟩)))⟩;rw [hl];show Calls _ _ _ _ _;refine wu w0 P g v B E b1 b2 b10 b11 w6 (HX.out.later CV) (fun p=>Num.jm p l) c1 c2 ?_;intro ca cl cc ra rl rc p _ hh hL;refine (NJ P ca cl cc ra rl rc p w6 hh hL na nl nc (l.take 5) Zv.out CF b10 b11 j10 j11).mono ?_;rintro e w7 ⟨rfl,jJ⟩;exact ⟨by rw [Num.Jp p l hh.may],jJ⟩
  have HW2:Hid ((Lib.cut line [32]).1≠Num.fZ):=hw;clear hw;by_cases hw:(Lib.cut line [32]).1=Num.gH
  ·have DT:Hid (∀l,Num.bu (line.drop (Lib.cut line [32]).1.length)=some l->Num.aS Num.bC g line=(g,match g.prog with|none=>Num.kJ|some p=>Num.eH p l)):=by
    intro l hl;have:=Num.wh g line Vy.out Qw.out G6.out (by rw [hw];exact Or.inr (Or.inr rfl)) l hl;rw [hw] at this;rw [this];cases g.prog with
    | none=>rfl
    | some p=>exact congrArg (Prod.mk g) (Num.Jr p l)
   have RA:Hid ((Lib.cut line [32]).1=Num.gH):=hw;rw [hw] at R6 R5 hwz hle ⊢;clear hw;go_wp2_with fail;refine (Rt P w2).mono ?_;rintro e w3 ⟨rfl,rfl⟩;have heq:∀W:World,(binOp .eql 95 (.func (.func 81) #[.pointer (some ⟨P,0,none⟩)] #[]) .nilFunc).run Tryz.prog W=.ok (.bool false) W:=fun W=>JC W _ _ _;have hst:=uS w3 .nilFunc (.func (.func 81) #[.pointer (some ⟨P,0,none⟩)] #[]) 95 rfl;have k10:=cB (w:=w3) rfl (.func (.func 81) #[.pointer (some ⟨P,0,none⟩)] #[]) 95;have hb3:Below w.heap.size w (w3.alloc (.cells #[.func (.func 81) #[.pointer (some ⟨P,0,none⟩)] #[]] 95)):=ai hbw2 (af _ _);have Zt:=carry (af w3 (.cells #[.func (.func 81) #[.pointer (some ⟨P,0,none⟩)] #[]] 95)) cP2;go_wp2_with fail;clear hst;generalize w3.alloc (.cells #[.func (.func 81) #[.pointer (some ⟨P,0,none⟩)] #[]] 95)=V3 at *;generalize w3.heap.size=b10 at *;rw [R6.out];refine (R5.out V3 (Zr.out.later hb3)).mono ?_;rintro e w4 ⟨na,nl,nc,rfl,hi,CF,hb4,_⟩;cases hrd:Num.bu (line.drop (Num.gH).length) with
   | none =>have hl:Num.aS Num.bC g line=(g,[63]):=Num.nS Num.bC g line Vy.out Qw.out G6.out Gb.out TY.out (Or.inl (by rw [RA.out];exact hrd));have hb5:=af w4 (.cells #[.slice na nl nc] 25);have xx:=carry hb5 (carry hb4 k10);have hB:Below w.heap.size w (w4.alloc (.cells #[.slice na nl nc] 25)):=ai (ai hb3 hb4) hb5;clear hrd hi;simp only [Option.isSome_none];go_wp2_with fail;go_ret;exact ⟨_,rfl,hB,rq w0 P g v B E line _ (HX.out.later hB) hl⟩
   | some l =>have hl:=DT.out l (by rw [RA.out];exact hrd);rw [hrd] at hi;have hb5:=af w4 (.cells #[.slice na nl nc] 25);have xx:=carry hb5 (carry hb4 k10);have k11:=cB (w:=w4) rfl (.slice na nl nc) 25;have Zu:=carry hb5 (carry hb4 Zt);have VZ:Hid (Ints (w4.alloc (.cells #[.slice na nl nc] 25)) na nl (l.take 5)):=hi.below hb5 (Nat.le_refl _);have hB:Below w.heap.size w (w4.alloc (.cells #[.slice na nl nc] 25)):=ai (ai hb3 hb4) hb5;clear hrd hi;simp only [Option.isSome_some];go_wp2_with fail;generalize w4.alloc (.cells #[.slice na nl nc] 25)=V5 at *;generalize w4.heap.size=b11 at *;refine (kK P (.func 41) #[] #[.pointer (some ⟨b10,0,none⟩),.pointer (some ⟨b11,0,none⟩)] V5).mono ?_;rintro e w6 ⟨b1,b2,rfl,c1,c2,hb6⟩;have j10:=carry hb6 xx;have j11:=carry hb6 k11;have Zv:Hid (Ints w6 na nl (l.take 5)):=VZ.out.below hb6 (Nat.le_refl _);have CV:Below w.heap.size w w6:=ai hB hb6;clear xx k11 Zu hb5 hb6;go_wp2_with fail;go_ret;refine ⟨_,rfl,CV,Or.inr (Or.inr (Or.inr (Or.inr ⟨_,_,rfl,?_⟩)))⟩;rw [hl];show Calls _ _ _ _ _;refine wu w0 P g v B E b1 b2 b10 b11 w6 (HX.out.later CV) (fun p=>Num.eH p l) c1 c2 ?_;intro ca cl cc ra rl rc p _ hh hL;refine (JA P ca cl cc ra rl rc p w6 hh hL na nl nc (l.take 5) Zv.out CF b10 b11 j10 j11).mono ?_;rintro e w7 ⟨rfl,jJ⟩;exact ⟨by rw [Num.GG p l],jJ⟩
  have HW3:Hid ((Lib.cut line [32]).1≠Num.gH):=hw;clear hw;have hl:Num.aS Num.bC g line=(g,[63]):=Num.nS Num.bC g line Vy.out Qw.out G6.out Gb.out TY.out (Or.inr ⟨HW1.out,HW2.out,HW3.out⟩);have HOF:Hid (∀w':World,Calls Tryz.prog 38 #[.pointer (some ⟨P,0,none⟩),.string (B8 (Lib.cut line [32]).1)] w' fun e w''=>e=.returned .nilFunc/\w''=w'):=fun w'=>Uu P _ HW1.out HW2.out HW3.out w';have DT:Hid (Num.aS Num.bC g line=(g,[63])):=hl;clear hl HW1 HW2 HW3 Vy Qw G6 Gb TY;generalize (Lib.cut line [32]).1=word at *;go_wp2_with fail;refine (HOF.out w2).mono ?_;rintro e w3 ⟨rfl,rfl⟩;have heq:∀W:World,(binOp .eql 95 .nilFunc .nilFunc).run Tryz.prog W=.ok (.bool true) W:=Uv;have hst:=uS w3 .nilFunc .nilFunc 95 rfl;have k10:=cB (w:=w3) rfl .nilFunc 95;have hb3:Below w.heap.size w (w3.alloc (.cells #[.nilFunc] 95)):=ai hbw2 (af _ _);go_wp2_with fail;clear hst;generalize w3.alloc (.cells #[.nilFunc] 95)=V3 at *;generalize w3.heap.size=b10 at *;rw [R6.out];refine (R5.out V3 (Zr.out.later hb3)).mono ?_;rintro e w4 ⟨na,nl,nc,rfl,_,CF,hb4,_⟩;generalize (Num.bu (line.drop word.length)).isSome=fine;have hb5:=af w4 (.cells #[.slice na nl nc] 25);have xx:=carry hb5 (carry hb4 k10);have hB:Below w.heap.size w (w4.alloc (.cells #[.slice na nl nc] 25)):=ai (ai hb3 hb4) hb5;clear k10 hb5;go_wp2_with fail;go_ret;exact ⟨_,rfl,hB,rq w0 P g v B E line _ (HX.out.later hB) DT.out⟩
open Go.RowKit
namespace Num
theorem D7 {p:Lp} {at':List Int} {l:List (List Int)} {k:Int} (au:p.may=true) (h:oz p at' l k) : l.length<=4096:=by
 obtain ⟨K,a1,a2,a3,_,_⟩:=h;have hne:l≠[]:=by intro e;rw [e] at a1;simp at a1
 have e:l.dropLast ++ [l.getLast hne]=l:=List.dropLast_concat_getLast hne;have hp:Path p at' l.dropLast (l.getLast hne):=by unfold Path;rw [e];exact ⟨a2,fun q hq=>a3 q (by rw [List.length_dropLast] at hq;omega)⟩
 have:=sD p.rows.length p.costs.length au rfl rfl hp;rw [List.length_dropLast] at this;omega
theorem kM (w:List UInt8) (n:Int) (hw:w.length<=10) (h0 : -9223372036854775808<=n) (h1:n<=9223372036854775807) : (dC w n).length<=31:=by have:=ed n h0 h1;unfold dC;rw [List.length_append,List.length_cons];omega
theorem Uw (p:Lp) (a:pK) (h:holds p a=true) : (zK a).length<=100:=by
 unfold zK;split
 ·rename_i h1;obtain ⟨x,y⟩:=qM p a h h1;have:=gL a.wn a.wd x y;rw [List.length_append,List.length_cons];have:qJ.length=4:=rfl;omega
 ·split<;>decide
theorem Ru (p:Lp) (hm:p.may=true) (word:List UInt8) (l:List Int) : (iU p word l).length<=100000:=by
 unfold iU;split
 ·unfold jg;split
  ·rename_i h;have:=Uw p _ h.choose_spec;omega
  ·decide
 ·split
  ·have h1:=um p hm p.rows.length (Nat.le_refl _);rw [uk] at h1;have h2:=(p.aj hm).2.2.1;have:=ed ((jI p).length:Int) (by omega) (by omega);omega
  ·split
   ·have Zo:=uR p l;unfold jD;split
    ·have:=kM iK (look p l).err (by decide) (by omega) (by omega);omega
    ·obtain ⟨x,y⟩:=zN (dotN p.costs (look p l).x p.costs.length) (look p l).xd;have:=gL _ _ x y;rw [List.length_append,List.length_cons];have:(if bO (look p l).x=true then Nu else BU).length<=4:=by split<;>decide
     omega
   ·split
    ·unfold jm;split
     ·rename_i h;have hs:=h.choose_spec;have her:=tu hs;unfold uO;split
      ·have:=kM iK h.choose.2.2 (by decide) (by omega) (by omega);omega
      ·rename_i h0;have hl:h.choose.1.length<=4096:=by
        rcases hs with ⟨x,_⟩|⟨_,_,x⟩
        ·exact absurd x h0
        ·exact D7 hm x
       have:=kM (if h.choose.2.1=1 then qJ else mr) (h.choose.1.length:Int) (by split<;>decide) (by omega) (by omega);omega
     ·simp
    ·unfold eH;split
     ·have:=kM iK 1 (by decide) (by omega) (by omega);omega
     ·rename_i ny;split
      ·have:=kM iK 4 (by decide) (by omega) (by omega);omega
      ·have Xg:(aD p l).may=true:=by simpa using ny
       have hbl:l.length=p.costs.length:=by have h1:=(p.aj hm).2.2;have h2:=((aD p l).aj Xg).2.2;have h0:0 < p.rows.length:=h1.1.1;have r1:=List.all_eq_true.1 h1.2 p.rows[0] (List.getElem_mem _);have r2:=List.all_eq_true.1 h2.2 p.rows[0] (List.getElem_mem _);unfold iL at r1 r2;simp only [Bool.and_eq_true,beq_iff_eq] at r1 r2;exact r2.1.1.symm.trans r1.1.1
       have hl:=sW p l p.rows.length p.costs.length ⟨rfl,rfl,hbl,hm,Xg⟩;have h2:=Ls (eG p l) (fun y hy=>by obtain ⟨⟨a1,a2⟩,a3,a4⟩:=oK p l hm Xg y hy;exact ⟨gL _ _ a1 a2,gL _ _ a3 a4⟩);have h3:(eG p l).length<=1000:=hl;have h1:=ed ((eG p l).length:Int) (by omega) (by omega);rw [List.length_append];omega
theorem wy (g:Pl) (s:List UInt8) (h:g.text.length+s.length+1<=100000000) (hp:∀q,g.prog=some q->q.may=true) :
  (aS bC g s).2.length<=100000/\(aS bC g s).1.text.length<=g.text.length+s.length/\∀q,(aS bC g s).1.prog=some q->q.may=true:=by
 unfold aS;split
 ·rename_i h0;have h2:2<=s.length:=by have:=congrArg List.length h0;rw [List.length_take] at this;simp at this;omega
  have hl:(g.text ++ s.drop 2 ++ [10]).length<=g.text.length+s.length:=by rw [List.length_append,List.length_append,List.length_drop,List.length_singleton];omega
  refine ⟨?_,hl,hp⟩;have:=kM xu ((g.text ++ s.drop 2 ++ [10]).length:Int) (by decide) (by omega) (by omega);dsimp only;omega
 ·split
  ·exact ⟨by show xu.length<=100000;decide,by simp,hp⟩
  ·split
   ·split
    ·rename_i k hr;have:=D6 g.text k hr;have:=kM iK (k:Int) (by decide) (by omega) (by omega);exact ⟨by dsimp only;omega,by dsimp only;omega,hp⟩
    ·rename_i p hr;have hm:=(rV g.text p hr).1;have:=(p.aj hm).2.2.1;have:=kM xu (p.rows.length:Int) (by decide) (by omega) (by omega);exact ⟨by dsimp only;omega,by dsimp only;omega,fun q hq=>by cases hq;exact hm⟩
   ·split
    ·exact ⟨by simp,by dsimp only;omega,hp⟩
    ·split
     ·exact ⟨by simp,by dsimp only;omega,hp⟩
     ·split
      ·exact ⟨by show kJ.length<=100000;decide,by dsimp only;omega,hp⟩
      ·rename_i p RB;exact ⟨Ru p (hp p RB) _ _,by dsimp only;omega,hp⟩
theorem Cf:dR []=[]:=by decide
theorem JE (s:List UInt8) (h:s≠[]) : dR s=(Lib.cut s [10]).1 :: dR (Lib.cut s [10]).2.1/\(Lib.cut s [10]).1.length+(Lib.cut s [10]).2.1.length<=s.length/\(Lib.cut s [10]).2.1.length < s.length:=by
 rcases ib 10 s with hn|⟨a,b,rfl,hn⟩
 ·rw [pR 10 s hn];refine ⟨?_,by simp,by simpa using List.length_pos_iff.2 h⟩;rw [Cf];unfold dR;rw [gB 10 s hn,if_neg (by simpa using h)]
 ·rw [og 10 a b hn];refine ⟨?_,by simp,by simp;omega⟩;unfold dR;rw [gD 10 a b hn];cases hs:splitW 10 b with
  | nil=>exact absurd hs (jw 10 b)
  | cons x r =>
   rw [List.getLast?_cons_cons];split
   ·rfl
   ·rfl
end Num
open Go.RowKit
structure Mid (w0:World) (P A:Nat) (g:Num.Pl) (out:List UInt8) (v:Value) (B E:Nat) (pa va:Value) (w:World) : Prop where
 ps:Ag w0 P g v B E w
 an:nX A 0 #[pa,va] 46 va out w
 Vz:out=[]->va=.slice none 0 0
 neA:A≠P
 loA:w0.heap.size<=A
 Ux:∀k,va.ownBlock=some k->w0.heap.size<=k
 rows:∀k,va.ownBlock=some k->v.ownBlock≠some k/\k≠P
 Uy:v.ownBlock≠some A
 away:∀k,B<=k->k < E->k≠A/\va.ownBlock≠some k
theorem Lv:NG 46 2 0:=⟨by decide,by kernel_rfl⟩
theorem Ag.bl {w0:World} {P:Nat} {g:Num.Pl} {v:Value} {B E:Nat} {w:World} (h:Ag w0 P g v B E w) : P < w.heap.size/\(∀k,v.ownBlock=some k->k < w.heap.size)/\E<=w.heap.size:=by obtain ⟨_,_,_,_,_,_,_,h⟩:=h;exact ⟨h.bl.lt,fun k hk=>(h.bl.own.lt k hk).2,h.hi⟩
theorem Mid.told {w0:World} {P A:Nat} {g:Num.Pl} {out:List UInt8} {v:Value} {B E:Nat} {pa va:Value} {w w':World} (h:Mid w0 P A g out v B E pa va w) {g':Num.Pl} {v':Value} {B' E':Nat} (hp:Ag w0 P g' v' B' E' w') (hm:Mv P v v' w w') (hr:(B'=B/\E'=E)\/w.heap.size<=B') : Mid w0 P A g' out v' B' E' pa va w':=by
 have hlt:=h.an.lt;have hown:∀k,va.ownBlock=some k->k < w.heap.size:=fun k hk=>(h.an.own.lt k hk).2;refine ⟨hp,h.an.kept hm.kp (fun x=>?_) (fun k hk x=>?_),h.Vz,h.neA,h.loA,h.Ux,fun k hk=>⟨fun e=>?_,(h.rows k hk).2⟩,fun e=>?_,fun k hk hk'=>?_⟩
 ·rcases x with x|x
  ·exact h.neA x
  ·exact h.Uy x
 ·rcases x with x|x
  ·exact (h.rows k hk).2 x
  ·exact (h.rows k hk).1 x
 ·rcases hm.row k e with x|x
  ·exact (h.rows k hk).1 x
  ·have:=hown k hk;omega
 ·rcases hm.row A e with x|x
  ·exact h.Uy x
  ·omega
 ·rcases hr with ⟨rfl,rfl⟩|hr
  ·exact h.away k hk hk'
  ·exact ⟨by omega,fun e=>by have:=hown k e;omega⟩
theorem Mid.wrote {w0:World} {P A:Nat} {g:Num.Pl} {out:List UInt8} {v:Value} {B E:Nat} {pa va:Value} {w w':World} (h:Mid w0 P A g out v B E pa va w) {pa' Bb:Value} {out':List UInt8} (hb:nX A 0 #[pa',Bb] 46 Bb out' w') (hat:At' va Bb w) (hk:Kp (fun k=>k=A\/va.ownBlock=some k) w w') (hne:out'=[]->Bb=.slice none 0 0) : Mid w0 P A g out' v B E pa' Bb w':=by
 obtain ⟨hP,hV,hE⟩:=h.ps.bl;obtain ⟨ca,cl,cc,ra,rl,rc,pv,hps⟩:=h.ps;have hnP:¬ (P=A\/va.ownBlock=some P):=by
  rintro (x|x)
  ·exact h.neA x.symm
  ·exact (h.rows P x).2 rfl
 have al7:PS w0 P g ca cl cc ra rl rc pv v B E w' :=
  {laid:=hps.laid
   base:=hk.base hps.base (fun k x=>by rcases x with x|x;(rw [x];exact h.loA);exact h.Ux k x)
   Uq:=hps.Uq
   Vw:=hps.Vw
   bl:=hps.bl.kept hk hnP (fun k hk' x=>by rcases x with x|x;(exact h.Uy (by rw [<-x];exact hk'));exact (h.rows k x).1 hk')
   bare:=hps.bare
   Ur:=hps.Ur
   mF:=fun q hq=>⟨(hps.mF q hq).1,(hps.mF q hq).2.same fun k k1 k2=>hk.block k (by omega) (fun x=>by rcases x with x|x;exact (h.away k k1 k2).1 x;exact (h.away k k1 k2).2 x)⟩
   hi:=Nat.le_trans hps.hi hk.size
   away:=hps.away }
 refine ⟨⟨ca,cl,cc,ra,rl,rc,pv,al7⟩,hb,hne,h.neA,h.loA,fun k x=>?_,fun k x=>?_,h.Uy,fun k k1 k2=>⟨(h.away k k1 k2).1,fun x=>?_⟩⟩
 ·rcases hat k x with y|y
  ·exact h.Ux k y
  ·exact Nat.le_trans hps.base.size y
 ·rcases hat k x with y|y
  ·exact h.rows k y
  ·exact ⟨fun e=>by have:=hV k e;omega,by omega⟩
 ·rcases hat k x with y|y
  ·exact (h.away k k1 k2).2 y
  ·omega
theorem Mid.later {w0:World} {P A:Nat} {g:Num.Pl} {out:List UInt8} {v:Value} {B E:Nat} {pa va:Value} {w w':World} (h:Mid w0 P A g out v B E pa va w) (hb:Below w.heap.size w w') : Mid w0 P A g out v B E pa va w' :=
 h.told (h.ps.later hb) (Mv.of hb) (Or.inl ⟨rfl,rfl⟩)
def GQ (w0:World) (P A:Nat) (g:Num.Pl) (out:List UInt8) (w:World) : Prop:=∃v B E pa va,Mid w0 P A g out v B E pa va w
theorem Mid.first (w0:World) (hL:Laid w0) : GQ w0 w0.heap.size (w0.heap.size+1) ⟨[],none⟩ [] ((w0.alloc (.cells #[.slice none 0 0,.slice none 0 0,.pointer none,.slice none 0 0] 48)).alloc (.cells #[.pointer none,.slice none 0 0] 46)):=by
 have hb:=ai (af w0 (.cells #[.slice none 0 0,.slice none 0 0,.pointer none,.slice none 0 0] 48)) (af _ (.cells #[.pointer none,.slice none 0 0] 46));refine ⟨.slice none 0 0,0,0,.pointer none,.slice none 0 0,⟨none,0,0,none,0,0,.pointer none,?_⟩,⟨fM (by simp) _,Or.inl rfl,rfl,World.ownsRowF_nil _ _ _ _⟩,fun _=>rfl,by omega,by omega,fun k h=>(by cases h),fun k h=>(by cases h),fun h=>(by cases h),fun k h1 h2=>(by omega)⟩;exact {
  laid:=hL
  base:=hb
  Uq:=Nat.le_refl _
  Vw:=fun k h=>by cases h
  bl:=⟨by rw [Lib.alloc_old _ _ _ (by simp)];exact fM rfl _,Or.inl rfl,rfl,World.ownsRowF_nil _ _ _ _⟩
  bare:=fun _=>rfl
  Ur:=fun _=>rfl
  mF:=fun q h=>by cases h
  hi:=Nat.zero_le _
  away:=fun k h1 h2=>by omega }
theorem GQ.laid {w0:World} {P A:Nat} {g:Num.Pl} {out:List UInt8} {w:World} (h:GQ w0 P A g out w) : Laid w/\Below w0.heap.size w0 w/\∀q,g.prog=some q->q.may=true:=by obtain ⟨v,B,E,pa,va,h⟩:=h;obtain ⟨ca,cl,cc,ra,rl,rc,pv,hps⟩:=h.ps;exact ⟨hps.iF,hps.base,fun q hq=>(hps.mF q hq).1⟩
theorem uT (s:List UInt8) (hs:s.length<=50000000) (w0:World) (hL:Laid w0) :
  Calls Tryz.prog 7 #[.string (B8 s)] w0 fun e w'=>e=.returned (.string (B8 (Num.jM Num.bC s)))/\Below w0.heap.size w0 w':=by
 have HM0:Hid (GQ w0 w0.heap.size (w0.heap.size+1) ⟨[],none⟩ [] ((w0.alloc (.cells #[.slice none 0 0,.slice none 0 0,.pointer none,.slice none 0 0] 48)).alloc (.cells #[.pointer none,.slice none 0 0] 46))):=Mid.first w0 hL;clear hL;go_enter Tryz.func7,Tryz.ntmps7;go_wp2_with fail;generalize (w0.alloc (.cells #[.slice none 0 0,.slice none 0 0,.pointer none,.slice none 0 0] 48)).alloc (.cells #[.pointer none,.slice none 0 0] 46)=V at *;go_loopw [0,9] (fun sv i wr=>∃(rest:List UInt8) (k:Nat) (g:Num.Pl) (out:List UInt8),sv=.string (B8 rest)/\i=.int .i64 k/\k<=60/\g.text.length+rest.length<=s.length/\out.length<=100001*k/\Num.jM Num.bC s=out ++ Num.gX Num.bC g ((Num.dR rest).take (60 - k))/\GQ w0 w0.heap.size (w0.heap.size+1) g out wr) (fun _ i _=>60 - (intOf i).toNat)
 case atStart=>exact ⟨s,0,⟨[],none⟩,[],rfl,rfl,by omega,by simp,by simp,rfl,HM0.out⟩
 case round =>
  obtain ⟨rest,k,g,out,rfl,rfl,hk,hlen,hout,hpl,hmid⟩:=hrel;have Uz:Hid (GQ w0 w0.heap.size (w0.heap.size+1) g out wr):=hmid;have R7:Hid (Num.jM Num.bC s=out ++ Num.gX Num.bC g ((Num.dR rest).take (60 - k))):=hpl;have HLEN:Hid (g.text.length+rest.length<=s.length/\out.length<=100001*k):=⟨hlen,hout⟩;clear HM0 hmid hpl hlen hout;have UA:Hid (Num.gX Num.bC g ((Num.dR rest).take (60 - k))=[]->Calls Tryz.prog 16 #[.pointer (some ⟨w0.heap.size+1,0,none⟩)] wr fun e w'=>e=.returned (.string (B8 (Num.jM Num.bC s)))/\Below w0.heap.size w0 w'):=by intro h0;obtain ⟨v,B,E,pa,va,h⟩:=Uz.out;refine (wZ (w0.heap.size+1) 0 #[pa,va] _ va out wr h.an (by decide) h.Vz).mono ?_;rintro e w' ⟨rfl,_,k1⟩;refine ⟨?_,k1.base (GQ.laid ⟨v,B,E,pa,va,h⟩).2.1 (fun k hk=>h.Ux k hk)⟩;rw [R7.out,h0,List.append_nil];rfl
  by_cases Zw:k < 60
  ·by_cases hr0:rest=[]
   ·subst hr0;have hq:(B8 []).toList.isEmpty=true:=by rw [dX];rfl
    generalize hS:B8 []=S at hq;clear hS;have KE:Hid (Calls Tryz.prog 16 #[.pointer (some ⟨w0.heap.size+1,0,none⟩)] wr fun e w'=>e=.returned (.string (B8 (Num.jM Num.bC s)))/\Below w0.heap.size w0 w'):=UA.out (by rw [Num.Cf,List.take_nil];rfl);go_wp2_with fail;refine KE.out.mono ?_;rintro e w1 ⟨rfl,hb1⟩;go_wp2_with fail;go_ret;exact ⟨rfl,hb1⟩
   ·have hq:(B8 rest).toList.isEmpty=false:=by
     rw [dX];cases rest with
     | nil=>exact absurd rfl hr0
     | cons c t=>rfl
    obtain ⟨hl1,hl2,hl3⟩:=Num.JE rest hr0;have HST:Hid (Num.dR rest=(Lib.cut rest [10]).1 :: Num.dR (Lib.cut rest [10]).2.1/\(Lib.cut rest [10]).1.length+(Lib.cut rest [10]).2.1.length<=rest.length):=⟨hl1,hl2⟩;have zS:Hid (∀w',Laid w'->Calls Tryz.prog 12 #[.string (B8 rest),.string (B8 [10])] w' fun e w''=>e=.returned (.tuple #[.string (B8 (Lib.cut rest [10]).1),.string (B8 (Lib.cut rest [10]).2.1),.bool (Lib.cut rest [10]).2.2])/\Below w'.heap.size w' w''):=fun w' h=>tO rest [10] (by have:=HLEN.out;omega) w' h;generalize hS:B8 rest=S at hq zS;clear hS hl1 hl2 hl3 hr0 UA;generalize (Lib.cut rest [10]).1=line at *;generalize (Lib.cut rest [10]).2.1=rest' at *;generalize (Lib.cut rest [10]).2.2=more at *;go_wp2_with fail;refine (zS.out wr Uz.out.laid.1).mono ?_;rintro e w1 ⟨rfl,hb1⟩;obtain ⟨v,B,E,pa,va,hmid⟩:=Uz.out;have Xh:Hid (Mid w0 w0.heap.size (w0.heap.size+1) g out v B E pa va w1):=hmid.later hb1;have uX:Hid (g.text.length+line.length+1<=100000000):=by have:=HLEN.out;have:=HST.out;show _<=_;omega
    have ng:Hid ((Num.aS Num.bC g line).2.length<=100000/\(Num.aS Num.bC g line).1.text.length<=g.text.length+line.length/\∀q,(Num.aS Num.bC g line).1.prog=some q->q.may=true):=Num.wy g line uX.out Uz.out.laid.2.2;clear hb1 hmid zS;go_wp2_with fail;refine (AO w0 w0.heap.size g v B E line w1 Xh.out.ps uX.out).mono ?_;rintro e w2 ⟨F,rfl,hb2,Rv⟩;have al8:Hid (Mid w0 w0.heap.size (w0.heap.size+1) g out v B E pa va w2):=Xh.out.later hb2;clear hb2 Xh;have GY:Hid (Num.jM Num.bC s=out ++ (Num.aS Num.bC g line).2 ++ [10] ++ Num.gX Num.bC (Num.aS Num.bC g line).1 ((Num.dR rest').take (60 - (k+1)))):=by show _=_;rw [R7.out,HST.out.1,show 60 - k=(60 - (k+1))+1 by omega,List.take_succ_cons];show out ++ ((Num.aS Num.bC g line).2 ++ 10 :: Num.gX Num.bC (Num.aS Num.bC g line).1 _)=_;simp
    unfold JD at Rv;generalize (Num.aS Num.bC g line).1=g' at *;generalize (Num.aS Num.bC g line).2=t at *;have hts:=aQ t;rcases Rv with ⟨x,y,rfl,hC⟩|⟨x,rfl,hC⟩|⟨x,rfl,hC⟩|⟨rfl,hC⟩|⟨x,y,rfl,hC⟩
    all_goals
     go_wp2_with fail;refine (Hid.out hC).mono ?_;rintro e w3 ⟨rfl,v',B',E',hps,hmv,hrg⟩;have Zx:Hid (Mid w0 w0.heap.size (w0.heap.size+1) g' out v' B' E' pa va w3):=al8.out.told hps hmv hrg;clear hps hmv hrg;go_wp2_with fail;refine (zV (w0.heap.size+1) 0 #[pa,va] _ va out (B8 t) w3 Zx.out.an Lv (by rw [hts];have:=ng.out.1;have:=HLEN.out;omega)).mono ?_;rintro e w4 ⟨rfl,Zy,QX,Zz,hk4⟩;have WV:Hid (nX (w0.heap.size+1) 0 #[self (w0.heap.size+1) 0,Zy] 46 Zy (out ++ t) w4):=by rw [iX] at QX;exact QX
     have HV4:Hid (Mv (w0.heap.size+1) va Zy w3 w4):=⟨Zz,hk4⟩;clear QX Zz hk4;go_wp2_with fail;refine (Cc (w0.heap.size+1) 0 #[self (w0.heap.size+1) 0,Zy] _ Zy (out ++ t) 10 10 rfl w4 WV.out Lv (by rw [List.length_append];have:=ng.out.1;have:=HLEN.out;omega)).mono ?_;rintro e w5 ⟨rfl,va2,L9,yu,hk5⟩;have al9:Hid (GQ w0 w0.heap.size (w0.heap.size+1) g' (out ++ t ++ [10]) w5):=by have hm:=HV4.out.trans ⟨yu,hk5⟩;exact ⟨v',B',E',_,va2,Zx.out.wrote L9 hm.row hm.kp (fun h=>by simp at h)⟩
     have Xi:Hid ((out ++ t ++ [10]).length<=100001*(k+1)):=by show _<=_;rw [List.length_append,List.length_append,List.length_singleton];have:=ng.out.1;have:=HLEN.out;omega
     clear L9 yu hk5;go_wp2_with fail;go_roundw
     case rel=>exact ⟨rest',k+1,g',out ++ t ++ [10],rfl,by go_num,by omega,by have:=ng.out.2.1;have:=HLEN.out;have:=HST.out;omega,Xi.out,GY.out,al9.out⟩
     case measure=>simp [intOf];omega
  ·have hke:k=60:=by omega
   subst hke;have KE:Hid (Calls Tryz.prog 16 #[.pointer (some ⟨w0.heap.size+1,0,none⟩)] wr fun e w'=>e=.returned (.string (B8 (Num.jM Num.bC s)))/\Below w0.heap.size w0 w'):=UA.out rfl;clear UA;go_wp2_with fail;refine KE.out.mono ?_;rintro e w1 ⟨rfl,hb1⟩;go_wp2_with fail;go_ret;exact ⟨rfl,hb1⟩
end Go.Proofs.YtipcbhodlgoflabGreatDoor
