/- Package text's writing: Print. -/
import Derived.Test.YtipcbhodlgoflabGreatDoorTxE
import Derived.Test.YtipcbhodlgoflabGreatDoorSixA
import Derived.Test.YtipcbhodlgoflabGreatDoorTxAB
import Derived.Laws.IdiomStrings
set_option maxHeartbeats 3200000
set_option maxRecDepth 8000
namespace Go.Proofs.YtipcbhodlgoflabGreatDoor
open Go.RowKit
theorem Df (n:Int) (h : -999999<=n/\n<=999999) : (Num.aR n).length<=7:=by
 have:=Num.kv 5 n.natAbs (by omega);unfold Num.aR;split
 ·rw [List.length_cons];omega
 ·omega
theorem O1:∀(o:List Int),(∀n∈o,-999999<=n/\n<=999999)->(Num.gU o).length<=8*o.length:=by
 intro o
 induction o with
 | nil=>intro _;exact Nat.le_refl _
 | cons n o ih =>intro h;have h1:=ih (fun x hx=>h x (by simp [hx]));have h2:=Df n (h n (by simp));rw [Num.jS,List.length_cons,List.length_append,List.length_cons];omega
theorem O3:∀(o:List Int),(∀n∈o,-999999<=n/\n<=999999)->(Num.JX o).length<=8*o.length:=by
 intro o
 induction o with
 | nil=>intro _;exact Nat.le_refl _
 | cons n o ih =>intro h;have h1:=ih (fun x hx=>h x (by simp [hx]));have h2:=Df n (h n (by simp));show ((Num.aR n ++ [32]) ++ Num.JX o).length<=_;rw [List.length_append,List.length_append,List.length_cons (a:=n)];show (Num.aR n).length+1+_<=_;omega
def upTo (p:Num.Lp) (k:Nat) : List UInt8:=(Num.joinW 32 (Num.headW p.costs) ++ [10]) ++ ((p.rows.take k).map fun r=>Num.joinW 32 (Num.jQ r) ++ [10]).flatten
theorem Bh (p:Num.Lp) : upTo p 0=Num.joinW 32 (Num.headW p.costs) ++ [10]:=List.append_nil _
theorem uk (p:Num.Lp) : upTo p p.rows.length=Num.jI p:=by rw [upTo,List.take_length,Num.Hl]
theorem Bi (p:Num.Lp) (k:Nat) (h:k < p.rows.length) : upTo p (k+1)=upTo p k ++ (Num.joinW 32 (Num.jQ (p.rows[k]?.getD ([],0))) ++ [10]):=by unfold upTo;rw [List.take_succ_eq_append_getElem h,List.map_append,List.flatten_append,List.getElem?_eq_getElem h,<-List.append_assoc];simp
theorem Bj (p:Num.Lp) (h:p.may=true) : ∀n∈p.costs,-400<=n/\n<=400:=(Num.mM 400 _).1 (p.aj h).2.1
theorem Kg (p:Num.Lp) (h:p.may=true) : ∀r∈p.rows,r.1.length=p.costs.length/\(∀n∈r.1,-12<=n/\n<=12)/\-12<=r.2/\r.2<=12:=by intro r hr;have:=List.all_eq_true.1 (p.aj h).2.2.2 r hr;unfold Num.iL at this;simp only [Bool.and_eq_true,beq_iff_eq] at this;exact ⟨this.1.1,(Num.mM 12 _).1 this.1.2,(Num.mM 12 _).1 this.2 r.2 (by simp)⟩
theorem EO (p:Num.Lp) (h:p.may=true) : (Num.joinW 32 (Num.headW p.costs)).length<=100:=by have h1:=O1 p.costs (fun n hn=>by have:=Bj p h n hn;omega);have h2:=(p.aj h).1;rw [Num.LU,List.length_append];have:Num.fB.length=4:=rfl;omega
theorem Kh (p:Num.Lp) (h:p.may=true) (r:List Int×Int) (hr:r∈p.rows) : (Num.joinW 32 (Num.jQ r)).length<=100:=by obtain ⟨e,h1,h2⟩:=Kg p h r hr;have h3:=O3 r.1 (fun n hn=>by have:=h1 n hn;omega);have h4:=Df r.2 (by omega);have h5:=(p.aj h).1;rw [show r=(r.1,r.2) from rfl,Num.Oz,List.length_append,List.length_append,List.length_cons];have:Num.Eo.length=2:=rfl;show _<=100;omega
theorem um (p:Num.Lp) (h:p.may=true) : ∀k,k<=p.rows.length->(upTo p k).length<=101+101*k:=by
 intro k
 induction k with
 | zero =>intro _;rw [Bh,List.length_append,List.length_singleton];have:=EO p h;omega
 | succ k ih =>intro hk;have h1:=ih (by omega);have h2:=Kh p h (p.rows[k]?.getD ([],0)) (by rw [List.getElem?_eq_getElem (by omega)];exact List.getElem_mem _);rw [Bi p k (by omega),List.length_append,List.length_append,List.length_singleton];omega
theorem EP {w:World} {k:Nat} (hk:k=w.heap.size) (x:List UInt8) {B:Nat} (hB:B<=k) : (w.alloc (.cells #[.string (B8 x)] 9)).ownsRow B 9 1 (.slice (some ⟨k,0,none⟩) 1 1) 1 (strs [x]) :=
 ⟨rfl,Or.inr ⟨k,1,#[.string (B8 x)],rfl,hB,fM hk _,Nat.le_refl _,by unfold maxLen;omega,rfl,rfl⟩⟩
def wG (b:Nat) (V:World) (rb:Nat) (cs:Array Value) (w:World) : Prop:=Below b V w/\b<=V.heap.size/\w.heap[rb]? = some (.cells cs 101 (0,0))
theorem wG.drew {b rb:Nat} {V w:World} {cs:Array Value} (h:wG b V rb cs w) : wG b V rb cs w.drew:=⟨h.1.drew,h.2.1,h.2.2⟩
theorem wG.alloc {b rb:Nat} {V w:World} {cs:Array Value} (h:wG b V rb cs w) (o:Obj) : wG b V rb cs (w.alloc o) :=
 ⟨h.1.alloc (Nat.le_trans h.2.1 h.1.size) o,h.2.1,by rw [Lib.alloc_old w o rb (Array.getElem?_eq_some_iff.1 h.2.2).1];exact h.2.2⟩
theorem wG.below {b rb:Nat} {V w w':World} {cs:Array Value} (h:wG b V rb cs w) (hb:Below w.heap.size w w') : wG b V rb cs w' :=
 ⟨h.1.trans (hb.mono (Nat.le_trans h.2.1 h.1.size)),h.2.1,by rw [hb.block rb (Array.getElem?_eq_some_iff.1 h.2.2).1];exact h.2.2⟩
theorem wG.cell {b rb:Nat} {V w:World} {u v:Value} (h:wG b V rb #[u,v] w) : w.cell? ⟨rb,1,none⟩=some v:=by rw [Lib.cell_of_heap h.2.2];rfl
theorem O4 {w:World} {u v:Value} {t t':TypeId} : ∀(j:Nat) (x:Value),[u][j]? = some x->((w.alloc (.cells #[u] t)).alloc (.cells #[v] t')).drew.cell? (Addr.add ⟨w.heap.size,0,none⟩ j)=some x:=by
 intro j x hj
 match j,hj with
 | 0,hj =>simp at hj;subst hj;show ((w.alloc (.cells #[u] t)).alloc (.cells #[v] t')).cell? ⟨w.heap.size,0,none⟩=some u;rw [(af (w.alloc (.cells #[u] t)) (.cells #[v] t')).cell (by simp)];exact cB rfl _ _
theorem O5 {w:World} {u v:Value} {t t':TypeId} : ∀(j:Nat) (x:Value),[u][j]? = some x->((w.alloc (.cells #[v] t')).alloc (.cells #[u] t)).drew.cell? (Addr.add ⟨w.heap.size+1,0,none⟩ j)=some x:=by
 intro j x hj
 match j,hj with
 | 0,hj =>simp at hj;subst hj;exact cB (w:=w.alloc (.cells #[v] t')) (by simp) u t
theorem Mi {w:World} {u:Value} {m:Int} {t t':TypeId} : Ints ((w.alloc (.cells #[u] t)).alloc (.cells #[.int .i64 m] t')).drew (some ⟨w.heap.size+1,0,none⟩) 1 [m]:=by have:=Ints.newAt (w:=w.alloc (.cells #[u] t)) (k:=w.heap.size+1) (by simp) m t';exact this
theorem Mj {w:World} {u:Value} {m:Int} {t t':TypeId} : Ints ((w.alloc (.cells #[.int .i64 m] t')).alloc (.cells #[u] t)).drew (some ⟨w.heap.size,0,none⟩) 1 [m] :=
 (Ints.newAt (w:=w) rfl m t').below (af (w.alloc (.cells #[.int .i64 m] t')) (.cells #[u] t)).drew (Nat.le_refl _)
def Ready (b:Nat) (V:World) (rb:Nat) (cs:Array Value) (base:Nat) (t:List UInt8) (ws:List (List UInt8)) (n:Nat) (va:Option Addr) (vc:Nat) (w:World) : Prop :=
 w.ownsRow base 9 1 (.slice va n vc) n (strs ws)/\Lib.IsBuilderF 46 5 b b (Lib.byteCells t) w/\wG b V rb cs w
theorem Bl (ca:Option Addr) (cl cc:Nat) (ra:Option Addr) (rl rc:Nat) (p:Num.Lp) (w:World) (hc:Ints w ca cl p.costs) (hcl:cl<=9223372036854775807) (hr:ay w ra rl p.rows) (hrl:rl<=9223372036854775807) (hm:p.may=true)
  (ht:Lib.TabIs Tryz.prog w "internal/strconv.uint64pow10" .u64 Lib.pow10Tab) :
  Calls Tryz.prog 22 #[.agg #[.slice ca cl cc,.slice ra rl rc]] w fun e w'=>e=.returned (.tuple #[.string (B8 (Num.jI p)),.int .i64 0])/\Below w.heap.size w w':=by
 have HC:Hid (Ints w ca cl p.costs):=hc;have HR:Hid (ay w ra rl p.rows):=hr;have HM:Hid (p.may=true):=hm;have HT:Hid (Lib.TabIs Tryz.prog w "internal/strconv.uint64pow10" .u64 Lib.pow10Tab):=ht;have kZ:Hid (cl=p.costs.length):=hc.1;have kz:Hid (rl=p.rows.length):=hr.1;have hc4:cl<=4:=by have:=hc.1;have:=(p.aj hm).1;omega
 have hr4:rl<=4:=by have:=hr.1;have:=(p.aj hm).2.2.1;omega
 obtain ⟨i0,hif,hz0,hz1,hz2⟩:=info_parts Tryz.xB;clear hc hr ht;go_enter Tryz.func22,Tryz.ntmps22;go_wp2_with fail;refine (fA ca cl cc ra rl rc p _ (HC.out.below (af _ _) (Nat.le_refl _)) hcl (HR.out.below (af _ _) (Nat.le_refl _)) hrl).mono ?_;rintro e w1 ⟨rfl,hb1⟩;rw [hm];clear hm;have k0:w1.cell? ⟨w.heap.size,0,none⟩=some (.slice ca cl cc):=by rw [(JS hb1 0).1];go_simp
 have k1:w1.cell? ⟨w.heap.size,1,none⟩=some (.slice ra rl rc):=by rw [(JS hb1 1).1];go_simp
 have hz:w.heap.size < w1.heap.size:=by have:=hb1.size;simp at this;omega
 have hB1:Below w.heap.size w w1:=dN hb1;clear hb1;go_wp2_with fail;have HI0:Hid (Lib.IsBuilderF 46 5 w1.heap.size w1.heap.size (Lib.byteCells []) (w1.alloc (.cells #[.pointer none,.slice none 0 0] 46))):=Lib.IsBuilderF.of (Lib.fresh_isBuilder _ _ w1);have hs1:(w1.alloc (.cells #[.pointer none,.slice none 0 0] 46)).heap.size=w1.heap.size+1:=by simp
 have hBb:Below w1.heap.size w1 (w1.alloc (.cells #[.pointer none,.slice none 0 0] 46)):=af _ _;generalize w1.alloc (.cells #[.pointer none,.slice none 0 0] 46)=V1 at *;have vk:Below V1.heap.size V1 (V1.alloc (.cells #[.string (B8 Num.fB)] 9)):=af _ _;have tQ:Below w.heap.size w V1:=hB1.trans (hBb.mono (by omega));have hbW:Below w.heap.size w (V1.alloc (.cells #[.string (B8 Num.fB)] 9)):=tQ.trans (vk.mono (by omega));refine (pX (w1.heap.size+1) (some ⟨w1.heap.size+1,0,none⟩) 1 1 [Num.fB] ca cl cc p.costs _ (EP hs1.symm Num.fB (by omega)) (by simp;omega) (HC.out.below hbW (Nat.le_refl _)) (by
   intro b off h1 e h;rcases HC.out.2 with h0|⟨b2,CG,e2,hb2,_⟩
   ·omega
   ·rw [e] at e2;have:=Option.some.inj e2;simp only [Addr.mk.injEq] at this;have h:b=w1.heap.size+1:=by simpa [Value.ownBlock] using h
    omega) (by omega) (by omega) (by
   intro j hj;have:=Bj p HM.out (p.costs[j]?.getD 0) (by rw [List.getElem?_eq_getElem (by have:=kZ.out;omega)];exact List.getElem_mem _);omega) (fun w' h=>cO HT.out (hbW.trans (h.mono (by omega))))).mono ?_
 rintro e w2 ⟨va,vc,rfl,ho2,_,hb2⟩;have Ak:Below V1.heap.size V1 w2:=vk.trans (by rw [hs1];exact hb2);have Ew:Hid (w2.ownsRow (w1.heap.size+1) 9 1 (.slice va (1+cl) vc) (1+cl) (strs (Num.headW p.costs))):=ho2;have HI2:Hid (Lib.IsBuilderF 46 5 w1.heap.size w1.heap.size (Lib.byteCells []) w2):=eO HI0.out Ak;have HB2:Hid (Below w1.heap.size w1 w2):=hBb.trans (Ak.mono (by omega));clear ho2 hb2 hbW vk;go_wp2_with fail;refine (EC w1.heap.size w1.heap.size [] va (1+cl) vc (Num.headW p.costs) _ w2 HI2.out (by have:=HB2.out.size;omega) Ew.out (by omega) (by omega) (by simp) (by have:=EO p HM.out;omega)).mono ?_;rintro e w3 ⟨rfl,CK,hb3,_⟩;have HI3:Hid (Lib.IsBuilderF 46 5 w1.heap.size w1.heap.size (Lib.byteCells (upTo p 0)) w3):=by rw [Bh];exact CK
 have HB3:Hid (Below w1.heap.size w1 w3):=HB2.out.trans hb3;have r0:w3.cell? ⟨w.heap.size,1,none⟩=some (.slice ra rl rc):=carry HB3.out k1;clear CK hb3 Ak tQ;go_wp2_with fail;go_loopw [22] (fun i wr=>∃k:Nat,k<=rl/\i=.int .i64 k/\Lib.IsBuilderF 46 5 w1.heap.size w1.heap.size (Lib.byteCells (upTo p k)) wr/\Below w1.heap.size w1 wr) (fun i _=>rl - (intOf i).toNat)
 case atStart=>exact ⟨0,Nat.zero_le _,rfl,HI3.out,HB3.out⟩
 case round =>
  obtain ⟨k,hk,rfl,hI,hbl⟩:=hrel;have HI:Hid (Lib.IsBuilderF 46 5 w1.heap.size w1.heap.size (Lib.byteCells (upTo p k)) wr):=hI;clear hI;have hbw:Below w.heap.size w wr:=hB1.trans (hbl.mono (by omega));by_cases hlt:k < rl
  ·rcases HR.out.2 with h0|⟨b,off,hra,hbs,hrc⟩
   ·omega
   obtain ⟨xa,xl,xc,c0,c1,hxi,hxl⟩:=hrc k hlt;rw [<-(Ee hbw).1 b _ hbs] at c0 c1;have HXI:Hid (Ints wr xa xl (p.rows[k]?.getD ([],0)).1):=hxi.below hbw (Nat.le_refl _);have hmem:p.rows[k]?.getD ([],0)∈p.rows:=by rw [List.getElem?_eq_getElem (by have:=kz.out;omega)];exact List.getElem_mem _
   obtain ⟨hl1,hl2,hl3⟩:=Kg p HM.out _ hmem;have ad1:Hid ((Num.joinW 32 (Num.jQ (p.rows[k]?.getD ([],0)))).length<=100):=Kh p HM.out _ hmem;generalize hrow:p.rows[k]?.getD ([],0)=row at *;have ad2:Hid (p.rows[k]?.getD ([],0)=row):=hrow;obtain ⟨o,m⟩:=row;have X8:Hid (xl=o.length):=HXI.out.1;have ad3:o.length=p.costs.length:=hl1;have hx4:xl<=4:=by have:=kZ.out;have:=X8.out;omega
   clear ad3;have HL2:Hid (∀n∈o,-12<=n/\n<=12):=hl2;have UL:Hid (-12<=m/\m<=12):=hl3;subst hra;have Xq:xl=0\/∃b2 CG,xa=some ⟨b2,CG,none⟩/\b2 < w.heap.size:=by
    rcases hxi.2 with h|⟨b2,CG,e2,hb2,_⟩
    ·exact Or.inl h
    ·exact Or.inr ⟨b2,CG,e2,hb2⟩
   have HXW:Hid (xl=0\/∃b2 CG,xa=some ⟨b2,CG,none⟩/\b2 < w.heap.size):=Xq;have hbr:b < wr.heap.size:=by have:=hbw.size;omega
   clear hrc hmem hl1 hl2 hl3 hrow hxi Xq k0 k1 r0;have hsr:(wr.alloc (.cells #[.slice xa xl xc,.int .i64 m] 101)).heap.size=wr.heap.size+1:=by simp
   have vw:Below wr.heap.size wr (wr.alloc (.cells #[.slice xa xl xc,.int .i64 m] 101)):=af _ _;go_wp2_with fail;have q1:(wr.alloc (.cells #[.slice xa xl xc,.int .i64 m] 101)).cell? ⟨wr.heap.size,1,none⟩=some (.int .i64 m):=(aU rfl _ _ _).2;have hq0:(wr.alloc (.cells #[.slice xa xl xc,.int .i64 m] 101)).heap[wr.heap.size]? = some (.cells #[.slice xa xl xc,.int .i64 m] 101 (0,0)):=fM rfl _;generalize wr.alloc (.cells #[.slice xa xl xc,.int .i64 m] 101)=V at *;have vk:Below w.heap.size w V:=hbw.trans (vw.mono (by have:=hbw.size;omega));refine (pX (wr.heap.size+1) none 0 0 [] xa xl xc o V (World.ownsRow_nil _ _ _ _) (by omega) (HXI.out.below vw (Nat.le_refl _)) (by intro b off _ _ h;cases h) (by omega) (by omega) (by
    intro j hj;have:=HL2.out (o[j]?.getD 0) (by rw [List.getElem?_eq_getElem (by have:=X8.out;omega)];exact List.getElem_mem _);omega) (fun w' h=>cO HT.out (vk.trans (h.mono (by have:=hbw.size;omega))))).mono ?_
   rintro e w4 ⟨oa,oc,rfl,ho4,_,hb4⟩;simp only [Nat.zero_add,List.nil_append] at ho4 ⊢;have RN:Hid (w4.ownsRow (wr.heap.size+1) 9 1 (.slice oa xl oc) xl (strs (o.map Num.aR))):=ho4;have H8:Below V.heap.size V w4:=by rw [hsr];exact hb4
   have q4:w4.cell? ⟨wr.heap.size,1,none⟩=some (.int .i64 m):=carry H8 q1;have hs4:wr.heap.size < w4.heap.size:=by have:=H8.size;omega
   have HI4:Hid (Lib.IsBuilderF 46 5 w1.heap.size w1.heap.size (Lib.byteCells (upTo p k)) w4):=eO (eO HI.out vw) H8;have hSP:wG w1.heap.size w1 wr.heap.size #[.slice xa xl xc,.int .i64 m] w4:=wG.below ⟨hbl.trans (vw.mono hbl.size),Nat.le_refl _,hq0⟩ H8;have q5:∀w',wG w1.heap.size w1 wr.heap.size #[.slice xa xl xc,.int .i64 m] w'->w'.cell? ⟨wr.heap.size,1,none⟩=some (.int .i64 m):=fun w' h=>h.cell;have Dh:Hid (∀W,Below w4.heap.size w4 W->W.ownsRow (wr.heap.size+1) 9 1 (.slice oa xl oc) xl (strs (o.map Num.aR))):=fun W h=>World.ownsRow.kept (row:=none) RN.out ⟨h.os,h.tape,h.output,h.size,fun k hk _=>h.block k hk⟩ (by cases (Value.slice oa xl oc).ownBlock<;>simp);have ER:Hid (∀u∈[Value.string (B8 Num.Eo)],u.oneCell'=true):=by intro u hu;simp at hu;subst hu;rfl
   have aA3:w1.heap.size < wr.heap.size:=by rcases HI.out with h|h<;>exact h.lt
   have HW:Hid (∀W w5 g cap,Below w4.heap.size w4 W->W.grownBy w5 (Value.slice oa xl oc).ownBlock->w5.ownsRow (wr.heap.size+1) 9 1 (.slice (some ⟨g,0,none⟩) (xl+1) cap) (xl+1) (strs (o.map Num.aR) ++ [.string (B8 Num.Eo)])->
     wG w1.heap.size w1 wr.heap.size #[.slice xa xl xc,.int .i64 m] w5/\(∀nb,w4.heap.size<=nb->nb < W.heap.size->Ints W (some ⟨nb,0,none⟩) 1 [m]->Ints w5 (some ⟨nb,0,none⟩) 1 [m])/\
     (∀W' nb,Below w5.heap.size w5 W'->Ints W' (some ⟨nb,0,none⟩) 1 [m]->nb≠g->Calls Tryz.prog 52 #[.slice (some ⟨g,0,none⟩) (xl+1) cap,.slice (some ⟨nb,0,none⟩) 1 1] W' fun e w6=>∃Bb J3,e=.returned (.slice Bb (xl+1+1) J3)/\Ready w1.heap.size w1 wr.heap.size #[.slice xa xl xc,.int .i64 m] (wr.heap.size+1) (upTo p k) (Num.jQ (o,m)) (xl+1+1) Bb J3 w6)):=by
    intro W w5 g cap hW hg ho;have ku:∀j,(Value.slice oa xl oc).ownBlock=some j->wr.heap.size+1<=j/\j < w4.heap.size:=fun j hj=>World.ownsRow.lt RN.out j hj;have hWs:=hW.size;have hBW:Below w4.heap.size w4 W:=hW;have hb5:Below (wr.heap.size+1) V w5:=Below.grown ((H8.mono (by omega)).trans (hW.mono (by omega))) hg (by omega) (fun j hj=>(ku j hj).1);have O6:Below V.heap.size V w5:=by rw [hsr];exact hb5
    have ad6:wG w1.heap.size w1 wr.heap.size #[.slice xa xl xc,.int .i64 m] w5:=wG.below ⟨hbl.trans (vw.mono hbl.size),Nat.le_refl _,hq0⟩ O6;have OX:=eO (eO HI.out vw) O6;refine ⟨ad6,fun nb h1 h2 hi=>hi.Ez hg (fun b off e h=>?_),fun W' nb hW' hi hnb=>?_⟩
    ·have e:=Option.some.inj e;simp only [Addr.mk.injEq] at e;have:=ku b h.symm;omega
    ·refine (pX (wr.heap.size+1) (some ⟨g,0,none⟩) (xl+1) cap (o.map Num.aR ++ [Num.Eo]) (some ⟨nb,0,none⟩) 1 1 [m] W' (by
       rw [ky];exact World.ownsRow.kept (row:=none) ho ⟨hW'.os,hW'.tape,hW'.output,hW'.size,fun k hk _=>hW'.block k hk⟩ (by simp [Value.ownBlock])) (by have:=hW'.size;have:=hb5.size;omega) hi (by
       intro b off _ e h;have e:=Option.some.inj e;simp only [Addr.mk.injEq] at e;have h:b=g:=by simpa [Value.ownBlock] using h
       omega) (by omega) (by omega) (by
       intro j hj;have:j=0:=by omega
       subst this;have:=UL.out;show -1000000<=m/\m<=1000000;omega) (fun w' h=>cO HT.out ((vk.trans (O6.mono (by omega))).trans ((hW'.mono (by have:=hb5.size;omega)).trans (h.mono (by omega)))))).mono ?_
     rintro e w6 ⟨Bb,J3,rfl,ho6,_,hb6⟩;have X9:Below V.heap.size V w6:=O6.trans ((hW'.mono O6.size).trans (by rw [hsr];exact hb6));refine ⟨Bb,J3,rfl,?_,eO (eO HI.out vw) X9,wG.below ⟨hbl.trans (vw.mono hbl.size),Nat.le_refl _,hq0⟩ X9⟩;have e:Num.jQ (o,m)=o.map Num.aR ++ [Num.Eo] ++ [m].map Num.aR:=by unfold Num.jQ;simp
     rw [e];exact ho6
   have HP:Hid (∀w6 Bb J3,Ready w1.heap.size w1 wr.heap.size #[.slice xa xl xc,.int .i64 m] (wr.heap.size+1) (upTo p k) (Num.jQ (o,m)) (xl+1+1) Bb J3 w6->Calls Tryz.prog 50 #[.slice Bb (xl+1+1) J3,.pointer (some ⟨w1.heap.size,0,none⟩)] w6 fun e w7=>e=.returned (.tuple #[])/\wG w1.heap.size w1 wr.heap.size #[.slice xa xl xc,.int .i64 m] w7/\Lib.IsBuilderF 46 5 w1.heap.size w1.heap.size (Lib.byteCells (upTo p (k+1))) w7):=by intro w6 Bb J3 ⟨ho6,hI6,Ya⟩;refine (EC w1.heap.size w1.heap.size (upTo p k) Bb (xl+1+1) J3 (Num.jQ (o,m)) _ w6 hI6 Ya.1.size ho6 (by omega) (by omega) (by have:=um p HM.out k (by have:=kz.out;omega);omega) (by have:=ad1.out;omega)).mono ?_;rintro e w7 ⟨rfl,hI7,jJ,hk7⟩;refine ⟨rfl,⟨Ya.1.trans jJ,Ya.2.1,hk7 _ _ Ya.2.2 (by intro e;have:=Option.some.inj e;omega) (by intro c fz e;cases e)⟩,?_⟩;rw [Bi p k (by have:=kz.out;omega),ad2.out];exact hI7
   clear ho4 hb4 c0 c1 q1 q4;go_wp2_with fail;go_region_held3 (fun w'=>wG w1.heap.size w1 wr.heap.size #[.slice xa xl xc,.int .i64 m] w') (first|(with_reducible assumption)|(with_reducible exact wG.drew hSP)|(with_reducible exact wG.alloc (wG.drew hSP) _)|(repeat (first|(with_reducible assumption)|apply wG.drew|apply wG.alloc)))
    (first
          | (refine step_append_lies _ (by rfl) (.tmp 30) (.tmp 31) 22 (by rfl) (wr.heap.size+1) 9 i0 (.string ⟨#[]⟩) 1 16 Tryz.underlying22 hif hz0 hz1 hz2 (by rfl) (by decide) (.slice oa xl oc) xl (strs (o.map Num.aR)) (by rfl) (Dh.out _ (af _ _).drew) ⟨w4.heap.size,0,none⟩ 1 1 [.string (B8 Num.Eo)] (by rfl) (by rfl) (eu rfl _ _) ER.out (by decide) (by unfold maxLen;omega) (by omega) (by simp;omega) (w4.heap.size+1) (by simp) ?_;intro g cap w5 Bf hg5 yu Tj;obtain ⟨hS5,KI,UM⟩:=HW.out _ w5 g cap (af _ _).drew hg5 Bf;have KW:=Lib.hid UM;clear Bf hg5 UM KI)
          | (refine step_append_lies _ (by rfl) (.tmp 30) (.tmp 31) 22 (by rfl) (wr.heap.size+1) 9 i0 (.string ⟨#[]⟩) 1 16 Tryz.underlying22 hif hz0 hz1 hz2 (by rfl) (by decide) (.slice oa xl oc) xl (strs (o.map Num.aR)) (by rfl) (Dh.out _ ((af _ _).alloc (by simp) _).drew) ⟨w4.heap.size,0,none⟩ 1 1 [.string (B8 Num.Eo)] (by rfl) (by rfl) O4 ER.out (by decide) (by unfold maxLen;omega) (by omega) (by simp;omega) (w4.heap.size+1+1) (by simp) ?_;intro g cap w5 Bf hg5 yu Tj;obtain ⟨hS5,KI,UM⟩:=HW.out _ w5 g cap ((af _ _).alloc (by simp) _).drew hg5 Bf;have KW:=Lib.hid UM;have V9:w4.heap.size+1≠g:=(by rcases yu with h|h;(have:=(World.ownsRow.lt RN.out g h).2;omega);omega);have I5:=KI (w4.heap.size+1) (by omega) (by simp) Mi;clear Bf hg5 UM KI)
          | (refine step_append_lies _ (by rfl) (.tmp 30) (.tmp 31) 22 (by rfl) (wr.heap.size+1) 9 i0 (.string ⟨#[]⟩) 1 16 Tryz.underlying22 hif hz0 hz1 hz2 (by rfl) (by decide) (.slice oa xl oc) xl (strs (o.map Num.aR)) (by rfl) (Dh.out _ ((af _ _).alloc (by simp) _).drew) ⟨w4.heap.size+1,0,none⟩ 1 1 [.string (B8 Num.Eo)] (by rfl) (by rfl) O5 ER.out (by decide) (by unfold maxLen;omega) (by omega) (by simp;omega) (w4.heap.size+1+1) (by simp) ?_;intro g cap w5 Bf hg5 yu Tj;obtain ⟨hS5,KI,UM⟩:=HW.out _ w5 g cap ((af _ _).alloc (by simp) _).drew hg5 Bf;have KW:=Lib.hid UM;have V9:w4.heap.size≠g:=(by rcases yu with h|h;(have:=(World.ownsRow.lt RN.out g h).2;omega);omega);have I5:=KI (w4.heap.size) (by omega) (by simp;omega) Mj;clear Bf hg5 UM KI)
          | (go_at_call 52;refine (KW.out _ _ (by first|(with_reducible exact Below.refl _ _)|(with_reducible exact af _ _)) (by first|(with_reducible assumption)|(with_reducible exact Ints.newAt rfl _ _)) (by first|(with_reducible assumption)|omega)).mono ?_;rintro e w6 ⟨Bb,J3,rfl,hR6⟩;have Ya:=hR6.2.2)
          | (go_at_call 50;refine (HP.out _ _ _ (by assumption)).mono ?_;rintro e w7 ⟨rfl,hS7,hI7⟩))
   all_goals (clear q5)
   all_goals go_wp2_with fail
   all_goals go_roundw
   all_goals first
        | (simp [intOf];omega)
        | exact ⟨k+1,by omega,by go_num,hI7,hS7.1⟩
  ·have hke:k=rl:=by omega
   subst hke;go_wp2_with fail;refine (Tryz.Builder_String_any_k w1.heap.size w1.heap.size (upTo p k) wr HI.out hbl.size).mono ?_;rintro e w5 ⟨rfl,_,hb5,_⟩;have HB5:Hid (Below w.heap.size w w5):=hbw.trans (hb5.mono (by omega));have E:Hid (upTo p k=Num.jI p):=show _=_ by rw [kz.out];exact uk p
   clear hb5;go_wp2_with fail;go_ret2;refine ⟨?_,HB5.out⟩;rw [<-E.out];rfl
open Go.RowKit
theorem ES (w:World) (c:UInt8) (x:Int) (hx:x=(c.toNat:Int)) :
  (convert 44 9 (.slice (some ⟨w.heap.size,0,none⟩) 1 1)).run Tryz.prog (w.alloc (.cells #[.int .u8 x] 5))=.ok (.string (B8 [c])) (w.alloc (.cells #[.int .u8 x] 5)) :=
 run_convert_bytes_back (P:=Tryz.prog) (w.alloc (.cells #[.int .u8 x] 5)) 44 9 5 ⟨w.heap.size,0,none⟩ 1 [c] Tryz.underlying44 Tryz.underlying5 Tryz.underlying9 (fun j hj=>by
  have:j=0:=by simp at hj;omega
  subst this;subst hx;exact cB rfl _ _)
theorem wH:∀(k n:Nat),n < k->n<=9223372036854775807->∀w:World,
  Calls Tryz.prog 17 #[.int .i64 n] w fun e w'=>e=.returned (.string (B8 (Num.iB n)))/\Below w.heap.size w w':=by
 intro k
 induction k with
 | zero=>intro n h;omega
 | succ k ih =>
  intro n hk hn w;have h0:¬ ((n:Int) < 0):=by omega
  have hc:(48:Int)+(n:Int) % 10=((UInt8.ofNat (48+n % 10)).toNat:Int):=by rw [Num.xS _ (by omega)];omega
  have hcv:=ES w (UInt8.ofNat (48+n % 10)) _ hc;have HIH:Hid _:=ih;clear hc ih;by_cases h10:n < 10
  ·have ae0:(n:Int) < 10:=by omega
   have E:Hid (B8 [UInt8.ofNat (48+n % 10)]=B8 (Num.iB n)):=show _=_ by rw [Num.gz n h10,Nat.mod_eq_of_lt h10]
   generalize B8 [UInt8.ofNat (48+n % 10)]=S at hcv E;go_enter Tryz.func17,Tryz.ntmps17;go_wp2_with fail;go_ret;exact ⟨by rw [<-E.out];rfl,af _ _⟩
  ·have ae0:¬ ((n:Int) < 10):=by omega
   have E:Hid (B8 (Num.iB (n / 10)) ++ B8 [UInt8.ofNat (48+n % 10)]=B8 (Num.iB n)):=show _=_ by rw [bL,<-Num.jP n (by omega)]
   have hs1:(B8 (Num.iB (n / 10))).size<=19:=by rw [aQ];exact Num.kv 18 (n / 10) (by omega)
   have hs2:(B8 [UInt8.ofNat (48+n % 10)]).size=1:=by rw [aQ];rfl
   have hq:((n:Int)).tdiv 10=((n / 10:Nat) : Int):=by rw [Int.tdiv_eq_ediv_of_nonneg (by omega)];omega
   generalize B8 [UInt8.ofNat (48+n % 10)]=S at hcv E hs2;go_enter Tryz.func17,Tryz.ntmps17;go_wp2_with fail;rw [show (n:Int) / 10=((n / 10:Nat) : Int) by omega];refine (HIH.out (n / 10) (by omega) (by omega) _).mono ?_;rintro e w2 ⟨rfl,hb2⟩;have hb:Below w.heap.size w w2:=dN hb2;clear hb2 hcv HIH;generalize B8 (Num.iB (n / 10))=T at hs1 E;go_wp2_with fail;go_ret;exact ⟨by rw [<-E.out];rfl,hb⟩
theorem lW (n:Int) (hn : -1099511627776<=n/\n<=1099511627776) (w:World) :
  Calls Tryz.prog 17 #[.int .i64 n] w fun e w'=>e=.returned (.string (B8 (Num.aR n)))/\Below w.heap.size w w':=by
 by_cases h:n < 0
 ·have E:Hid (B8 [45] ++ B8 (Num.iB n.natAbs)=B8 (Num.aR n)):=show _=_ by rw [bL];unfold Num.aR;rw [if_pos h];rfl
  have hs1:(B8 (Num.iB n.natAbs)).size<=19:=by rw [aQ];exact Num.kv 18 n.natAbs (by omega)
  go_enter Tryz.func17,Tryz.ntmps17;go_wp2_with fail;rw [show -n=((n.natAbs:Nat) : Int) by omega];refine (wH (n.natAbs+1) n.natAbs (by omega) (by omega) w).mono ?_;rintro e w2 ⟨rfl,hb2⟩;generalize B8 (Num.iB n.natAbs)=T at hs1 E;go_wp2_with fail;go_ret;exact ⟨by rw [<-E.out];rfl,hb2⟩
 ·have:=wH (n.toNat+1) n.toNat (by omega) (by omega) w;rw [show ((n.toNat:Nat) : Int)=n by omega] at this;have e:Num.aR n=Num.iB n.toNat:=by unfold Num.aR;rw [if_neg h];congr 1;omega
  rw [e];exact this
end Go.Proofs.YtipcbhodlgoflabGreatDoor
