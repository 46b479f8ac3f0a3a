/- What is kept while sweep.bestLines goes through the corners. -/
import Derived.Test.YtipcbhodlgoflabGreatDoorSwpM
import Derived.Test.YtipcbhodlgoflabGreatDoorSlvL
import Derived.Test.YtipcbhodlgoflabGreatDoorSwpR
import Derived.Test.YtipcbhodlgoflabGreatDoorSwpCC
import Derived.Test.YtipcbhodlgoflabGreatDoorSwpW
import Derived.Test.YtipcbhodlgoflabGreatDoorSpnAB
import Derived.Test.YtipcbhodlgoflabGreatDoorSlvW7
import Derived.RegionIn
import Derived.Test.YtipcbhodlgoflabGreatDoorSwpSP
import Derived.Test.YtipcbhodlgoflabGreatDoorSlvAE
set_option maxHeartbeats 1600000
namespace Go.Proofs.YtipcbhodlgoflabGreatDoor
open Go.RowKit
open Go.ChangeMaps (setBlock)
namespace Num
def bN (M s:Nat) : List (List Int):=(List.range (M - 1 - s)).map fun i=>ax (M - 1 - i) 8
theorem QU (M:Nat) : bN M (M - 1)=[]:=by unfold bN;rw [Nat.sub_self];rfl
theorem BQ (M s:Nat) (hs:s+1 < M) : bN M s=bN M (s+1) ++ [ax (s+1) 8]:=by unfold bN;rw [show M - 1 - s=(M - 1 - (s+1))+1 by omega,List.range_succ,List.map_append];congr 1;simp only [List.map_cons,List.map_nil];rw [show M - 1 - (M - 1 - (s+1))=s+1 by omega]
theorem QV (M q:Nat) (h0:0 < q) (hq:q < M) : ax q 8∈bN M 0:=by unfold bN;refine List.mem_map.2 ⟨M - 1 - q,List.mem_range.2 (by omega),?_⟩;rw [show M - 1 - (M - 1 - q)=q by omega]
theorem sV (p:Lp) (b:List Int) (m n:Nat) (all:List (List Int)) (a:List Int) : bJ p b m n (all ++ [a])=if eF p b m n a=true then joinedN (bJ p b m n all) (bU p b m n a) else bJ p b m n all:=by unfold bJ;rw [List.foldl_append];rfl
theorem Np (p:Lp) (b:List Int) (m n:Nat) (a:List Int) (h:eF p b m n a=true) : iP p a=true:=by unfold eF at h;rw [Bool.and_eq_true] at h;exact h.1
end Num
theorem Bx.zD {b:Nat} {a0 a1 a2 a3:Value} {w:World} (h:Bx b [a0,a1,a2,a3] w) :
  w.cell? ⟨b,0,none⟩=some a0/\w.cell? ⟨b,1,none⟩=some a1/\w.cell? ⟨b,2,none⟩=some a2/\w.cell? ⟨b,3,none⟩=some a3/\w.frozen? ⟨b,0,none⟩=false/\w.frozen? ⟨b,1,none⟩=false/\w.frozen? ⟨b,2,none⟩=false/\w.frozen? ⟨b,3,none⟩=false :=
 ⟨h.c 0 _ rfl,h.c 1 _ rfl,h.c 2 _ rfl,h.c 3 _ rfl,h.f 0,h.f 1,h.f 2,h.f 3⟩
theorem Bx.uN {b B:Nat} {vs:List Value} {w w':World} (h:Bx b vs w) (hb:Below B w w') (hB:b < B) : Bx b vs w' :=
 ⟨fun i v e=>by rw [hb.cell (p:=⟨b,i,none⟩) hB];exact h.c i v e,fun i=>by rw [hb.frozen (p:=⟨b,i,none⟩) hB];exact h.f i,Nat.lt_of_lt_of_le h.lt hb.size⟩
structure BL (w:World) (ca:Option Addr) (cl cc:Nat) (ra:Option Addr) (rl rc:Nat) (ba:Option Addr) (bl bc:Nat) (l:List Num.Pc) (g:Bool) (A:World) : Prop where
 dS:Below w.heap.size w A
 pb:Bx w.heap.size [.slice ca cl cc,.slice ra rl rc] A
 bb:Bx (w.heap.size+1) [.slice ba bl bc] A
 mp:fT A (w.heap.size+1+1) l
 mb:Bx (w.heap.size+1+1+1) [.map (some (w.heap.size+1+1))] A
 gb:Bx (w.heap.size+1+1+1+1) [.bool g] A
 cb:Bx (w.heap.size+1+1+1+1+1) [.slice ca cl cc,.slice ra rl rc] A
section
variable {w:World} {ca:Option Addr} {cl cc:Nat} {ra:Option Addr} {rl rc:Nat} {ba:Option Addr} {bl bc:Nat} {l:List Num.Pc} {g:Bool} {A A':World}
theorem BL.move (h:BL w ca cl cc ra rl rc ba bl bc l g A) (hb:Below (w.heap.size+6) A A') : BL w ca cl cc ra rl rc ba bl bc l g A' :=
 ⟨h.dS.trans (hb.mono (by omega)),h.pb.uN hb (by omega),h.bb.uN hb (by omega),h.mp.kept (hb.block _ (by omega)),h.mb.uN hb (by omega),h.gb.uN hb (by omega),h.cb.uN hb (by omega)⟩
theorem BL.step (h:BL w ca cl cc ra rl rc ba bl bc l g A) (hb:Below A.heap.size A A') : BL w ca cl cc ra rl rc ba bl bc l g A' :=
 h.move (hb.mono (by have:=h.cb.lt;omega))
theorem BL.WW (h:BL w ca cl cc ra rl rc ba bl bc l g A) (k:Nat) (o:Obj) (hk:w.heap.size+6<=k) : BL w ca cl cc ra rl rc ba bl bc l g (A.putObj k o) :=
 h.move (oJ o (Below.refl _ _) (by have:=h.cb.lt;omega) hk)
theorem fT.setCell {W:World} {r b i:Nat} {l:List Num.Pc} (h:fT W r l) (hb:r≠b) (v:Value) : fT (W.setCell ⟨b,i,none⟩ v) r l:=h.kept (Below.heap_setCell _ _ _ _ hb)
theorem BL.goes (h:BL w ca cl cc ra rl rc ba bl bc l g A) : BL w ca cl cc ra rl rc ba bl bc l true (A.setCell ⟨w.heap.size+1+1+1+1,0,none⟩ (.bool true)) :=
 ⟨aV h.dS (by omega) _,h.pb.other (by omega) _ _,h.bb.other (by omega) _ _,h.mp.setCell (by omega) _,h.mb.other (by omega) _ _,h.gb.set 0 _,h.cb.other (by omega) _ _⟩
theorem zF {B k:Nat} {W:World} (o:Obj) (hk:B<=k) : Below B W (setBlock W k o):=by refine ⟨rfl,rfl,rfl,by simp [setBlock],fun i hi=>?_⟩;simp only [setBlock];rw [Array.getElem?_setIfInBounds_ne (by omega)]
theorem Bx.setBlock {b k:Nat} {vs:List Value} {W:World} (h:Bx b vs W) (o:Obj) (hk:b≠k) : Bx b vs (setBlock W k o):=by
 have hh:(Go.ChangeMaps.setBlock W k o).heap[b]? = W.heap[b]? := by simp only [Go.ChangeMaps.setBlock];rw [Array.getElem?_setIfInBounds_ne (by omega)]
 refine ⟨fun i v e=>?_,fun i=>?_,by simpa [Go.ChangeMaps.setBlock] using h.lt⟩
 ·have:=h.c i v e;unfold World.cell? at this ⊢;simp only [hh];exact this
 ·have:=h.f i;unfold World.frozen? at this ⊢;simp only [hh];exact this
theorem BL.put (h:BL w ca cl cc ra rl rc ba bl bc l g A) (o:Obj) (l':List Num.Pc) (hm:fT (setBlock A (w.heap.size+1+1) o) (w.heap.size+1+1) l') : BL w ca cl cc ra rl rc ba bl bc l' g (setBlock A (w.heap.size+1+1) o) :=
 ⟨h.dS.trans (zF o (by omega)),h.pb.setBlock o (by omega),h.bb.setBlock o (by omega),hm,h.mb.setBlock o (by omega),h.gb.setBlock o (by omega),h.cb.setBlock o (by omega)⟩
end
structure BD (w:World) (ca:Option Addr) (cl cc:Nat) (ra:Option Addr) (rl rc:Nat) (ba:Option Addr) (bl bc:Nat) (l:List Num.Pc) (g:Bool) (k:Nat) (V A:World) : Prop where
 bl:BL w ca cl cc ra rl rc ba bl bc l g A
 d:A.heap[k]? = V.heap[k]?
 e:A.heap[k+1]? = V.heap[k+1]?
 lt:k+1 < A.heap.size
section
variable {w:World} {ca:Option Addr} {cl cc:Nat} {ra:Option Addr} {rl rc:Nat} {ba:Option Addr} {bl bc:Nat} {l:List Num.Pc} {g:Bool} {k:Nat} {V A A':World}
theorem BD.step (h:BD w ca cl cc ra rl rc ba bl bc l g k V A) (hb:Below A.heap.size A A') : BD w ca cl cc ra rl rc ba bl bc l g k V A' :=
 ⟨h.bl.step hb,(hb.block _ (by have:=h.lt;omega)).trans h.d,(hb.block _ h.lt).trans h.e,Nat.lt_of_lt_of_le h.lt hb.size⟩
theorem BD.goes (h:BD w ca cl cc ra rl rc ba bl bc l g k V A) (hk:k=w.heap.size+6) : BD w ca cl cc ra rl rc ba bl bc l true k V (A.setCell ⟨w.heap.size+1+1+1+1,0,none⟩ (.bool true)) :=
 ⟨h.bl.goes,(Below.heap_setCell _ _ _ _ (by show k≠w.heap.size+1+1+1+1;omega)).trans h.d,(Below.heap_setCell _ _ _ _ (by show k+1≠w.heap.size+1+1+1+1;omega)).trans h.e,by simpa using h.lt⟩
theorem BD.set (h:BD w ca cl cc ra rl rc ba bl bc l g k V A) (hk:w.heap.size+6<=k) (b:Nat) (hb:k+1 < b) (i:Nat) (u:Value) : BD w ca cl cc ra rl rc ba bl bc l g k V (A.setCell ⟨b,i,none⟩ u) :=
 ⟨h.bl.move (aV (Below.refl _ _) (by omega) _),(Below.heap_setCell _ _ _ _ (by show k≠b;omega)).trans h.d,(Below.heap_setCell _ _ _ _ (by show k+1≠b;omega)).trans h.e,by simpa using h.lt⟩
theorem BD.put (h:BD w ca cl cc ra rl rc ba bl bc l g k V A) (hk:k=w.heap.size+6) (o:Obj) (l':List Num.Pc) (hm:fT (setBlock A (w.heap.size+1+1) o) (w.heap.size+1+1) l') : BD w ca cl cc ra rl rc ba bl bc l' g k V (setBlock A (w.heap.size+1+1) o) :=
 ⟨h.bl.put o l' hm,by
  show (Go.ChangeMaps.setBlock A (w.heap.size+1+1) o).heap[k]? = _;simp only [Go.ChangeMaps.setBlock];rw [Array.getElem?_setIfInBounds_ne (by omega)];exact h.d,by
  show (Go.ChangeMaps.setBlock A (w.heap.size+1+1) o).heap[k+1]? = _;simp only [Go.ChangeMaps.setBlock];rw [Array.getElem?_setIfInBounds_ne (by omega)];exact h.e,by
  simp only [Go.ChangeMaps.setBlock,Array.size_setIfInBounds];exact h.lt⟩
theorem BD.post {M s:Nat} {L:List Num.Pc} {G:Bool} (h:BD w ca cl cc ra rl rc ba bl bc l g k V A) (hs:s < M) (hl:L=l) (hg:G=g) : (s < M/\BL w ca cl cc ra rl rc ba bl bc L G A)/\A.heap[k]? = V.heap[k]?/\A.heap[k+1]? = V.heap[k+1]? := by subst hl hg;exact ⟨⟨hs,h.bl⟩,h.d,h.e⟩
end
theorem Ints.QW {W:World} {a:Option Addr} {n b i:Nat} {l:List Int} {u v:Value} (h:Ints W a n l) (hv:W.cell? ⟨b,i,none⟩=some v) (hn:∀z:Int,v≠.int .i64 z) : Ints (W.setCell ⟨b,i,none⟩ u) a n l:=by
 refine ⟨h.1,?_⟩;rcases h.2 with h0|⟨g,off,e,hlt,hc⟩
 ·exact Or.inl h0
 ·refine Or.inr ⟨g,off,e,by simpa using hlt,fun k hk=>?_⟩;rw [World.cell?_setCell_other _ _ _ _ (fun ea=>?_)]
  ·exact hc k hk
  ·have:=hc k hk
   first
        | (rw [<-ea,hv] at this;exact hn _ (Option.some.inj this))
        | (rw [ea,hv] at this;exact hn _ (Option.some.inj this))
open Go.RowKit Go.Shelf
attribute [local go_sem] Oper.semAt_some
theorem BL.new (w:World) (ca:Option Addr) (cl cc:Nat) (ra:Option Addr) (rl rc:Nat) (ba:Option Addr) (bl bc:Nat) (t0 t1 t3 t4 t5:TypeId) :
  BL w ca cl cc ra rl rc ba bl bc [] false ((((((w.alloc (.cells #[.slice ca cl cc,.slice ra rl rc] t0)).alloc (.cells #[.slice ba bl bc] t1)).alloc (.map #[] 0)).alloc (.cells #[.map (some (w.heap.size+1+1))] t3)).alloc (.cells #[.bool false] t4)).alloc (.cells #[.slice ca cl cc,.slice ra rl rc] t5)) :=
 ⟨ai (ai (ai (ai (ai (af _ _) (af _ _)) (af _ _)) (af _ _)) (af _ _)) (af _ _),
  (((((Bx.new rfl _ _).step (af _ _)).step (af _ _)).step (af _ _)).step (af _ _)).step (af _ _),
  ((((Bx.new (by simp) _ _).step (af _ _)).step (af _ _)).step (af _ _)).step (af _ _),
  (((by simpa using fT.new ((w.alloc (.cells #[.slice ca cl cc,.slice ra rl rc] t0)).alloc (.cells #[.slice ba bl bc] t1)) : fT _ (w.heap.size+1+1) []).below (af _ _)).below (af _ _)).below (af _ _),
  ((Bx.new (by simp) _ _).step (af _ _)).step (af _ _),
  (Bx.new (by simp) _ _).step (af _ _),
  Bx.new (by simp) _ _⟩
theorem Num.gm.bd {a:Num.En} (h:Num.gm a) : (-1073741824<=a.n/\a.n<=1073741824)/\(-1073741824<=a.d/\a.d<=1073741824):=by
 rcases h with ⟨_,h1,h2⟩|⟨_,h2⟩
 ·rw [h1,h2];omega
 ·have:=Num.fw _ _ h2;rw [Num.aW] at this;simp only [Bool.and_eq_true,decide_eq_true_eq] at this;omega
theorem Num.zG (a b:Num.En) (ha:Num.gm a) (hb:Num.gm b) : Num.gm (Num.oF a b):=by rcases Num.vL a b ha hb with h|h<;>rw [h]<;>assumption
theorem Num.vW (a b:Num.En) (ha:Num.gm a) (hb:Num.gm b) : Num.gm (Num.lC a b):=by rcases Num.sK a b ha hb with h|h<;>rw [h]<;>assumption
theorem Li (x:Num.Pc) (hf:Num.gm x.f) (ht:Num.gm x.t) (hb:Num.bZ x.bd [x.bn]=true) (hs:Num.bZ x.sd [x.sn]=true) : Num.xk x:=by have h1:=Num.fw _ _ hb;have h2:=Num.fw _ _ hs;rw [Num.aW] at h1 h2;simp only [Bool.and_eq_true,decide_eq_true_eq] at h1 h2;exact ⟨hf.bd.1,hf.bd.2,ht.bd.1,ht.bd.2,by omega,by omega,by omega,by omega⟩
theorem vX {p:Num.Lp} {b:List Int} {rl cl:Nat} (cx:Num.Ctx p b rl cl) (M s:Nat) (hs:s+1 < M) (h:(Num.look p (Num.ax (s+1) 8)).err≠0\/Num.bO (Num.look p (Num.ax (s+1) 8)).x=true) :
  Num.bJ p b rl cl (Num.bN M s)=Num.bJ p b rl cl (Num.bN M (s+1))/\(Num.bN M s).any (Num.iP p)=(Num.bN M (s+1)).any (Num.iP p):=by
 have hg:Num.iP p (Num.ax (s+1) 8)=false:=by
  cases hc:Num.iP p (Num.ax (s+1) 8) with
  | false=>rfl
  | true =>
   have:=(Num.iY p _ rl cl cx.may cx.hm cx.hn).2 ((Num.jk p _ rl cl cx.may cx.hm cx.hn).1 hc);rcases h with h|h
   ·exact absurd this.1 h
   ·rw [this.2] at h;cases h
 rw [Num.BQ M s hs,Num.sV,List.any_append];refine ⟨if_neg (fun hu=>?_),by simp [hg]⟩;rw [Num.Np p b rl cl _ hu] at hg;cases hg
set_option maxRecDepth 12000 in
theorem AL (ca:Option Addr) (cl cc:Nat) (ra:Option Addr) (rl rc:Nat) (p:Num.Lp) (w:World) (hc:Ints w ca cl p.costs) (hr:ay w ra rl p.rows) (ba:Option Addr) (bl bc:Nat) (b:List Int) (hb:Ints w ba bl b) (cx:Num.Ctx p b rl cl) :
  Calls Tryz.prog 66 #[.agg #[.slice ca cl cc,.slice ra rl rc],.slice ba bl bc] w fun e w'=>e=.returned (.tuple #[.map (some (w.heap.size+1+1)),.bool ((Num.bN (2 ^ (cl+rl)) 0).any (Num.iP p))])/\fT w' (w.heap.size+1+1) (Num.bJ p b rl cl (Num.bN (2 ^ (cl+rl)) 0))/\Below w.heap.size w w':=by
 have HC:Hid (Ints w ca cl p.costs):=hc;have HR:Hid (ay w ra rl p.rows):=hr;have WY:Hid (Ints w ba bl b):=hb;have CX:Hid (Num.Ctx p b rl cl):=cx;have hc4:cl<=4/\1<=cl:=⟨cx.n4,cx.n1⟩;have hr4:rl<=4/\1<=rl:=⟨cx.h4,cx.h1⟩;have QX:bl=cl:=hb.1.trans cx.hb;clear hc hr hb cx;subst QX;obtain ⟨n,hn9⟩ : ∃n:Nat,n=9:=⟨_,rfl⟩;clear hn9;have hmk:∀W:World,(Instr.makeMap 131 none).run Tryz.prog W=.ok (.map (some W.heap.size)) (W.alloc (.map #[] 0)):=fun _=>rfl;have hN:=BL.new w ca bl cc ra rl rc ba bl bc 28 25 131 4 28;obtain ⟨M,hM⟩ : ∃M,2 ^ (bl+rl)=M:=⟨_,rfl⟩;have hM1:1<=M:=by rw [<-hM];exact Nat.pow_pos (by omega)
 refine (callsIn_wide (n:=n)).1 ?_;refine callsIn_of_wp_marks Tryz.func66 rfl trivial ?_ rfl;simp only [Tryz.ntmps66,List.size_toArray,List.length_cons,List.length_nil,Nat.reduceAdd,Nat.reduceSub,Array.replicate_succ,Array.replicate_zero,List.push_toArray,List.append_toArray,List.nil_append,List.cons_append]
 gi_wp2_with fail
 refine j6 ((wU ca bl cc ra rl rc _).mono ?_);rintro e w2 ⟨rfl,hw2⟩;have hN2:BL w ca bl cc ra rl rc ba bl bc [] false w2:=by rw [hw2];exact hN
 have HS2:Hid (w2.heap.size=w.heap.size+6):=by show _=_;rw [hw2];simp
 clear hw2 hN
 gi_wp2_with fail
 refine Ng (gf:=84) (lb := #[.pointer (some ⟨w.heap.size+1+1+1+1+1,0,none⟩)]) rfl (enters_of Tryz.func84 (by kernel_rfl) rfl) (M - 1)
  (fun s A=>s < M/\BL w ca bl cc ra rl rc ba bl bc (Num.bJ p b rl bl (Num.bN M s)) ((Num.bN M s).any (Num.iP p)) A) (fun s=>(Num.look p (Num.ax (s+1) 8)).err≠0)
  (fun s A vs=>∃aa al ac xa xl xc ya yl yc ga gl gc,vs=#[.slice aa al ac,.agg #[.slice xa xl xc,.int .i64 (Num.look p (Num.ax (s+1) 8)).xd,.slice ya yl yc,.int .i64 (Num.look p (Num.ax (s+1) 8)).yd,.slice ga gl gc,.int .i64 (Num.look p (Num.ax (s+1) 8)).gd]]/\Handed p (s+1) A aa al xa xl ya yl ga gl)
  ?hsz ?hKb ?hKs ?Z9 ?h0 ?zt ?sQ ?hdone
 case hsz =>rintro s A vs ⟨aa,al,ac,xa,xl,xc,ya,yl,yc,ga,gl,gc,rfl,_⟩;rfl
 case hKb=>exact fun s A B h hb=>⟨h.1,h.2.step hb⟩
 case hKs =>rintro s A ⟨hs,h⟩ hk;refine ⟨by omega,?_⟩;rw [(vX CX.out M s hs (Or.inl hk)).1,(vX CX.out M s hs (Or.inl hk)).2];exact h
 case Z9=>exact fun s A l o r hl _ h=>⟨h.1,h.2.WW l o (by have:=HS2.out;omega)⟩
 case h0 =>refine ⟨by omega,?_⟩;rw [Num.QU];exact hN2
 case zt =>
  intro l J Jx W hJK U7 hJs hY hJ0;have h:=Gg ca bl cc ra rl rc p W CX.out.hn CX.out.hm CX.out.may (w.heap.size+1+1+1+1+1) l (n - 1) J Jx
   (fun s A hJ=>by
    have hB:=(hJK s A hJ).2;exact ⟨hB.cb.c 0 _ rfl,hB.cb.c 1 _ rfl,Ints.below HC.out hB.dS (Nat.le_refl _),ay.below HR.out hB.dS (Nat.le_refl _)⟩)
   U7 hJs (fun s A aa al ac xa xl xc ya yl yc ga gl gc hj _ hH=>hY s A _ hj ⟨aa,al,ac,xa,xl,xc,ya,yl,yc,ga,gl,gc,rfl,hH⟩) (by rw [hM];exact hJ0)
  exact h
 case hdone =>
  rintro B ⟨_,hB⟩ hK;have m0:=hB.mb.c 0 _ rfl;have g0:=hB.gb.c 0 _ rfl;have HZ:Hid _:=(hB.move (A':=B.drew) ((Below.refl _ _).drew)).WW w2.heap.size (.deferred none) (by have:=HS2.out;omega);have HK:Hid (B.drew.heap[w2.heap.size]? = some (.deferred (some []))):=hK;clear hB hK
  gi_wp2_with fail
  gi_region
  gi_wp2_with fail
  refine ⟨by simp,.inl ⟨_,_,rfl,run_takeDeferred HK.out,?_⟩⟩;refine ⟨.tuple #[.map (some (w.heap.size+1+1)),.bool ((Num.bN M 0).any (Num.iP p))],?_,?_⟩
  ·simp [results,Tryz.results66,go_sem]
  ·rw [hM];exact ⟨rfl,HZ.out.mp,HZ.out.dS⟩
 case sQ =>
  rintro s A vs ⟨hsM,hBL⟩ ⟨aa,al,ac,xa,xl,xc,ya,yl,yc,ga,gl,gc,rfl,hH⟩ ⟨r,hloop⟩ hlt;obtain ⟨pJ,hden⟩:=Num.FY p (Num.ax (s+1) 8) rl bl CX.out.hm CX.out.hn hH.ok;obtain ⟨_,FR,_⟩:=Num.bK p (Num.ax (s+1) 8) rl bl CX.out.may CX.out.hm CX.out.hn pJ hden;have Ac:Hid _:=hH.ok;have hxl:xl=bl+rl:=by have:=hH.x.1;omega
  have WJ:Hid _:=pJ;have CY:Hid _:=hden;have Y6:Hid _:=hH.at';have OM:Hid _:=hH.x;have hal:al=rl:=by have:=hH.at'.1;have:=(Num.bf _ _ _ pJ).1;omega
  have YY:Hid (Num.bO (Num.look p (Num.ax (s+1) 8)).x=true->Num.bJ p b rl bl (Num.bN M s)=Num.bJ p b rl bl (Num.bN M (s+1))/\(Num.bN M s).any (Num.iP p)=(Num.bN M (s+1)).any (Num.iP p)):=fun h=>vX CX.out M s hsM (Or.inr h);have Zd:Hid (Num.bN M s=Num.bN M (s+1) ++ [Num.ax (s+1) 8]):=Num.BQ M s hsM;clear pJ hden hH FR;subst hxl hal;generalize hat:Num.ax (s+1) 8=at' at *;clear hat
  gi_wp2_with fail
  refine ⟨af _ _,fun o=>?_⟩;have hsx:=H5.new A (.slice xa (bl+al) xc) (.int .i64 (Num.look p at').xd) (.slice ya yl yc) (.int .i64 (Num.look p at').yd) (.slice ga gl gc) (.int .i64 (Num.look p at').gd) 75;have jf:(A.alloc (.cells #[.slice xa (bl+al) xc,.int .i64 (Num.look p at').xd,.slice ya yl yc,.int .i64 (Num.look p at').yd,.slice ga gl gc,.int .i64 (Num.look p at').gd] 75)).heap[w2.heap.size+1]? = some (.loop r):=(Below.heap_alloc _ _ _ (Array.getElem?_eq_some_iff.1 hloop).1).trans hloop;have s0:=fC o jf hsx.c0;have s1:=fC o jf hsx.c1;have TZ:Hid (Ints ((A.alloc (.cells #[.slice xa (bl+al) xc,.int .i64 (Num.look p at').xd,.slice ya yl yc,.int .i64 (Num.look p at').yd,.slice ga gl gc,.int .i64 (Num.look p at').gd] 75)).putObj (w2.heap.size+1) o) aa al at'):=Ints.putObj o jf (Ints.below Y6.out hsx.dS (Nat.le_refl _));have kQ:Hid (Ints ((A.alloc (.cells #[.slice xa (bl+al) xc,.int .i64 (Num.look p at').xd,.slice ya yl yc,.int .i64 (Num.look p at').yd,.slice ga gl gc,.int .i64 (Num.look p at').gd] 75)).putObj (w2.heap.size+1) o) xa (bl+al) (Num.look p at').x):=Ints.putObj o jf (Ints.below OM.out hsx.dS (Nat.le_refl _));have Gt:=(hBL.step hsx.dS).WW (w2.heap.size+1) o (by have:=HS2.out;omega);have hszA:A.heap.size < ((A.alloc (.cells #[.slice xa (bl+al) xc,.int .i64 (Num.look p at').xd,.slice ya yl yc,.int .i64 (Num.look p at').yd,.slice ga gl gc,.int .i64 (Num.look p at').gd] 75)).putObj (w2.heap.size+1) o).heap.size:=by simp
  generalize hA2:(A.alloc (.cells #[.slice xa (bl+al) xc,.int .i64 (Num.look p at').xd,.slice ya yl yc,.int .i64 (Num.look p at').yd,.slice ga gl gc,.int .i64 (Num.look p at').gd] 75)).putObj (w2.heap.size+1) o=A2 at *;generalize A.heap.size=bc2 at *;clear hA2 hsx jf hloop Y6 OM hBL
  gi_wp2_with fail
  refine iq ((lF xa (bl+al) xc (Num.look p at').x A2 kQ.out (by omega)).mono ?_);rintro e A9 ⟨rfl,Y7⟩;rw [Y7];clear Y7 A9;cases hneg:Num.bO (Num.look p at').x with
  | true =>
   gi_wp2_with fail
   refine ⟨⟨by omega,?_⟩,rfl,rfl⟩;rw [(YY.out hneg).1,(YY.out hneg).2];exact Gt
  | false =>
   have Ze:BD w ca bl cc ra al rc ba bl bc (Num.bJ p b al bl (Num.bN M (s+1))) ((Num.bN M (s+1)).any (Num.iP p)) w2.heap.size A2 A2:=⟨Gt,rfl,rfl,by omega⟩;have QY:Hid _:=Ze.goes HS2.out;have p0:=Gt.pb.c 0 _ rfl;have p1:=Gt.pb.c 1 _ rfl;have b0:=Gt.bb.c 0 _ rfl;have g0:=Gt.gb.c 0 _ rfl;have fg:=Gt.gb.f 0;have hwl:w.heap.size+1+1+1+1 < bc2:=by have:=HS2.out;omega
   have Zf:=TZ.out.QW (u:=.bool true) g0 (fun z h=>by cases h);have Zg:=kQ.out.QW (u:=.bool true) g0 (fun z h=>by cases h);have s3:(A2.setCell ⟨w.heap.size+1+1+1+1,0,none⟩ (.bool true)).cell? ⟨bc2,0,none⟩=some (.slice xa (bl+al) xc):=by rw [World.cell?_setCell_other _ _ _ _ (fun e=>by injection e with e1;omega)];exact s0
   have s4:(A2.setCell ⟨w.heap.size+1+1+1+1,0,none⟩ (.bool true)).cell? ⟨bc2,1,none⟩=some (.int .i64 (Num.look p at').xd):=by rw [World.cell?_setCell_other _ _ _ _ (fun e=>by injection e with e1;omega)];exact s1
   clear Gt Ze
   gi_wp2_with fail
   clear p0 p1 b0 g0 fg s0 s1 TZ kQ;generalize A2.setCell ⟨w.heap.size+1+1+1+1,0,none⟩ (.bool true)=A3 at *;have T9:Hid _:=Zf;have Ql:Hid _:=Zg;clear Zf Zg;refine iq ((AB ca bl cc ra al rc p A3 (Ints.below HC.out QY.out.bl.dS (Nat.le_refl _)) (by omega) (ay.below HR.out QY.out.bl.dS (Nat.le_refl _)) (by omega) aa al ac at' T9.out (by omega) ba bl bc b (Ints.below WY.out QY.out.bl.dS (Nat.le_refl _)) (by omega)).mono ?_);rintro e w3 ⟨rfl,hb3⟩;have hcv:oH p at' b=il (Num.bB p b al bl at'):=by unfold oH;rw [if_neg (by rw [Ac.out];simp),if_pos ⟨CX.out.hb.trans CX.out.hn,((Num.aD p b).aj CX.out.FI).2.1⟩];unfold Num.zw Num.bB;rw [<-CX.out.hn,<-CX.out.hm]
   rw [hcv];have hgood:Num.iP p at'=true:=(Num.jk p at' al bl CX.out.may CX.out.hm CX.out.hn).2 ((Num.iY p at' al bl CX.out.may CX.out.hm CX.out.hn).1 ⟨Ac.out,hneg⟩);have hany:(Num.bN M s).any (Num.iP p)=true:=by rw [Zd.out,List.any_append];simp [hgood]
   have WZ:Hid _:=QY.out.step hb3;have s5:=carry hb3 s3;have s6:=carry hb3 s4;have Nc:Hid _:=Ints.below Ql.out hb3 (Nat.le_refl _);clear hcv s3 s4 hb3 Ql T9 QY;cases hem:Num.ig (Num.bB p b al bl at') with
   | true =>
    have hlin:Num.bJ p b al bl (Num.bN M s)=Num.bJ p b al bl (Num.bN M (s+1)):=by rw [Zd.out,Num.sV,if_neg (by unfold Num.eF;rw [hem];simp)]
    have hev:il (Num.bB p b al bl at')=.tuple #[.agg #[.bool false,.int .i64 0,.int .i64 0],.agg #[.bool false,.int .i64 0,.int .i64 0],.int .i64 4]:=by unfold il;rw [if_pos hem]
    rw [hev];clear hev;have DU:Hid _:=hlin;have Gu:Hid _:=hany;clear hlin hany
    gi_wp2_with fail
    exact ((WZ.out.step (af _ _)).step (af _ _)).post (by omega) DU.out Gu.out
   | false =>
    have hev:il (Num.bB p b al bl at')=.tuple #[.agg #[.bool (Num.bB p b al bl at').o,.int .i64 (Num.bB p b al bl at').n,.int .i64 (Num.bB p b al bl at').d],.agg #[.bool (Num.bB p b al bl at').o2,.int .i64 (Num.bB p b al bl at').n2,.int .i64 (Num.bB p b al bl at').d2],.int .i64 0]:=by unfold il;rw [if_neg (by rw [hem];simp)]
    rw [hev];clear hev;have Lj:Num.eF p b al bl at'=true:=by unfold Num.eF;rw [hgood,hem];rfl
    have DU:Hid (Num.bJ p b al bl (Num.bN M s)=Num.joinedN (Num.bJ p b al bl (Num.bN M (s+1))) (Num.bU p b al bl at')):=by show _=_;rw [Zd.out,Num.sV,if_pos Lj]
    obtain ⟨u,v,eW1,mW1,_⟩:=Num.nP CX.out at' ((Num.iY p at' al bl CX.out.may CX.out.hm CX.out.hn).1 ⟨Ac.out,hneg⟩) p.costs CX.out.hn.symm (p.aj CX.out.may).2.1;obtain ⟨u2,v2,eW2,mW2,_⟩:=Num.nP CX.out at' ((Num.iY p at' al bl CX.out.may CX.out.hm CX.out.hn).1 ⟨Ac.out,hneg⟩) b CX.out.hb ((Num.aD p b).aj CX.out.FI).2.1;have Uj:=CX.out.sM at' Lj;have Uk:=CX.out.toOk at' Lj;have hpc:Num.bU p b al bl at'=⟨Num.qw (Num.bB p b al bl at'),Num.PX (Num.bB p b al bl at'),u,v,u2,v2⟩:=by unfold Num.bU Num.rH Num.nz;rw [eW1,eW2]
    have xq:Hid _:=Num.mU CX.out (Num.bN M (s+1));have Gu:Hid _:=hany;clear hany hem Lj;generalize Num.bB p b al bl at'=SS at *;obtain ⟨so,sn,sd,gZ,eZ,jo,Ud⟩:=SS;simp only [Num.qw,Num.PX] at Uj Uk hpc;rw [hpc] at DU;have Nq:Hid _:=Uj;have Nr:Hid _:=Uk;have Zh:Num.xk ⟨⟨so,sn,sd⟩,⟨gZ,eZ,jo⟩,u,v,u2,v2⟩:=Li _ Uj Uk mW1 mW2;have Ns:Hid _:=Zh;clear hpc Uj Uk Zh
    gi_wp2_with fail
    have hFT:Bx w3.heap.size [.bool so,.int .i64 sn,.int .i64 sd] ((w3.alloc (.cells #[.bool so,.int .i64 sn,.int .i64 sd] 88)).alloc (.cells #[.bool gZ,.int .i64 eZ,.int .i64 jo] 88)):=(Bx.new rfl _ _).step (af _ _);have hTT:Bx (w3.heap.size+1) [.bool gZ,.int .i64 eZ,.int .i64 jo] ((w3.alloc (.cells #[.bool so,.int .i64 sn,.int .i64 sd] 88)).alloc (.cells #[.bool gZ,.int .i64 eZ,.int .i64 jo] 88)):=Bx.new (by simp) _ _;have hb5:=ai (af w3 (.cells #[.bool so,.int .i64 sn,.int .i64 sd] 88)) (af _ (.cells #[.bool gZ,.int .i64 eZ,.int .i64 jo] 88));have hw3:w2.heap.size+1 < w3.heap.size:=WZ.out.lt;generalize (w3.alloc (.cells #[.bool so,.int .i64 sn,.int .i64 sd] 88)).alloc (.cells #[.bool gZ,.int .i64 eZ,.int .i64 jo] 88)=V at *;have Nt:Hid _:=WZ.out.step hb5;have s7:=carry hb5 s5;have s8:=carry hb5 s6;have Zi:Hid _:=Ints.below Nc.out hb5 (Nat.le_refl _);have HFT:Hid _:=hFT;have XB:Hid _:=hTT;obtain ⟨_,_,_,_,hxb,_⟩:=Num.bK p at' al bl CX.out.may CX.out.hm CX.out.hn WJ.out CY.out;have HXB:Hid (∀j:Nat,-1073741824<=(Num.look p at').x[j]?.getD 0/\(Num.look p at').x[j]?.getD 0<=1073741824):=fun j=>by have:=hxb j;omega
    have ak6:Hid _:=eW1;have ak7:Hid _:=eW2;have aJ5:Hid _:=mW1;have aJ6:Hid _:=mW2;have K1:Hid (∀w',Below V.heap.size V w'->Calls Tryz.prog 105 #[.slice ca bl cc,.agg #[.slice xa (bl+al) xc,.int .i64 (Num.look p at').xd]] w' fun e w''=>e=.returned (.agg #[.int .i64 u,.int .i64 v])/\Below V.heap.size V w''/\Below w'.heap.size w' w''):=by intro w' h;have hB:=ai Nt.out.bl.dS h;exact (zA ca bl cc p.costs xa (bl+al) xc (Num.look p at').x (Num.look p at').xd u v 0 w' (Ints.below HC.out hB (Nat.le_refl _)) (Ints.below Zi.out h (Nat.le_refl _)) (by omega) (by omega) (Num.aJ _ _ (p.aj CX.out.may).2.1 (by omega)) HXB.out ak6.out).mono fun _ _ k=>⟨k.1,ai h k.2,k.2⟩
    have K2:Hid (∀w',Below V.heap.size V w'->Calls Tryz.prog 105 #[.slice ba bl bc,.agg #[.slice xa (bl+al) xc,.int .i64 (Num.look p at').xd]] w' fun e w''=>e=.returned (.agg #[.int .i64 u2,.int .i64 v2])/\Below V.heap.size V w''/\Below w'.heap.size w' w''):=by intro w' h;have hB:=ai Nt.out.bl.dS h;exact (zA ba bl bc b xa (bl+al) xc (Num.look p at').x (Num.look p at').xd u2 v2 0 w' (Ints.below WY.out hB (Nat.le_refl _)) (Ints.below Zi.out h (Nat.le_refl _)) (by omega) (by omega) (Num.aJ _ _ ((Num.aD p b).aj CX.out.FI).2.1 (by omega)) HXB.out ak7.out).mono fun _ _ k=>⟨k.1,ai h k.2,k.2⟩
    have HBP:Hid _:=Nt.out.bl;have q0:∀w',Below V.heap.size V w'->w'.cell? ⟨w.heap.size,0,none⟩=some (.slice ca bl cc):=fun w' h=>carry h (HBP.out.pb.c 0 _ rfl);have q1:∀w',Below V.heap.size V w'->w'.cell? ⟨w.heap.size+1,0,none⟩=some (.slice ba bl bc):=fun w' h=>carry h (HBP.out.bb.c 0 _ rfl);have q2:∀w',Below V.heap.size V w'->w'.cell? ⟨bc2,0,none⟩=some (.slice xa (bl+al) xc):=fun w' h=>carry h s7;have q3:∀w',Below V.heap.size V w'->w'.cell? ⟨bc2,1,none⟩=some (.int .i64 (Num.look p at').xd):=fun w' h=>carry h s8;clear hFT hTT hb5 s5 s6 Nc eW1 eW2 mW1 mW2 hxb;refine zu (S:=fun w'=>Below V.heap.size V w') (by rintro ⟨a0,w0,h⟩;exact h) rfl (by kernel_rfl) ((Below.refl _ _).drew) (fun hHeld=>?_);refine rJ (i:=0) (v:=?_) rfl (by kernel_rfl) (by kernel_rfl) (by kernel_rfl) (fun _ _ _ h=>h) (Or.inl ⟨by rfl,?_⟩) (by assumption) ?_;rotate_left
    ·(intro w' hSw;go_simp;(try with_reducible rfl))
    simp only [Act.put,List.setIfInBounds_toArray,List.set_cons_zero,List.set_cons_succ];refine rJ (i:=1) (v:=?_) rfl (by kernel_rfl) (by kernel_rfl) (by kernel_rfl) (fun _ _ _ h=>h) (Or.inl ⟨by rfl,?_⟩) (by assumption) ?_;rotate_left
    ·(intro w' hSw;go_simp;(try with_reducible rfl))
    simp only [Act.put,List.setIfInBounds_toArray,List.set_cons_zero,List.set_cons_succ];refine rJ (i:=2) (v:=?_) rfl (by kernel_rfl) (by kernel_rfl) (by kernel_rfl) (fun _ _ _ h=>h) (Or.inl ⟨by rfl,?_⟩) (by assumption) ?_;rotate_left
    ·(intro w' hSw;go_simp;(try with_reducible rfl))
    simp only [Act.put,List.setIfInBounds_toArray,List.set_cons_zero,List.set_cons_succ];refine rJ (i:=3) (v:=?_) rfl (by kernel_rfl) (by kernel_rfl) (by kernel_rfl) (fun _ _ _ h=>h) (Or.inl ⟨by rfl,?_⟩) (by assumption) ?_;rotate_left
    ·(intro w' hSw;go_simp;(try with_reducible rfl))
    simp only [Act.put,List.setIfInBounds_toArray,List.set_cons_zero,List.set_cons_succ];refine rJ (i:=5) (v:=?_) rfl (by kernel_rfl) (by kernel_rfl) (by kernel_rfl) (fun _ _ _ h=>h) (Or.inl ⟨by rfl,?_⟩) (by assumption) ?_;rotate_left
    ·(intro w' hSw;go_simp;(try with_reducible rfl))
    simp only [Act.put,List.setIfInBounds_toArray,List.set_cons_zero,List.set_cons_succ];refine rJ (i:=6) (v:=?_) rfl (by kernel_rfl) (by kernel_rfl) (by kernel_rfl) (fun _ _ _ h=>h) (Or.inl ⟨by rfl,?_⟩) (by assumption) ?_;rotate_left
    ·(intro w' hSw;go_simp;(try with_reducible rfl))
    simp only [Act.put,List.setIfInBounds_toArray,List.set_cons_zero,List.set_cons_succ];refine rJ (i:=7) (v:=?_) rfl (by kernel_rfl) (by kernel_rfl) (by kernel_rfl) (fun _ _ _ h=>h) (Or.inl ⟨by rfl,?_⟩) (by assumption) ?_;rotate_left
    ·(intro w' hSw;go_simp;(try with_reducible rfl))
    simp only [Act.put,List.setIfInBounds_toArray,List.set_cons_zero,List.set_cons_succ];refine wpAnyH_ready (rs:=[4,10]) (by kernel_rfl) (by simp) ?_;refine Ld rfl rfl (fun K hK=>?_) (fun K hK=>?_)
    ·skip
     go_simp;refine (K1.out _ (by assumption)).mono ?_;rintro e v1 ⟨rfl,hb1,hk1⟩;refine hK.out _ _ hb1 (fun hHeld=>?_);clear hK K;refine wpAnyH_ready (rs:=[8,10]) (by kernel_rfl) (by simp) ?_;refine Ld rfl rfl (fun K hK=>?_) (fun K hK=>?_)
     ·skip
      go_simp;refine (K2.out _ (by assumption)).mono ?_;rintro e Ll ⟨rfl,hb2,hk2⟩;refine hK.out _ _ hb2 (fun hHeld=>?_);clear hK K;refine rJ (i:=9) (v:=?_) rfl (by kernel_rfl) (by kernel_rfl) (by kernel_rfl) (fun _ _ _ h=>h) (Or.inl ⟨by rfl,?_⟩) (by assumption) ?_;rotate_left
      ·(intro w' hSw;go_simp;(try with_reducible rfl))
      simp only [Act.put,List.setIfInBounds_toArray,List.set_cons_zero,List.set_cons_succ];refine wpAnyH_ready (rs:=[10]) (by kernel_rfl) (by simp) ?_;refine sS rfl (fun K hK=>?_);go_simp;refine hK.out _ _ ?_ (fun hHeld=>?_)
      ·exact Below.alloc hb2 hb2.size _
      clear hK K;refine wpAnyH_ready (rs:=[11]) (by kernel_rfl) (by simp) ?_;refine sS rfl (fun K hK=>?_);go_simp;refine hK.out _ _ ?_ (fun hHeld=>?_)
      ·exact Below.alloc hb2 hb2.size _
      clear hK K;refine wpAnyH_done (by kernel_rfl) ?_ _;have Jh:Bx Ll.heap.size [.int .i64 u,.int .i64 v,.int .i64 u2,.int .i64 v2] (Ll.alloc (.cells #[.int .i64 u,.int .i64 v,.int .i64 u2,.int .i64 v2] 164)):=Bx.new rfl _ _;have QZ:Below V.heap.size V (Ll.alloc (.cells #[.int .i64 u,.int .i64 v,.int .i64 u2,.int .i64 v2] 164)):=Below.alloc hb2 hb2.size _;have hnb:V.heap.size<=Ll.heap.size:=hb2.size;clear q0 q1 q2 q3 K1 K2 hHeld;generalize Ll.alloc (.cells #[.int .i64 u,.int .i64 v,.int .i64 u2,.int .i64 v2] 164)=X at *;generalize Ll.heap.size=nb at *;have vN:=Nt.out.step QZ;have Vo:=HFT.out.step QZ;have Vp:=XB.out.step QZ;have hX0:w2.heap.size+1 < X.heap.size:=vN.lt;obtain ⟨f0,f1,f2,-⟩:=Vo.aY;obtain ⟨t0,t1,t2,-⟩:=Vp.aY;obtain ⟨n0,n1,n2,n3,-⟩:=Jh.zD;have m0:=vN.bl.mb.c 0 _ rfl;have hW:=Bx.new (w:=X) rfl [.bool so,.int .i64 sn,.int .i64 sd,.bool gZ,.int .i64 eZ,.int .i64 jo] 166;have Vq:=Jh.step (af X (.cells #[.bool so,.int .i64 sn,.int .i64 sd,.bool gZ,.int .i64 eZ,.int .i64 jo] 166));have hBW:=vN.step (af X (.cells #[.bool so,.int .i64 sn,.int .i64 sd,.bool gZ,.int .i64 eZ,.int .i64 jo] 166));have hnX:nb < X.heap.size:=Jh.lt;have hwX:w.heap.size+1+1+1 < X.heap.size:=vN.bl.mb.lt;have Lm:Hid _:=Vq;have BK:Hid _:=hBW;have HW:Hid _:=hW;have hlk:=hBW.bl.mp.look ⟨⟨so,sn,sd⟩,⟨gZ,eZ,jo⟩,u,v,u2,v2⟩ Ns.out;simp only [dP] at hlk;clear Vo Vp Jh vN hW Vq hBW;rcases hlk with ⟨y,hy,hsame,mX⟩|⟨hnone,mX⟩
      ·have Q0:=xq.out.K3 CX.out y hy;have Q3:=xq.out.K4 CX.out y hy;have HJ:Hid (Num.joinedN (Num.bJ p b al bl (Num.bN M (s+1))) ⟨⟨so,sn,sd⟩,⟨gZ,eZ,jo⟩,u,v,u2,v2⟩=Num.updN (Num.bJ p b al bl (Num.bN M (s+1))) (Num.dF y ⟨⟨so,sn,sd⟩,⟨gZ,eZ,jo⟩,u,v,u2,v2⟩)):=Num.zh _ _ y xq.out.one hy hsame;have zH:=xq.out.nums CX.out y hy;have Q4:Hid (Num.xk (Num.dF y ⟨⟨so,sn,sd⟩,⟨gZ,eZ,jo⟩,u,v,u2,v2⟩)):=Li _ (Num.zG _ _ Q0 Nq.out) (Num.vW _ _ Q3 Nr.out) zH.1 zH.2.1;have Vr:Hid (dP (Num.dF y ⟨⟨so,sn,sd⟩,⟨gZ,eZ,jo⟩,u,v,u2,v2⟩)=.agg #[.int .i64 u,.int .i64 v,.int .i64 u2,.int .i64 v2]):=(qy (x:=Num.dF y ⟨⟨so,sn,sd⟩,⟨gZ,eZ,jo⟩,u,v,u2,v2⟩) (y:=⟨⟨so,sn,sd⟩,⟨gZ,eZ,jo⟩,u,v,u2,v2⟩)).2 hsame;have Zj:Hid _:=Q0;have Zk:Hid _:=Q3;simp only [gQ] at mX;clear Q0 Q3 hy hsame zH
       gi_wp2_with fail
       refine iq ((oI y ⟨⟨so,sn,sd⟩,⟨gZ,eZ,jo⟩,u,v,u2,v2⟩ Zj.out Zk.out Nq.out Nr.out _).mono ?_);rintro e w6 ⟨rfl,hb6⟩;have Q5:=(HW.out.step (af _ _)).step hb6;have Vs:=(Lm.out.step (af _ _)).step hb6;have CV:=(BK.out.step (af _ _)).step hb6;have hX6:X.heap.size+1 < w6.heap.size:=by have:=hb6.size;simp at this;omega
       generalize Num.dF y ⟨⟨so,sn,sd⟩,⟨gZ,eZ,jo⟩,u,v,u2,v2⟩=Z at *;have rZ:=(((((CV.set (by have:=HS2.out;omega) X.heap.size hX0 0 (.bool Z.f.o)).set (by have:=HS2.out;omega) X.heap.size hX0 1 (.int .i64 Z.f.n)).set (by have:=HS2.out;omega) X.heap.size hX0 2 (.int .i64 Z.f.d)).set (by have:=HS2.out;omega) X.heap.size hX0 3 (.bool Z.t.o)).set (by have:=HS2.out;omega) X.heap.size hX0 4 (.int .i64 Z.t.n)).set (by have:=HS2.out;omega) X.heap.size hX0 5 (.int .i64 Z.t.d);have Gv:=(((((Q5.set 0 (.bool Z.f.o)).set 1 (.int .i64 Z.f.n)).set 2 (.int .i64 Z.f.d)).set 3 (.bool Z.t.o)).set 4 (.int .i64 Z.t.n)).set 5 (.int .i64 Z.t.d);have Gw:=Vs.Jd (show nb≠X.heap.size by omega) (.bool Z.f.o) (.int .i64 Z.f.n) (.int .i64 Z.f.d) (.bool Z.t.o) (.int .i64 Z.t.n) (.int .i64 Z.t.d);obtain ⟨⟨c0,c1,c2,c3,c4,c5⟩,g0,g1,g2,g3,g4,g5⟩:=Q5.fH;obtain ⟨o1,hput,hmap⟩:=rZ.bl.mp.put Z Q4.out;have jB:Hid _:=(rZ.put HS2.out o1 _ hmap).post (M:=M) (s:=s) (by omega) (DU.out.trans HJ.out) Gu.out;rw [Vr.out] at hput;have m7:=rZ.bl.mb.c 0 _ rfl;obtain ⟨d0,d1,d2,d3,-⟩:=Gw.zD;obtain ⟨⟨e0,e1,e2,e3,e4,e5⟩,-⟩:=Bx.fH Gv;simp only [gQ] at hput ⊢;clear mX Q5 Vs CV Gv Gw rZ hmap Vr HJ hb6 n0 n1 n2 n3 m0 f0 f1 f2 t0 t1 t2 HW Lm BK
       gi_wp2_with fail
       exact jB.out
      ·have HJ:Hid (Num.joinedN (Num.bJ p b al bl (Num.bN M (s+1))) ⟨⟨so,sn,sd⟩,⟨gZ,eZ,jo⟩,u,v,u2,v2⟩=Num.updN (Num.bJ p b al bl (Num.bN M (s+1))) ⟨⟨so,sn,sd⟩,⟨gZ,eZ,jo⟩,u,v,u2,v2⟩):=(Num.join_none _ _ hnone).trans (Num.uH _ _ hnone).symm;simp only [gQ,BH] at mX;have hbk:=af (X.alloc (.cells #[.bool so,.int .i64 sn,.int .i64 sd,.bool gZ,.int .i64 eZ,.int .i64 jo] 166)) (.cells #[.bool false,.int .i64 0,.int .i64 0,.bool false,.int .i64 0,.int .i64 0] 166);have rZ:=BK.out.step hbk;have Gv:=HW.out.step hbk;have Gw:=Lm.out.step hbk;obtain ⟨o1,hput,hmap⟩:=rZ.bl.mp.put ⟨⟨so,sn,sd⟩,⟨gZ,eZ,jo⟩,u,v,u2,v2⟩ Ns.out;have jB:Hid _:=(rZ.put HS2.out o1 _ hmap).post (M:=M) (s:=s) (by omega) (DU.out.trans HJ.out) Gu.out;have m7:=rZ.bl.mb.c 0 _ rfl;obtain ⟨d0,d1,d2,d3,-⟩:=Gw.zD;obtain ⟨⟨e0,e1,e2,e3,e4,e5⟩,-⟩:=Gv.fH;simp only [gQ,dP] at hput;clear hnone Gv Gw rZ hmap HJ hbk HW Lm BK
       gi_wp2_with fail
       exact jB.out
     ·skip
      go_simp;refine hK.out _ _ ?_ (fun hHeld=>?_)
      ·exact Below.alloc hb1 hb1.size _
      clear hK K;refine wpAnyH_ready (rs:=[8]) (by kernel_rfl) (by simp) ?_;refine sS rfl (fun K hK=>?_);go_simp;refine (K2.out _ (by assumption)).mono ?_;rintro e Ll ⟨rfl,hb2,hk2⟩;refine hK.out _ _ hb2 (fun hHeld=>?_);clear hK K;have Zl:=(Bx.new (w:=v1) rfl [.int .i64 0,.int .i64 0,.int .i64 0,.int .i64 0] 164).step hk2;obtain ⟨y0,y1,y2,y3,f0,f1,f2,f3⟩:=Zl.zD;refine rJ (i:=9) (v:=?_) rfl (by kernel_rfl) (by kernel_rfl) (by kernel_rfl) (fun _ _ _ h=>h) (Or.inl ⟨by rfl,?_⟩) (by assumption) ?_;rotate_left
      ·(intro w' hSw;go_simp;(try with_reducible rfl))
      simp only [Act.put,List.setIfInBounds_toArray,List.set_cons_zero,List.set_cons_succ];refine wpAnyH_ready (rs:=[11]) (by kernel_rfl) (by simp) ?_;refine sS rfl (fun K hK=>?_);go_simp;refine hK.out _ _ ?_ (fun hHeld=>?_)
      ·exact aV (aV (aV (aV hb2 hb1.size _) hb1.size _) hb1.size _) hb1.size _
      clear hK K;refine wpAnyH_done (by kernel_rfl) ?_ _;have Jh:Bx v1.heap.size [.int .i64 u,.int .i64 v,.int .i64 u2,.int .i64 v2] ((((Ll.setCell ⟨v1.heap.size,0,none⟩ (.int .i64 u)).setCell ⟨v1.heap.size,1,none⟩ (.int .i64 v)).setCell ⟨v1.heap.size,2,none⟩ (.int .i64 u2)).setCell ⟨v1.heap.size,3,none⟩ (.int .i64 v2)):=(((Zl.set 0 _).set 1 _).set 2 _).set 3 _;have QZ:Below V.heap.size V ((((Ll.setCell ⟨v1.heap.size,0,none⟩ (.int .i64 u)).setCell ⟨v1.heap.size,1,none⟩ (.int .i64 v)).setCell ⟨v1.heap.size,2,none⟩ (.int .i64 u2)).setCell ⟨v1.heap.size,3,none⟩ (.int .i64 v2)):=aV (aV (aV (aV hb2 hb1.size _) hb1.size _) hb1.size _) hb1.size _;have hnb:V.heap.size<=v1.heap.size:=hb1.size;clear q0 q1 q2 q3 K1 K2 hHeld;generalize (((Ll.setCell ⟨v1.heap.size,0,none⟩ (.int .i64 u)).setCell ⟨v1.heap.size,1,none⟩ (.int .i64 v)).setCell ⟨v1.heap.size,2,none⟩ (.int .i64 u2)).setCell ⟨v1.heap.size,3,none⟩ (.int .i64 v2)=X at *;generalize v1.heap.size=nb at *;have vN:=Nt.out.step QZ;have Vo:=HFT.out.step QZ;have Vp:=XB.out.step QZ;have hX0:w2.heap.size+1 < X.heap.size:=vN.lt;obtain ⟨f0,f1,f2,-⟩:=Vo.aY;obtain ⟨t0,t1,t2,-⟩:=Vp.aY;obtain ⟨n0,n1,n2,n3,-⟩:=Jh.zD;have m0:=vN.bl.mb.c 0 _ rfl;have hW:=Bx.new (w:=X) rfl [.bool so,.int .i64 sn,.int .i64 sd,.bool gZ,.int .i64 eZ,.int .i64 jo] 166;have Vq:=Jh.step (af X (.cells #[.bool so,.int .i64 sn,.int .i64 sd,.bool gZ,.int .i64 eZ,.int .i64 jo] 166));have hBW:=vN.step (af X (.cells #[.bool so,.int .i64 sn,.int .i64 sd,.bool gZ,.int .i64 eZ,.int .i64 jo] 166));have hnX:nb < X.heap.size:=Jh.lt;have hwX:w.heap.size+1+1+1 < X.heap.size:=vN.bl.mb.lt;have Lm:Hid _:=Vq;have BK:Hid _:=hBW;have HW:Hid _:=hW;have hlk:=hBW.bl.mp.look ⟨⟨so,sn,sd⟩,⟨gZ,eZ,jo⟩,u,v,u2,v2⟩ Ns.out;simp only [dP] at hlk;clear Vo Vp Jh vN hW Vq hBW;rcases hlk with ⟨y,hy,hsame,mX⟩|⟨hnone,mX⟩
      ·have Q0:=xq.out.K3 CX.out y hy;have Q3:=xq.out.K4 CX.out y hy;have HJ:Hid (Num.joinedN (Num.bJ p b al bl (Num.bN M (s+1))) ⟨⟨so,sn,sd⟩,⟨gZ,eZ,jo⟩,u,v,u2,v2⟩=Num.updN (Num.bJ p b al bl (Num.bN M (s+1))) (Num.dF y ⟨⟨so,sn,sd⟩,⟨gZ,eZ,jo⟩,u,v,u2,v2⟩)):=Num.zh _ _ y xq.out.one hy hsame;have zH:=xq.out.nums CX.out y hy;have Q4:Hid (Num.xk (Num.dF y ⟨⟨so,sn,sd⟩,⟨gZ,eZ,jo⟩,u,v,u2,v2⟩)):=Li _ (Num.zG _ _ Q0 Nq.out) (Num.vW _ _ Q3 Nr.out) zH.1 zH.2.1;have Vr:Hid (dP (Num.dF y ⟨⟨so,sn,sd⟩,⟨gZ,eZ,jo⟩,u,v,u2,v2⟩)=.agg #[.int .i64 u,.int .i64 v,.int .i64 u2,.int .i64 v2]):=(qy (x:=Num.dF y ⟨⟨so,sn,sd⟩,⟨gZ,eZ,jo⟩,u,v,u2,v2⟩) (y:=⟨⟨so,sn,sd⟩,⟨gZ,eZ,jo⟩,u,v,u2,v2⟩)).2 hsame;have Zj:Hid _:=Q0;have Zk:Hid _:=Q3;simp only [gQ] at mX;clear Q0 Q3 hy hsame zH
       gi_wp2_with fail
       refine iq ((oI y ⟨⟨so,sn,sd⟩,⟨gZ,eZ,jo⟩,u,v,u2,v2⟩ Zj.out Zk.out Nq.out Nr.out _).mono ?_);rintro e w6 ⟨rfl,hb6⟩;have Q5:=(HW.out.step (af _ _)).step hb6;have Vs:=(Lm.out.step (af _ _)).step hb6;have CV:=(BK.out.step (af _ _)).step hb6;have hX6:X.heap.size+1 < w6.heap.size:=by have:=hb6.size;simp at this;omega
       generalize Num.dF y ⟨⟨so,sn,sd⟩,⟨gZ,eZ,jo⟩,u,v,u2,v2⟩=Z at *;have rZ:=(((((CV.set (by have:=HS2.out;omega) X.heap.size hX0 0 (.bool Z.f.o)).set (by have:=HS2.out;omega) X.heap.size hX0 1 (.int .i64 Z.f.n)).set (by have:=HS2.out;omega) X.heap.size hX0 2 (.int .i64 Z.f.d)).set (by have:=HS2.out;omega) X.heap.size hX0 3 (.bool Z.t.o)).set (by have:=HS2.out;omega) X.heap.size hX0 4 (.int .i64 Z.t.n)).set (by have:=HS2.out;omega) X.heap.size hX0 5 (.int .i64 Z.t.d);have Gv:=(((((Q5.set 0 (.bool Z.f.o)).set 1 (.int .i64 Z.f.n)).set 2 (.int .i64 Z.f.d)).set 3 (.bool Z.t.o)).set 4 (.int .i64 Z.t.n)).set 5 (.int .i64 Z.t.d);have Gw:=Vs.Jd (show nb≠X.heap.size by omega) (.bool Z.f.o) (.int .i64 Z.f.n) (.int .i64 Z.f.d) (.bool Z.t.o) (.int .i64 Z.t.n) (.int .i64 Z.t.d);obtain ⟨⟨c0,c1,c2,c3,c4,c5⟩,g0,g1,g2,g3,g4,g5⟩:=Q5.fH;obtain ⟨o1,hput,hmap⟩:=rZ.bl.mp.put Z Q4.out;have jB:Hid _:=(rZ.put HS2.out o1 _ hmap).post (M:=M) (s:=s) (by omega) (DU.out.trans HJ.out) Gu.out;rw [Vr.out] at hput;have m7:=rZ.bl.mb.c 0 _ rfl;obtain ⟨d0,d1,d2,d3,-⟩:=Gw.zD;obtain ⟨⟨e0,e1,e2,e3,e4,e5⟩,-⟩:=Bx.fH Gv;simp only [gQ] at hput ⊢;clear mX Q5 Vs CV Gv Gw rZ hmap Vr HJ hb6 n0 n1 n2 n3 m0 f0 f1 f2 t0 t1 t2 HW Lm BK
       gi_wp2_with fail
       exact jB.out
      ·have HJ:Hid (Num.joinedN (Num.bJ p b al bl (Num.bN M (s+1))) ⟨⟨so,sn,sd⟩,⟨gZ,eZ,jo⟩,u,v,u2,v2⟩=Num.updN (Num.bJ p b al bl (Num.bN M (s+1))) ⟨⟨so,sn,sd⟩,⟨gZ,eZ,jo⟩,u,v,u2,v2⟩):=(Num.join_none _ _ hnone).trans (Num.uH _ _ hnone).symm;simp only [gQ,BH] at mX;have hbk:=af (X.alloc (.cells #[.bool so,.int .i64 sn,.int .i64 sd,.bool gZ,.int .i64 eZ,.int .i64 jo] 166)) (.cells #[.bool false,.int .i64 0,.int .i64 0,.bool false,.int .i64 0,.int .i64 0] 166);have rZ:=BK.out.step hbk;have Gv:=HW.out.step hbk;have Gw:=Lm.out.step hbk;obtain ⟨o1,hput,hmap⟩:=rZ.bl.mp.put ⟨⟨so,sn,sd⟩,⟨gZ,eZ,jo⟩,u,v,u2,v2⟩ Ns.out;have jB:Hid _:=(rZ.put HS2.out o1 _ hmap).post (M:=M) (s:=s) (by omega) (DU.out.trans HJ.out) Gu.out;have m7:=rZ.bl.mb.c 0 _ rfl;obtain ⟨d0,d1,d2,d3,-⟩:=Gw.zD;obtain ⟨⟨e0,e1,e2,e3,e4,e5⟩,-⟩:=Gv.fH;simp only [gQ,dP] at hput;clear hnone Gv Gw rZ hmap HJ hbk HW Lm BK
       gi_wp2_with fail
       exact jB.out
    ·skip
     go_simp;refine hK.out _ _ ?_ (fun hHeld=>?_)
     ·exact ((Below.refl _ _).drew).alloc (Nat.le_refl _) _
     clear hK K;refine wpAnyH_ready (rs:=[4]) (by kernel_rfl) (by simp) ?_;refine sS rfl (fun K hK=>?_);go_simp;refine (K1.out _ (by assumption)).mono ?_;rintro e v1 ⟨rfl,hb1,hk1⟩;refine hK.out _ _ hb1 (fun hHeld=>?_);clear hK K;refine wpAnyH_ready (rs:=[8]) (by kernel_rfl) (by simp) ?_;refine sS rfl (fun K hK=>?_);go_simp;refine (K2.out _ (by assumption)).mono ?_;rintro e Ll ⟨rfl,hb2,hk2⟩;refine hK.out _ _ hb2 (fun hHeld=>?_);clear hK K;have Zl:=((Bx.new (b:=V.heap.size) (w:=V.drew) rfl [.int .i64 0,.int .i64 0,.int .i64 0,.int .i64 0] 164).step hk1).step hk2;obtain ⟨y0,y1,y2,y3,f0,f1,f2,f3⟩:=Zl.zD;refine rJ (i:=9) (v:=?_) rfl (by kernel_rfl) (by kernel_rfl) (by kernel_rfl) (fun _ _ _ h=>h) (Or.inl ⟨by rfl,?_⟩) (by assumption) ?_;rotate_left
     ·(intro w' hSw;go_simp;(try with_reducible rfl))
     simp only [Act.put,List.setIfInBounds_toArray,List.set_cons_zero,List.set_cons_succ];refine wpAnyH_ready (rs:=[11]) (by kernel_rfl) (by simp) ?_;refine sS rfl (fun K hK=>?_);go_simp;refine hK.out _ _ ?_ (fun hHeld=>?_)
     ·exact aV (aV (aV (aV hb2 (Nat.le_refl _) _) (Nat.le_refl _) _) (Nat.le_refl _) _) (Nat.le_refl _) _
     clear hK K;refine wpAnyH_done (by kernel_rfl) ?_ _;have Jh:Bx V.heap.size [.int .i64 u,.int .i64 v,.int .i64 u2,.int .i64 v2] ((((Ll.setCell ⟨V.heap.size,0,none⟩ (.int .i64 u)).setCell ⟨V.heap.size,1,none⟩ (.int .i64 v)).setCell ⟨V.heap.size,2,none⟩ (.int .i64 u2)).setCell ⟨V.heap.size,3,none⟩ (.int .i64 v2)):=(((Zl.set 0 _).set 1 _).set 2 _).set 3 _;have QZ:Below V.heap.size V ((((Ll.setCell ⟨V.heap.size,0,none⟩ (.int .i64 u)).setCell ⟨V.heap.size,1,none⟩ (.int .i64 v)).setCell ⟨V.heap.size,2,none⟩ (.int .i64 u2)).setCell ⟨V.heap.size,3,none⟩ (.int .i64 v2)):=aV (aV (aV (aV hb2 (Nat.le_refl _) _) (Nat.le_refl _) _) (Nat.le_refl _) _) (Nat.le_refl _) _;have hnb:V.heap.size<=V.heap.size:=Nat.le_refl _;clear q0 q1 q2 q3 K1 K2 hHeld;generalize (((Ll.setCell ⟨V.heap.size,0,none⟩ (.int .i64 u)).setCell ⟨V.heap.size,1,none⟩ (.int .i64 v)).setCell ⟨V.heap.size,2,none⟩ (.int .i64 u2)).setCell ⟨V.heap.size,3,none⟩ (.int .i64 v2)=X at *;obtain ⟨nb,enb⟩ : ∃nb,V.heap.size=nb:=⟨_,rfl⟩;rw [enb] at Jh hnb ⊢;have vN:=Nt.out.step QZ;have Vo:=HFT.out.step QZ;have Vp:=XB.out.step QZ;have hX0:w2.heap.size+1 < X.heap.size:=vN.lt;obtain ⟨f0,f1,f2,-⟩:=Vo.aY;obtain ⟨t0,t1,t2,-⟩:=Vp.aY;obtain ⟨n0,n1,n2,n3,-⟩:=Jh.zD;have m0:=vN.bl.mb.c 0 _ rfl;have hW:=Bx.new (w:=X) rfl [.bool so,.int .i64 sn,.int .i64 sd,.bool gZ,.int .i64 eZ,.int .i64 jo] 166;have Vq:=Jh.step (af X (.cells #[.bool so,.int .i64 sn,.int .i64 sd,.bool gZ,.int .i64 eZ,.int .i64 jo] 166));have hBW:=vN.step (af X (.cells #[.bool so,.int .i64 sn,.int .i64 sd,.bool gZ,.int .i64 eZ,.int .i64 jo] 166));have hnX:nb < X.heap.size:=Jh.lt;have hwX:w.heap.size+1+1+1 < X.heap.size:=vN.bl.mb.lt;have Lm:Hid _:=Vq;have BK:Hid _:=hBW;have HW:Hid _:=hW;have hlk:=hBW.bl.mp.look ⟨⟨so,sn,sd⟩,⟨gZ,eZ,jo⟩,u,v,u2,v2⟩ Ns.out;simp only [dP] at hlk;clear Vo Vp Jh vN hW Vq hBW;rcases hlk with ⟨y,hy,hsame,mX⟩|⟨hnone,mX⟩
     ·have Q0:=xq.out.K3 CX.out y hy;have Q3:=xq.out.K4 CX.out y hy;have HJ:Hid (Num.joinedN (Num.bJ p b al bl (Num.bN M (s+1))) ⟨⟨so,sn,sd⟩,⟨gZ,eZ,jo⟩,u,v,u2,v2⟩=Num.updN (Num.bJ p b al bl (Num.bN M (s+1))) (Num.dF y ⟨⟨so,sn,sd⟩,⟨gZ,eZ,jo⟩,u,v,u2,v2⟩)):=Num.zh _ _ y xq.out.one hy hsame;have zH:=xq.out.nums CX.out y hy;have Q4:Hid (Num.xk (Num.dF y ⟨⟨so,sn,sd⟩,⟨gZ,eZ,jo⟩,u,v,u2,v2⟩)):=Li _ (Num.zG _ _ Q0 Nq.out) (Num.vW _ _ Q3 Nr.out) zH.1 zH.2.1;have Vr:Hid (dP (Num.dF y ⟨⟨so,sn,sd⟩,⟨gZ,eZ,jo⟩,u,v,u2,v2⟩)=.agg #[.int .i64 u,.int .i64 v,.int .i64 u2,.int .i64 v2]):=(qy (x:=Num.dF y ⟨⟨so,sn,sd⟩,⟨gZ,eZ,jo⟩,u,v,u2,v2⟩) (y:=⟨⟨so,sn,sd⟩,⟨gZ,eZ,jo⟩,u,v,u2,v2⟩)).2 hsame;have Zj:Hid _:=Q0;have Zk:Hid _:=Q3;simp only [gQ] at mX;clear Q0 Q3 hy hsame zH
      gi_wp2_with fail
      refine iq ((oI y ⟨⟨so,sn,sd⟩,⟨gZ,eZ,jo⟩,u,v,u2,v2⟩ Zj.out Zk.out Nq.out Nr.out _).mono ?_);rintro e w6 ⟨rfl,hb6⟩;have Q5:=(HW.out.step (af _ _)).step hb6;have Vs:=(Lm.out.step (af _ _)).step hb6;have CV:=(BK.out.step (af _ _)).step hb6;have hX6:X.heap.size+1 < w6.heap.size:=by have:=hb6.size;simp at this;omega
      generalize Num.dF y ⟨⟨so,sn,sd⟩,⟨gZ,eZ,jo⟩,u,v,u2,v2⟩=Z at *;have rZ:=(((((CV.set (by have:=HS2.out;omega) X.heap.size hX0 0 (.bool Z.f.o)).set (by have:=HS2.out;omega) X.heap.size hX0 1 (.int .i64 Z.f.n)).set (by have:=HS2.out;omega) X.heap.size hX0 2 (.int .i64 Z.f.d)).set (by have:=HS2.out;omega) X.heap.size hX0 3 (.bool Z.t.o)).set (by have:=HS2.out;omega) X.heap.size hX0 4 (.int .i64 Z.t.n)).set (by have:=HS2.out;omega) X.heap.size hX0 5 (.int .i64 Z.t.d);have Gv:=(((((Q5.set 0 (.bool Z.f.o)).set 1 (.int .i64 Z.f.n)).set 2 (.int .i64 Z.f.d)).set 3 (.bool Z.t.o)).set 4 (.int .i64 Z.t.n)).set 5 (.int .i64 Z.t.d);have Gw:=Vs.Jd (show nb≠X.heap.size by omega) (.bool Z.f.o) (.int .i64 Z.f.n) (.int .i64 Z.f.d) (.bool Z.t.o) (.int .i64 Z.t.n) (.int .i64 Z.t.d);obtain ⟨⟨c0,c1,c2,c3,c4,c5⟩,g0,g1,g2,g3,g4,g5⟩:=Q5.fH;obtain ⟨o1,hput,hmap⟩:=rZ.bl.mp.put Z Q4.out;have jB:Hid _:=(rZ.put HS2.out o1 _ hmap).post (M:=M) (s:=s) (by omega) (DU.out.trans HJ.out) Gu.out;rw [Vr.out] at hput;have m7:=rZ.bl.mb.c 0 _ rfl;obtain ⟨d0,d1,d2,d3,-⟩:=Gw.zD;obtain ⟨⟨e0,e1,e2,e3,e4,e5⟩,-⟩:=Bx.fH Gv;simp only [gQ] at hput ⊢;clear mX Q5 Vs CV Gv Gw rZ hmap Vr HJ hb6 n0 n1 n2 n3 m0 f0 f1 f2 t0 t1 t2 HW Lm BK
      gi_wp2_with fail
      exact jB.out
     ·have HJ:Hid (Num.joinedN (Num.bJ p b al bl (Num.bN M (s+1))) ⟨⟨so,sn,sd⟩,⟨gZ,eZ,jo⟩,u,v,u2,v2⟩=Num.updN (Num.bJ p b al bl (Num.bN M (s+1))) ⟨⟨so,sn,sd⟩,⟨gZ,eZ,jo⟩,u,v,u2,v2⟩):=(Num.join_none _ _ hnone).trans (Num.uH _ _ hnone).symm;simp only [gQ,BH] at mX;have hbk:=af (X.alloc (.cells #[.bool so,.int .i64 sn,.int .i64 sd,.bool gZ,.int .i64 eZ,.int .i64 jo] 166)) (.cells #[.bool false,.int .i64 0,.int .i64 0,.bool false,.int .i64 0,.int .i64 0] 166);have rZ:=BK.out.step hbk;have Gv:=HW.out.step hbk;have Gw:=Lm.out.step hbk;obtain ⟨o1,hput,hmap⟩:=rZ.bl.mp.put ⟨⟨so,sn,sd⟩,⟨gZ,eZ,jo⟩,u,v,u2,v2⟩ Ns.out;have jB:Hid _:=(rZ.put HS2.out o1 _ hmap).post (M:=M) (s:=s) (by omega) (DU.out.trans HJ.out) Gu.out;have m7:=rZ.bl.mb.c 0 _ rfl;obtain ⟨d0,d1,d2,d3,-⟩:=Gw.zD;obtain ⟨⟨e0,e1,e2,e3,e4,e5⟩,-⟩:=Gv.fH;simp only [gQ,dP] at hput;clear hnone Gv Gw rZ hmap HJ hbk HW Lm BK
      gi_wp2_with fail
      exact jB.out
open Go.RowKit
namespace Num
theorem BR (p:Lp) (b:List Int) (h:p.may=true) (hb:(aD p b).may=true) : b.length=p.costs.length/\aB 400 b=true:=by
 obtain ⟨_,_,h3,h4⟩:=p.aj h;obtain ⟨_,g2,_,g4⟩:=(aD p b).aj hb;refine ⟨?_,g2⟩;cases hr:p.rows with
 | nil=>rw [hr] at h3;simp at h3
 | cons x r =>have e1:p.rows.all (iL b.length)=true:=g4;rw [hr,List.all_cons,Bool.and_eq_true] at h4 e1;have a1:=h4.1;have a2:=e1.1;unfold iL at a1 a2;simp only [Bool.and_eq_true,beq_iff_eq] at a1 a2;omega
theorem Q6 (p:Lp) (m n:Nat) (h:p.may=true) (hm:m=p.rows.length) (hn:n=p.costs.length) : (bN (2 ^ (n+m)) 0).any (iP p)=true<->∃a,Good p a m n:=by
 have hb:=p.aj h;constructor
 ·intro ha;obtain ⟨a,_,hg⟩:=List.any_eq_true.1 ha;exact ⟨a,(jk p a m n h hm hn).1 hg⟩
 ·rintro ⟨a,hg⟩;obtain ⟨q,q0,q1,q2⟩:=vR a m n (by omega) (by omega) (by omega) (by omega) hg.right;exact List.any_eq_true.2 ⟨a,by rw [<-q2];exact QV _ q q0 q1,(jk p a m n h hm hn).2 hg⟩
theorem Ji (x:Pc) : ∀l:List Pc,(joinedN l x).length<=l.length+1:=by
 intro l
 induction l with
 | nil=>simp [joinedN]
 | cons y l ih =>
  unfold joinedN;split
  ·simp
  ·simp only [List.length_cons];omega
theorem Q7 (p:Lp) (b:List Int) (m n:Nat) : ∀(all:List (List Int)) (l:List Pc),(all.foldl (fun l a=>if eF p b m n a=true then joinedN l (bU p b m n a) else l) l).length<=l.length+all.length:=by
 intro all
 induction all with
 | nil=>intro l;simp
 | cons a all ih =>
  intro l;rw [List.foldl_cons];refine Nat.le_trans (ih _) ?_;rw [List.length_cons];split
  ·have:=Ji (bU p b m n a) l;omega
  ·omega
theorem BS (p:Lp) (b:List Int) (m n:Nat) (all:List (List Int)) : (bJ p b m n all).length<=all.length:=by have:=Q7 p b m n all [];simpa [bJ] using this
theorem Gx (M s:Nat) : (bN M s).length=M - 1 - s:=by simp [bN]
open Classical in
noncomputable def zI (L:List Pc) : List Pc:=if h:∃s:List Pc,s.Perm L/\s.Pairwise (fun y z=>¬ iQ z y) then h.choose else []
theorem Lr (L:List Pc) : (∀y∈zI L,y∈L)/\(zI L).length<=L.length:=by
 unfold zI;split
 ·rename_i h;exact ⟨fun y hy=>h.choose_spec.1.subset hy,Nat.le_of_eq h.choose_spec.1.length_eq⟩
 ·exact ⟨fun y hy=>(by cases hy),Nat.zero_le _⟩
theorem Gy (l:List Pc) : (∀y∈jK l,y∈l)/\(jK l).length<=l.length:=by
 unfold jK;split
 ·exact ⟨fun y hy=>List.mem_of_mem_take hy,by rw [List.length_take];omega⟩
 ·exact ⟨fun y hy=>(List.mem_filter.1 hy).1,List.length_filter_le _ _⟩
noncomputable def nC (p:Lp) (b:List Int) (m n:Nat) : List Pc:=jK (zI (bJ p b m n (bN (2 ^ (n+m)) 0)))
theorem Jj (p:Lp) (b:List Int) (m n:Nat) (y:Pc) (hy:y∈nC p b m n) : y∈bJ p b m n (bN (2 ^ (n+m)) 0) :=
 (Lr _).1 _ ((Gy _).1 _ hy)
theorem sW (p:Lp) (b:List Int) (m n:Nat) (cx:Ctx p b m n) : (nC p b m n).length<=1000:=by have h1:=(Gy (zI (bJ p b m n (bN (2 ^ (n+m)) 0)))).2;have h2:=(Lr (bJ p b m n (bN (2 ^ (n+m)) 0))).2;have h3:=BS p b m n (bN (2 ^ (n+m)) 0);rw [Gx] at h3;have:2 ^ (n+m)<=2 ^ 8:=Nat.pow_le_pow_right (by omega) (by have:=cx.h8;omega);unfold nC;omega
theorem Ul (p:Lp) (b:List Int) (m n:Nat) (cx:Ctx p b m n) (all:List (List Int)) (tC:List Pc) (hp:tC.Perm (bJ p b m n all)) (hs:tC.Pairwise fun y z=>¬ iQ z y) : tC=zI (bJ p b m n all):=by
 have hi:=MR cx all;have hc:=mU cx all;generalize bJ p b m n all=l at *;have hn:=DD hc.one;have key:∀s:List Pc,s.Perm l->s.Pairwise (fun y z=>¬ iQ z y)->s.Pairwise iQ:=by
  intro s h1 h2;have h3:s.Pairwise fun y z=>y≠z:=h1.nodup_iff.2 hn;refine ((h2.and h3).imp_of_mem ?_);intro y z hy hz hyz;by_cases hlt:iQ y z
  ·exact hlt
  ·exact absurd (MZ cx hi hc y z (h1.subset hy) (h1.subset hz) hlt hyz.1) hyz.2
 have hex:∃s:List Pc,s.Perm l/\s.Pairwise (fun y z=>¬ iQ z y):=⟨tC,hp,hs⟩;unfold zI;rw [dif_pos hex];exact II _ _ (hp.trans hex.choose_spec.1.symm) (key _ hp hs) (key _ hex.choose_spec.1 hex.choose_spec.2)
end Num
theorem Jk (ca:Option Addr) (cl cc:Nat) (ra:Option Addr) (rl rc:Nat) (p:Num.Lp) (w:World) (hc:Ints w ca cl p.costs) (hcl:cl<=9223372036854775807) (hr:ay w ra rl p.rows) (hrl:rl<=9223372036854775807)
  (ba:Option Addr) (bl bc:Nat) (b:List Int) (hb:Ints w ba bl b) (hbl:bl<=9223372036854775807) :
  Calls Tryz.prog 28 #[.agg #[.slice ca cl cc,.slice ra rl rc],.slice ba bl bc] w fun e w'=>Below w.heap.size w w'/\
   ((p.may=false/\e=.returned (.tuple #[.slice none 0 0,.int .i64 2]))\/
    (p.may=true/\(Num.aD p b).may=false/\e=.returned (.tuple #[.slice none 0 0,.int .i64 1]))\/
    (p.may=true/\(Num.aD p b).may=true/\(¬ ∃a,Num.Good p a rl cl)/\e=.returned (.tuple #[.slice none 0 0,.int .i64 4]))\/
    (p.may=true/\(Num.aD p b).may=true/\(∃a,Num.Good p a rl cl)/\∃tC:List Num.Pc,tC.Perm (Num.bJ p b rl cl (Num.bN (2 ^ (cl+rl)) 0))/\(tC.Pairwise fun y z=>¬ Num.iQ z y)/\∃a c,e=.returned (.tuple #[.slice a (Num.jK tC).length c,.int .i64 0])/\rP w' a (Num.jK tC).length (Num.jK tC))):=by
 have HC:Hid (Ints w ca cl p.costs):=hc;have HR:Hid (ay w ra rl p.rows):=hr;have WY:Hid (Ints w ba bl b):=hb;have RG:Hid (cl=p.costs.length):=hc.1;have R5:Hid (rl=p.rows.length):=hr.1;clear hc hr hb;have hB0:Bx w.heap.size [.slice ca cl cc,.slice ra rl rc] (w.alloc (.cells #[.slice ca cl cc,.slice ra rl rc] 28)):=Bx.new rfl _ _;have hBel0:=af w (.cells #[.slice ca cl cc,.slice ra rl rc] 28);go_enter Tryz.func28,Tryz.ntmps28;go_wp2_with fail;refine (fA ca cl cc ra rl rc p _ (Ints.below HC.out hBel0 (Nat.le_refl _)) hcl (ay.below HR.out hBel0 (Nat.le_refl _)) hrl).mono ?_;rintro e w1 ⟨rfl,hb1⟩;have hB1:=hB0.step hb1;have Q8:=ai hBel0 hb1;clear hB0 hBel0 hb1;have HB1:Hid _:=hB1;have Q9:Hid (Below w.heap.size w w1):=Q8;obtain ⟨p0,p1,-⟩:=hB1.all2;clear hB1;cases hm:p.may with
 | false =>go_wp2_with fail;refine bodyPost_ret (v:=.tuple #[.slice none 0 0,.int .i64 2]) (by simp [results,Tryz.results28,go_sem]) rfl ?_;exact ⟨Q9.out,Or.inl ⟨hm,rfl⟩⟩
 | true =>
  go_wp2_with fail;refine (fA ba bl bc ra rl rc (Num.aD p b) w1 (Ints.below WY.out Q9.out (Nat.le_refl _)) hbl (ay.below HR.out Q9.out (Nat.le_refl _)) hrl).mono ?_;rintro e w2 ⟨rfl,hb2⟩;have hB2:=Bx.step HB1.out hb2;have Gz:Hid (Below w.heap.size w w2):=ai Q8 hb2;obtain ⟨q0,q1,-⟩:=hB2.all2;clear Q8 hb2 p0 p1 hB2;cases ny:(Num.aD p b).may with
  | false =>go_wp2_with fail;refine bodyPost_ret (v:=.tuple #[.slice none 0 0,.int .i64 1]) (by simp [results,Tryz.results28,go_sem]) rfl ?_;exact ⟨Gz.out,Or.inr (Or.inl ⟨hm,ny,rfl⟩)⟩
  | true =>
   obtain ⟨Vt,_⟩:=Num.BR p b hm ny;have CX:Hid (Num.Ctx p b rl cl):=⟨R5.out,RG.out,Vt.trans RG.out.symm,hm,ny⟩;have HAG:Hid _:=Num.Q6 p rl cl hm R5.out RG.out;clear Vt;go_wp2_with fail;refine (AL ca cl cc ra rl rc p w2 (Ints.below HC.out Gz.out (Nat.le_refl _)) (ay.below HR.out Gz.out (Nat.le_refl _)) ba bl bc b (Ints.below WY.out Gz.out (Nat.le_refl _)) CX.out).mono ?_;rintro e w3 ⟨rfl,hmap,hb3⟩;have ak8:Hid (fT w3 (w2.heap.size+1+1) (Num.bJ p b rl cl (Num.bN (2 ^ (cl+rl)) 0))):=hmap;have Vu:Hid (Below w.heap.size w w3):=ai Gz.out hb3;clear hmap hb3 q0 q1;cases hag:(Num.bN (2 ^ (cl+rl)) 0).any (Num.iP p) with
   | false =>go_wp2_with fail;refine bodyPost_ret (v:=.tuple #[.slice none 0 0,.int .i64 4]) (by simp [results,Tryz.results28,go_sem]) rfl ?_;exact ⟨Vu.out,Or.inr (Or.inr (Or.inl ⟨hm,ny,fun h=>(by rw [HAG.out.2 h] at hag;cases hag),rfl⟩))⟩
   | true =>
    have hex:=HAG.out.1 hag;have R6:Hid (∃a,Num.Good p a rl cl):=hex;have hll:(Num.bJ p b rl cl (Num.bN (2 ^ (cl+rl)) 0)).length<=255:=by refine Nat.le_trans (Num.BS p b rl cl _) ?_;rw [Num.Gx];have:2 ^ (cl+rl)<=2 ^ 8:=Nat.pow_le_pow_right (by omega) (by have:=CX.out.h8;omega);omega
    have ng:Hid _:=hll;have YI:Hid (∀y∈Num.bJ p b rl cl (Num.bN (2 ^ (cl+rl)) 0),Num.bZ y.sd [y.sn]=true):=fun y hy=>((Num.mU CX.out _).nums CX.out y hy).2.1;clear hex hll;generalize hL:Num.bJ p b rl cl (Num.bN (2 ^ (cl+rl)) 0)=L at *;have OU:Hid (Num.bJ p b rl cl (Num.bN (2 ^ (cl+rl)) 0)=L):=hL;clear hL;go_wp2_with fail;refine (Jf (w2.heap.size+1+1) L w3 ak8.out (by have:=ng.out;omega) YI.out).mono ?_;rintro e w4 ⟨g,cap,tC,rfl,hsp,hss,hsh,Vv,_,hsg,hb4⟩;have Zm:Hid (Below w.heap.size w w4):=ai Vu.out hb4;have K8:Hid (tC.Perm L):=hsp;have Xo:Hid (tC.Pairwise fun y z=>¬ Num.iQ z y):=hss;have KL:Hid _:=Gs g cap tC w4 hsh hsg (by have:=hsp.length_eq;have:=ng.out;omega) Vv;clear hsp hss hsh Vv hsg hb4;go_wp2_with fail;refine (Calls.mono KL.out ?_);rintro e w5 ⟨a,c,rfl,hpc,hb5⟩;have Zn:Hid (Below w.heap.size w w5):=ai Zm.out hb5;have Uh:Hid (rP w5 a (Num.jK tC).length (Num.jK tC)):=hpc;clear hpc hb5 KL;go_wp2_with fail;refine bodyPost_ret (v:=.tuple #[.slice a (Num.jK tC).length c,.int .i64 0]) (by simp [results,Tryz.results28,go_sem]) rfl ?_;refine ⟨Zn.out,Or.inr (Or.inr (Or.inr ⟨hm,ny,R6.out,tC,by rw [OU.out];exact K8.out,Xo.out,a,c,rfl,Uh.out⟩))⟩
theorem zJ (ca:Option Addr) (cl cc:Nat) (ra:Option Addr) (rl rc:Nat) (p:Num.Lp) (w:World) (hc:Ints w ca cl p.costs) (hcl:cl<=9223372036854775807) (hr:ay w ra rl p.rows) (hrl:rl<=9223372036854775807)
  (ba:Option Addr) (bl bc:Nat) (b:List Int) (hb:Ints w ba bl b) (hbl:bl<=9223372036854775807) :
  Calls Tryz.prog 28 #[.agg #[.slice ca cl cc,.slice ra rl rc],.slice ba bl bc] w fun e w'=>Below w.heap.size w w'/\
   ((p.may=false/\e=.returned (.tuple #[.slice none 0 0,.int .i64 2]))\/
    (p.may=true/\(Num.aD p b).may=false/\e=.returned (.tuple #[.slice none 0 0,.int .i64 1]))\/
    (p.may=true/\(Num.aD p b).may=true/\(¬ ∃a,Num.Good p a rl cl)/\e=.returned (.tuple #[.slice none 0 0,.int .i64 4]))\/
    (p.may=true/\(Num.aD p b).may=true/\(∃a,Num.Good p a rl cl)/\∃a c,e=.returned (.tuple #[.slice a (Num.nC p b rl cl).length c,.int .i64 0])/\rP w' a (Num.nC p b rl cl).length (Num.nC p b rl cl))):=by
 refine (Jk ca cl cc ra rl rc p w hc hcl hr hrl ba bl bc b hb hbl).mono ?_;rintro e w' ⟨hB,h|h|h|⟨hm,ny,hg,tC,hp,hs,a,c,rfl,hpc⟩⟩
 ·exact ⟨hB,Or.inl h⟩
 ·exact ⟨hB,Or.inr (Or.inl h)⟩
 ·exact ⟨hB,Or.inr (Or.inr (Or.inl h))⟩
 ·have cx:Num.Ctx p b rl cl:=⟨hr.1,hc.1,(Num.BR p b hm ny).1.trans hc.1.symm,hm,ny⟩;have e1:Num.jK tC=(Num.nC p b rl cl):=congrArg Num.jK (Num.Ul p b rl cl cx _ tC hp hs);rw [e1] at hpc ⊢;exact ⟨hB,Or.inr (Or.inr (Or.inr ⟨hm,ny,hg,a,c,rfl,hpc⟩))⟩
end Go.Proofs.YtipcbhodlgoflabGreatDoor
