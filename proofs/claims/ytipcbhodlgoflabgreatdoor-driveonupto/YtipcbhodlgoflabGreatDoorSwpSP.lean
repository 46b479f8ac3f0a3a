/- slices.SortFunc puts pieces in order by slope. -/
import Derived.Test.YtipcbhodlgoflabGreatDoorSwpKG
import Derived.Test.YtipcbhodlgoflabGreatDoorShf
import Derived.Test.YtipcbhodlgoflabGreatDoorSwpM
import Derived.Deep.AppendLies
import Derived.Test.YtipcbhodlgoflabGreatDoorSpnAB
set_option maxHeartbeats 1600000
set_option maxRecDepth 4000
namespace Go.Proofs.YtipcbhodlgoflabGreatDoor
open Go.RowKit Go.Shelf Go.Lib Go.Sort
def dE (w:World) (g:Nat) (l:List Num.Pc) : Prop:=∀j y,l[j]? = some y->∀i v,(Ae y)[i]? = some v->w.cell? ⟨g,j*10+i,none⟩=some v/\w.frozen? ⟨g,j*10+i,none⟩=false
theorem Gp (x:QM) : (rA x).length=10:=rfl
theorem xN (x y:QM) : ltOf QN x y=decide (Num.iQ x.1 y.1):=by
 unfold ltOf QN Num.Ni;by_cases h1:Num.iQ x.1 y.1
 ·simp [h1]
 ·by_cases h2:Num.iQ y.1 x.1<;>simp [h1,h2]
theorem QP:SWO (ltOf QN) where
 irrefl x:=by rw [xN];exact decide_eq_false (Num.FK x.1)
 trans x y z h1 h2:=by rw [xN,decide_eq_true_eq] at *;exact Num.IG _ _ _ (Num.dK _ _ x.2) (Num.dK _ _ y.2) (Num.dK _ _ z.2) h1 h2
 ntrans x y z h1 h2:=by
  rw [xN,decide_eq_false_iff_not] at *;have px:=Num.dK _ _ x.2;have py:=Num.dK _ _ y.2;have pz:=Num.dK _ _ z.2;unfold Num.iQ at *;intro hc;have p1:=Int.mul_le_mul_of_nonneg_right (Int.not_lt.1 h1) (Int.le_of_lt pz);have p2:=Int.mul_le_mul_of_nonneg_right (Int.not_lt.1 h2) (Int.le_of_lt px);have p3:=Int.mul_lt_mul_of_pos_right hc py;have r1:y.1.sn*x.1.sd*z.1.sd=y.1.sn*z.1.sd*x.1.sd:=by grind
  have r2:x.1.sn*y.1.sd*z.1.sd=x.1.sn*z.1.sd*y.1.sd:=by grind
  have r3:z.1.sn*y.1.sd*x.1.sd=z.1.sn*x.1.sd*y.1.sd:=by grind
  omega
theorem Nk (blk off size:Nat) (w:World) : CmpLays Tryz.prog 108 #[] rA 10 QN blk off size w:=by intro m os dk _ x y;refine Calls.mono (QL x.1 y.1 x.2 y.2 _) ?_;rintro e w' ⟨rfl,hb,hd⟩;exact ⟨rfl,Ue hb hd⟩
def Gq (l:List Num.Pc) (h:∀y∈l,Num.bZ y.sd [y.sn]=true) : Array QM:=(l.attach.map fun y=>(⟨y.1,h y.1 y.2⟩ : QM)).toArray
theorem rf (l:List Num.Pc) (h:∀y∈l,Num.bZ y.sd [y.sn]=true) : (Gq l h).size=l.length:=by simp [Gq]
theorem BO (l:List Num.Pc) (h:∀y∈l,Num.bZ y.sd [y.sn]=true) : (Gq l h).toList.map (·.1)=l:=by simp [Gq,List.map_map,Function.comp_def]
theorem WR (d:Array QM) (j:Nat) (y:Num.Pc) (h:(d.toList.map (·.1))[j]? = some y) : j < d.size/\d[j]!.1=y:=by
 rw [List.getElem?_map] at h;cases hd:d.toList[j]? with
 | none=>rw [hd] at h;cases h
 | some x =>
  rw [hd] at h;have hj:j < d.size:=by have:=(List.getElem?_eq_some_iff.1 hd).1;simpa using this
  refine ⟨hj,?_⟩;rw [getElem!_pos d j hj];have:=(List.getElem?_eq_some_iff.1 hd).2;simp only [Array.getElem_toList] at this;rw [this];simpa using h
theorem zC (w:World) (g:Nat) (d:Array QM) : HoldsK rA 10 w g 0 d<->dE w g (d.toList.map (·.1)):=by
 constructor
 ·intro h j y hy i v hv;obtain ⟨hj,e⟩:=WR d j y hy;have hi:i < 10:=by have:=(List.getElem?_eq_some_iff.1 hv).1;exact this
  have:=h.cell (i:=j) (c:=i) hj hi;rw [show rA d[j]! = Ae y by unfold rA;rw [e]] at this;rw [Nat.zero_add] at this;rw [getElem!_pos (Ae y) i (by exact hi)] at this;rw [List.getElem?_eq_getElem (by exact hi)] at hv;cases hv;exact this
 ·intro h t ht;rw [size_flatK] at ht;have hj:t / 10 < d.size:=by omega
  have hi:t % 10 < 10:=Nat.mod_lt _ (by omega);rw [get_flatK rA 10 d t ht];have:=h (t / 10) d[t / 10]!.1 (by rw [List.getElem?_map,List.getElem?_eq_getElem (by simpa using hj),getElem!_pos d _ hj];rfl) (t % 10) _ (List.getElem?_eq_getElem (l:=Ae d[t / 10]!.1) (by exact hi));rw [show t / 10*10+t % 10=0+t by omega] at this;rw [getElem!_pos (rA d[t / 10]!) (t % 10) (by rw [Gp];exact hi)];exact this
theorem uK {w:World} {g n:Nat} {os:Array Obj} (d:Array QM) (hg:g < w.heap.size) : Below g w (sortWorldK rA 10 w g 0 n d os):=by
 unfold sortWorldK;refine ⟨rfl,rfl,rfl,?_,fun k hk=>?_⟩
 ·show w.heap.size<=((putRowK rA 10 (Sort.ahead w n) g 0 d).heap ++ os).size;rw [Array.size_append];have:(putRowK rA 10 (Sort.ahead w n) g 0 d).heap.size=w.heap.size:=by unfold putRowK;rw [size_putRow];rfl
  omega
 ·show ((putRowK rA 10 (Sort.ahead w n) g 0 d).heap ++ os)[k]? = _;have hp:(putRowK rA 10 (Sort.ahead w n) g 0 d).heap[k]? = w.heap[k]? := by unfold putRowK putRow mapBlock;show (w.heap.modify g _)[k]? = _;rw [Array.getElem?_modify,if_neg (by omega)]
  rw [Array.getElem?_append_left (by unfold putRowK;rw [size_putRow];show k < w.heap.size;omega),hp]
theorem Nl (g cap:Nat) (l:List Num.Pc) (hm:∀y∈l,Num.bZ y.sd [y.sn]=true) (w:World) (hh:dE w g l) (hg:g < w.heap.size) (hl:l.length < 4611686018427387904) :
  Calls Tryz.prog 107 #[.slice (some ⟨g,0,none⟩) l.length cap,.func (.func 108) #[] #[]] w fun e w'=>e=.returned (.tuple #[])/\∃l',l'.Perm l/\(l'.Pairwise fun y z=>¬ Num.iQ z y)/\dE w' g l'/\Below g w w'/\g < w'.heap.size:=by
 have eg:∀args w,(callFunc 108 args).run Tryz.prog w=.ok (.enter 108 args) w:=enters_of Tryz.func108 (by kernel_rfl) rfl;have hH:HoldsK rA 10 w g 0 (Gq l hm):=by rw [zC,BO];exact hh
 have hcon:=AnyQ.slices_SortFunc Tryz.Za 10 Tryz.isAgg90 Tryz.sizeOf90 rA Gp QO QN QP 108 #[] g 0 cap (Gq l hm) w eg (Nk g 0 _ w) hH hg (by rw [rf];exact hl);change Calls Tryz.prog 107 _ _ _ at hcon;rw [rf] at hcon;refine hcon.mono ?_;rintro e w' ⟨rfl,d',n,os,hp,hs,rfl⟩;have hsz:d'.size=l.length:=by rw [hp.1,rf]
 have hperm:d'.toList.Perm (Gq l hm).toList:=by have:=hp.2.2;rw [Array.toList_extract,Array.toList_extract] at this;simp only [List.extract_eq_take_drop,Nat.sub_zero,List.drop_zero] at this;rw [List.take_of_length_le (by simp [hsz]),List.take_of_length_le (by simp [rf])] at this;exact this
 refine ⟨rfl,d'.toList.map (·.1),?_,?_,?_,uK d' hg,?_⟩
 ·have:=hperm.map (·.1)
  rwa [BO] at this
 ·rw [List.pairwise_map,List.pairwise_iff_getElem];intro i j hi hj hij;have hi':i < d'.size:=by simpa using hi
  have hj':j < d'.size:=by simpa using hj
  have:=hs i j (Nat.zero_le _) hij (by omega);rw [xN,decide_eq_false_iff_not,getElem!_pos d' i hi',getElem!_pos d' j hj'] at this;simpa using this
 ·rw [<-zC];unfold sortWorldK;refine holdsK_grow _ _ _ _ _ _ _ ?_ ?_
  ·unfold putRowK;rw [size_putRow];exact hg
  ·exact holdsK_putRowK _ _ _ _ _ (Gq l hm) d' (holdsK_ahead _ _ _ _ _ _ _ hH) hp.1
 ·have:=(uK (w:=w) (g:=g) (n:=n) (os:=os) d' hg).size;omega
open Go.RowKit
open Go.ChangeMaps (setBlock)
def QQ (k v:Value) : Num.Pc :=
 match k,v with
 | .agg #[.int _ bn,.int _ bd,.int _ sn,.int _ sd],.agg #[.bool fo,.int _ fn,.int _ fd,.bool to,.int _ tn,.int _ td]=>⟨⟨fo,fn,fd⟩,⟨to,tn,td⟩,bn,bd,sn,sd⟩
 | _,_=>BH
theorem Uf (y:Num.Pc) : QQ (dP y) (gQ y)=y:=rfl
def AJ (e:MapEntry) : Num.Pc:=QQ e.key e.val
theorem Tryz.BP:(Tryz.prog.info? 90).map (fun i=>(i.zero,i.size,i.bytes))=some (some (.agg #[.bool false,.int .i64 0,.int .i64 0,.bool false,.int .i64 0,.int .i64 0,.int .i64 0,.int .i64 0,.int .i64 0,.int .i64 0]),10,80):=by kernel_rfl
theorem QR {es:List MapEntry} {l:List Num.Pc} (h:es.map (fun e=>(e.key,e.val))=l.map (fun x=>(dP x,gQ x))) : es.map AJ=l:=by
 have:=congrArg (List.map fun q:Value×Value=>QQ q.1 q.2) h;rw [List.map_map,List.map_map] at this;have e1:(l.map ((fun q:Value×Value=>QQ q.1 q.2) ∘ fun x=>(dP x,gQ x)))=l:=by have:((fun q:Value×Value=>QQ q.1 q.2) ∘ fun x=>(dP x,gQ x))=id:=funext fun y=>Uf y;rw [this,List.map_id]
 rw [e1] at this;exact this
theorem rO {w:World} {base g cap:Nat} {l:List Num.Pc} (h:w.ownsRow base 90 10 (.slice (some ⟨g,0,none⟩) l.length cap) l.length (l.flatMap Ae)) : dE w g l:=by
 intro j y hy i v hv;have hj:j < l.length:=(List.getElem?_eq_some_iff.1 hy).1;have hi:i < 10:=(List.getElem?_eq_some_iff.1 hv).1;have hf:∀(l:List Num.Pc) (j:Nat) (y:Num.Pc),l[j]? = some y->(l.flatMap Ae)[j*10+i]? = (Ae y)[i]? := by
  intro l
  induction l with
  | nil=>intro j y h;simp at h
  | cons x l ih =>
   intro j y h;rw [List.flatMap_cons];cases j with
   | zero =>simp only [List.getElem?_cons_zero,Option.some.injEq] at h;subst h;rw [Nat.zero_mul,Nat.zero_add,List.getElem?_append_left (by exact hi)]
   | succ j =>rw [List.getElem?_cons_succ] at h;rw [List.getElem?_append_right (by show 10<=_;omega),show (j+1)*10+i - (Ae x).length=j*10+i by show (j+1)*10+i - 10=_;omega];exact ih j y h
 refine ⟨?_,?_⟩
 ·rw [World.ownsRow.cellAt h _ (by omega),hf l j y hy];exact hv
 ·rcases h.2 with ⟨h',_⟩|⟨g',cap',cur,h',_,hg,_⟩
  ·cases h'
  ·simp only [Value.slice.injEq,Option.some.injEq,Addr.mk.injEq,and_true,true_and] at h';obtain ⟨rfl,_⟩:=h';unfold World.frozen?;simp only [hg];simp
theorem Jf (r:Nat) (l:List Num.Pc) (w:World) (hm:fT w r l) (hlen:l.length<=1000) (au:∀y∈l,Num.bZ y.sd [y.sn]=true) :
  Calls Tryz.prog 68 #[.map (some r)] w fun e w'=>∃g cap tC,e=.returned (.slice (some ⟨g,0,none⟩) tC.length cap)/\tC.Perm l/\(tC.Pairwise fun y z=>¬ Num.iQ z y)/\dE w' g tC/\tC.length<=cap/\w.heap.size<=g/\g < w'.heap.size/\Below w.heap.size w w':=by
 obtain ⟨es,clock,hb,hkv,hborn,hnd,hone,hok⟩:=hm;have hel:es.size=l.length:=by have:=congrArg List.length hkv;simpa using this
 have hrl:r < w.heap.size:=(Array.getElem?_eq_some_iff.1 hb).1;have HKV:Hid _:=hkv;have Zb:Hid _:=hborn;have TT:Hid _:=hnd;have HEL:Hid _:=hel;have HLEN:Hid _:=hlen;have IM:Hid _:=au;have HHB:Hid _:=hb;clear hkv hborn hnd hone hok hel hlen au;obtain ⟨i0,hif,hz0,hz1,hz2⟩:=info_parts Tryz.BP;go_enter Tryz.func68,Tryz.ntmps68;have hes:es.size<=1000:=by have:=HEL.out;have:=HLEN.out;omega
 have hlm:(Builtin.len_ #[131] 3 #[.map (some r)]).run Tryz.prog w=.ok (.int .i64 es.size) w:=by simp [Builtin.len_,run_underlying Tryz.underlying131,MapKept.run_getObj_map hb,goInt]
 go_wp2_with (at_make;refine wpList_make_own _ rfl (.const (.int .i64 0)) (.tmp 7) 84 rfl w.heap.size 90 i0 (.agg #[.bool false,.int .i64 0,.int .i64 0,.bool false,.int .i64 0,.int .i64 0,.int .i64 0,.int .i64 0,.int .i64 0,.int .i64 0]) 10 Tryz.underlying84 hif hz0 hz1 .i64 .i64 _ es.size rfl rfl rfl (by rw [hz2];omega) (by unfold maxLen;omega) (Nat.le_refl _) ?_;intro w1 hown hgrow;have hb1:w1.heap[r]? = some (.map es clock):=(hgrow.block r hrl (by simp)).trans hb;have hrange:(Instr.range 131 (.map (some r))).run Tryz.prog w1=.ok (.pointer (some ⟨w1.heap.size,0,none⟩)) (w1.alloc (.mapIter (some r) clock #[] clock)):=run_range_map w1 _ _ _ r es clock Tryz.underlying131 hb1);have hB1:Below w.heap.size w w1:=bY hgrow;have hg1:w.heap.size < w1.heap.size:=by
  rcases hown.2 with ⟨h,_⟩|⟨g,cap,cur,h,_,hg,_⟩
  ·cases h
  ·simp only [Value.slice.injEq,Option.some.injEq,Addr.mk.injEq,and_true,true_and] at h;rw [h.1];exact (Array.getElem?_eq_some_iff.1 hg).1
 clear hlm hrange;go_loopw [3] (fun v wr=>∃ds:List MapEntry,v=.slice (some ⟨w.heap.size,0,none⟩) ds.length es.size/\(∀e∈ds,e∈es.toList)/\(ds.map (·.born)).Nodup/\wr.heap[r]? = some (.map es clock)/\(∃c0,clock<=c0/\wr.heap[w1.heap.size]? = some (.mapIter (some r) clock (ds.map (·.born)).toArray c0))/\wr.ownsRow w.heap.size 90 10 v ds.length ((ds.map AJ).flatMap Ae)/\Below w.heap.size w wr) (fun _ wr=>(leftOf es (wr.iterSeen w1.heap.size)).size)
 case atStart =>refine ⟨[],rfl,fun e he=>(by cases he),List.nodup_nil,(Below.heap_alloc _ _ _ (by omega)).trans hb1,⟨clock,Nat.le_refl _,heap_alloc_new _ _⟩,?_,ai hB1 (af _ _)⟩;exact World.ownsRow.kept (row:=none) hown (World.grownBy_alloc w1 _ none) (by simp [Value.ownBlock])
 case round =>
  obtain ⟨ds,rfl,hds,hdn,hbr,⟨c0,hc0,hit⟩,hor,hBr⟩:=hrel;have Vk:wr.iterSeen w1.heap.size=(ds.map (·.born)).toArray:=by unfold World.iterSeen;rw [hit]
  have Vl:Hid _:=Vk;clear Vk;rcases run_next_at (P:=Tryz.prog) wr 0 w1.heap.size r clock c0 (ds.map (·.born)).toArray es clock hit hbr Zb.out hc0 with ⟨h0,hnext⟩|⟨e,he,w2,hw2,hnext⟩
  ·have hdone:ds.Perm es.toList:=by
    refine (List.perm_ext_iff_of_nodup ?_ ?_).2 ?_
    ·exact List.Pairwise.of_map _ (fun a b h hab=>h (by rw [hab])) hdn
    ·exact List.Pairwise.of_map _ (fun a b h hab=>h (by rw [hab])) TT.out
    ·intro x;refine ⟨hds x,fun hx=>?_⟩;have:=all_seen es _ h0 x hx;simp only [List.contains_toArray,List.contains_iff_mem,List.mem_map] at this;obtain ⟨z,hz,hzb⟩:=this;rw [<-born_inj TT.out (hds z hz) hx hzb];exact hz
   have hlp:(ds.map AJ).Perm l:=by
    have:=hdone.map AJ
    rwa [QR HKV.out] at this
   have DT:Hid _:=hlp;have Z5:Hid (dE wr w.heap.size (ds.map AJ)):=by refine rO (base:=w.heap.size) (cap:=es.size) ?_;rw [List.length_map];exact hor
   have hgw:w.heap.size < wr.heap.size:=by have:=hBr.size;have:=(Array.getElem?_eq_some_iff.1 hit).1;omega
   have ks:=Nl w.heap.size es.size (ds.map AJ) (fun y hy=>IM.out y (hlp.subset hy)) wr Z5.out hgw (by have:=hlp.length_eq;have:=HLEN.out;omega);rw [List.length_map] at ks;have KS:Hid _:=ks;have UF:Hid (ds.length=l.length):=by have:=hlp.length_eq;rw [List.length_map] at this;exact this
   have hnx:∀ty,(Instr.next (.pointer (some ⟨w1.heap.size,0,none⟩)) false ty).run Tryz.prog wr=.ok (.tuple #[.bool false]) wr:=fun _=>hnext;have HBR:Hid _:=hBr;clear hnext hor hds hdn hit ks hlp hdone hBr;go_wp2_with fail;refine (Calls.mono KS.out ?_);rintro e w3 ⟨rfl,tC,hsp,hso,hsh,hsb,hsg⟩;have hsl:ds.length=tC.length:=by have:=hsp.length_eq;rw [List.length_map] at this;exact this.symm
   have jB:Hid (∃g cap QS,Ending.returned (.slice (some ⟨w.heap.size,0,none⟩) ds.length es.size)=.returned (.slice (some ⟨g,0,none⟩) QS.length cap)/\QS.Perm l/\(QS.Pairwise fun y z=>¬ Num.iQ z y)/\dE w3 g QS/\QS.length<=cap/\w.heap.size<=g/\g < w3.heap.size/\Below w.heap.size w w3) :=
    ⟨w.heap.size,es.size,tC,by rw [hsl],hsp.trans DT.out,hso,hsh,by have:=UF.out;have:=HEL.out;omega,Nat.le_refl _,hsg,HBR.out.trans hsb⟩
   clear hsp hso hsh hsb hsg hsl KS;go_wp2_with fail;go_ret;exact jB.out
  ·obtain ⟨hem,hes'⟩:=mem_left he;obtain ⟨jj,hjj⟩:=List.getElem?_of_mem hem;obtain ⟨y,hy,ek,ev⟩:=DF HKV.out hjj;have hey:AJ e=y:=by unfold AJ;rw [ek,ev];rfl
   have hlt2:ds.length < es.size:=by
    have h1:((e :: ds).map (·.born)).Nodup:=by
     rw [List.map_cons];refine List.nodup_cons.2 ⟨fun hc=>?_,hdn⟩;have:(ds.map (·.born)).toArray.contains e.born=true:=by simpa using hc
     rw [this] at hes';cases hes'
    have h2:(e :: ds).Nodup:=List.Pairwise.of_map _ (fun a b h hab=>h (by rw [hab])) h1;have h3:(e :: ds) ⊆ es.toList:=by
     intro x hx;rcases List.mem_cons.1 hx with hx|hx
     ·rw [hx];exact hem
     ·exact hds x hx
    have:=(h2.length_le_of_subset h3);simp at this;omega
   have hne:r≠w1.heap.size:=by omega
   have Vm:w2.heap[w1.heap.size]? = some (.mapIter (some r) clock (ds.map (·.born)).toArray c0):=by rcases hw2 with rfl|rfl<;>exact hit
   have Vn:w2.heap[r]? = some (.map es clock):=by rcases hw2 with rfl|rfl<;>exact hbr
   have hW2:=MapKept.heap_set (o':=.mapIter (some r) clock ((ds.map (·.born)).toArray.push e.born) clock) Vm;have hit2:(setBlock w2 w1.heap.size (.mapIter (some r) clock ((ds.map (·.born)).toArray.push e.born) clock)).heap[w1.heap.size]? = some (.mapIter (some r) clock ((ds.map (·.born)).toArray.push e.born) clock):=hW2.1;have WS:(setBlock w2 w1.heap.size (.mapIter (some r) clock ((ds.map (·.born)).toArray.push e.born) clock)).heap[r]? = some (.map es clock):=(hW2.2 r hne).trans Vn;have WT:wr.grownBy (setBlock w2 w1.heap.size (.mapIter (some r) clock ((ds.map (·.born)).toArray.push e.born) clock)) (some w1.heap.size):=by rcases hw2 with rfl|rfl<;>exact ⟨rfl,rfl,rfl,by simp [setBlock],fun k _ hk=>hW2.2 k (fun e1=>hk (by rw [e1]))⟩
   have hor2:=World.ownsRow.kept hor WT (Or.inr (by simp only [Value.ownBlock,ne_eq,Option.some.injEq];omega));have Zc:Below w.heap.size w (setBlock w2 w1.heap.size (.mapIter (some r) clock ((ds.map (·.born)).toArray.push e.born) clock)):=hBr.grown WT hBr.size (fun k hk=>by cases hk;omega);have hent:(Instr.entry (.pointer (some ⟨w1.heap.size,0,none⟩))).run Tryz.prog (setBlock w2 w1.heap.size (.mapIter (some r) clock ((ds.map (·.born)).toArray.push e.born) clock))=.ok (.tuple #[e.key,e.val]) (setBlock w2 w1.heap.size (.mapIter (some r) clock ((ds.map (·.born)).toArray.push e.born) clock)):=run_entry_at _ w1.heap.size r clock _ es clock e hit2 WS hem TT.out;have hnx:∀ty,(Instr.next (.pointer (some ⟨w1.heap.size,0,none⟩)) false ty).run Tryz.prog wr=.ok (.tuple #[.bool true,e.key,e.val]) (setBlock w2 w1.heap.size (.mapIter (some r) clock ((ds.map (·.born)).toArray.push e.born) clock)):=fun _=>hnext;have hpush:(ds.map (·.born)).toArray.push e.born=((ds ++ [e]).map (·.born)).toArray:=by simp
   have HMS:Hid (∀W:World,W.heap[w1.heap.size]? = some (.mapIter (some r) clock ((ds.map (·.born)).toArray.push e.born) clock)->(leftOf es (W.iterSeen w1.heap.size)).size < (leftOf es (wr.iterSeen w1.heap.size)).size):=by
    intro W hW;rw [Vl.out];have:W.iterSeen w1.heap.size=(ds.map (·.born)).toArray.push e.born:=by unfold World.iterSeen;rw [hW]
    rw [this];exact left_shrinks es _ e he
   have hsz2:w1.heap.size < (setBlock w2 w1.heap.size (.mapIter (some r) clock ((ds.map (·.born)).toArray.push e.born) clock)).heap.size:=(Array.getElem?_eq_some_iff.1 hit2).1;rw [ek,ev] at hent hnx;have WU:Hid (∀(W4:World) ,W4.heap[r]? = some (.map es clock)->W4.heap[w1.heap.size]? = some (.mapIter (some r) clock ((ds.map (·.born)).toArray.push e.born) clock)->W4.ownsRow w.heap.size 90 10 (.slice (some ⟨w.heap.size,0,none⟩) (ds.length+1) es.size) (ds.length+1) ((ds.map AJ).flatMap Ae ++ Ae y)->Below w.heap.size w W4->
     ∃ds':List MapEntry,Value.slice (some ⟨w.heap.size,0,none⟩) (ds.length+1) es.size=.slice (some ⟨w.heap.size,0,none⟩) ds'.length es.size/\(∀e∈ds',e∈es.toList)/\(ds'.map (·.born)).Nodup/\W4.heap[r]? = some (.map es clock)/\(∃c0,clock<=c0/\W4.heap[w1.heap.size]? = some (.mapIter (some r) clock (ds'.map (·.born)).toArray c0))/\W4.ownsRow w.heap.size 90 10 (.slice (some ⟨w.heap.size,0,none⟩) (ds.length+1) es.size) ds'.length ((ds'.map AJ).flatMap Ae)/\Below w.heap.size w W4):=by
    intro W4 g1 g2 g3 g4;refine ⟨ds ++ [e],by simp,fun x hx=>?_,?_,g1,⟨clock,Nat.le_refl _,by rw [<-hpush];exact g2⟩,?_,g4⟩
    ·rcases List.mem_append.1 hx with hx|hx
     ·exact hds x hx
     ·rw [List.mem_singleton.1 hx];exact hem
    ·rw [List.map_append];refine List.nodup_append.2 ⟨hdn,by simp,fun a ha b hb hab=>?_⟩;simp only [List.map_cons,List.map_nil,List.mem_singleton] at hb;subst hb;subst hab;have:(ds.map (·.born)).toArray.contains e.born=true:=by simpa using ha
     rw [this] at hes';cases hes'
    ·rw [List.map_append,List.flatMap_append,List.length_append];simpa [hey] using g3
   obtain ⟨⟨fo,fn,fd⟩,⟨to,tn,td⟩,bn,bd,sn,sd⟩:=y;simp only [dP,gQ] at hent hnx;simp only [Ae] at WU;generalize (setBlock w2 w1.heap.size (.mapIter (some r) clock ((ds.map (·.born)).toArray.push e.born) clock))=W2 at *;have hgx:=((World.grownBy_alloc W2 (.cells #[.int .i64 bn,.int .i64 bd,.int .i64 sn,.int .i64 sd] 164) none).trans (World.grownBy_alloc _ (.cells #[.bool fo,.int .i64 fn,.int .i64 fd,.bool to,.int .i64 tn,.int .i64 td] 166) none)).trans (World.grownBy_alloc _ (.cells #[.bool fo,.int .i64 fn,.int .i64 fd,.bool to,.int .i64 tn,.int .i64 td,.int .i64 bn,.int .i64 bd,.int .i64 sn,.int .i64 sd] 90) none);have R4:Hid _:=World.ownsRow.kept hor2 hgx (by simp [Value.ownBlock]);have OM:Hid ((((W2.alloc (.cells #[.int .i64 bn,.int .i64 bd,.int .i64 sn,.int .i64 sd] 164)).alloc (.cells #[.bool fo,.int .i64 fn,.int .i64 fd,.bool to,.int .i64 tn,.int .i64 td] 166)).alloc (.cells #[.bool fo,.int .i64 fn,.int .i64 fd,.bool to,.int .i64 tn,.int .i64 td,.int .i64 bn,.int .i64 bd,.int .i64 sn,.int .i64 sd] 90)).heap[r]? = some (.map es clock)/\(((W2.alloc (.cells #[.int .i64 bn,.int .i64 bd,.int .i64 sn,.int .i64 sd] 164)).alloc (.cells #[.bool fo,.int .i64 fn,.int .i64 fd,.bool to,.int .i64 tn,.int .i64 td] 166)).alloc (.cells #[.bool fo,.int .i64 fn,.int .i64 fd,.bool to,.int .i64 tn,.int .i64 td,.int .i64 bn,.int .i64 bd,.int .i64 sn,.int .i64 sd] 90)).heap[w1.heap.size]? = some (.mapIter (some r) clock ((ds.map (·.born)).toArray.push e.born) clock)/\Below w.heap.size w (((W2.alloc (.cells #[.int .i64 bn,.int .i64 bd,.int .i64 sn,.int .i64 sd] 164)).alloc (.cells #[.bool fo,.int .i64 fn,.int .i64 fd,.bool to,.int .i64 tn,.int .i64 td] 166)).alloc (.cells #[.bool fo,.int .i64 fn,.int .i64 fd,.bool to,.int .i64 tn,.int .i64 td,.int .i64 bn,.int .i64 bd,.int .i64 sn,.int .i64 sd] 90))) :=
    ⟨(hgx.block r (by omega) (by simp)).trans WS,(hgx.block _ hsz2 (by simp)).trans hit2,ai (ai (ai Zc (af _ _)) (af _ _)) (af _ _)⟩
   have aJ1:r < W2.heap.size:=by omega
   have hwz:w.heap.size < W2.heap.size:=by omega
   clear hgx hit hit2 Vm hbr WS Vn hW2 WT hor hor2 hBr Zc hnext he hem hds hdn hes' hjj hy ek ev hey hpush hb hb1 hown hgrow Vl;go_wp2_with (at_builtin;refine wpList_append_fits _ rfl (.tmp 16) (.tmp 26) 84 rfl w.heap.size 90 i0 10 Tryz.underlying84 hif hz1 w.heap.size ds.length es.size _ rfl R4.out ⟨W2.heap.size+1+1,0,none⟩ 1 1 [.bool fo,.int .i64 fn,.int .i64 fd,.bool to,.int .i64 tn,.int .i64 td,.int .i64 bn,.int .i64 bd,.int .i64 sn,.int .i64 sd] rfl rfl ?o3 ?o4 ?o5 ?_)
   case o3 =>intro j u hu;rw [show W2.heap.size+1+1=((W2.alloc (.cells #[.int .i64 bn,.int .i64 bd,.int .i64 sn,.int .i64 sd] 164)).alloc (.cells #[.bool fo,.int .i64 fn,.int .i64 fd,.bool to,.int .i64 tn,.int .i64 td] 166)).heap.size by simp,Addr.add_lit,Nat.zero_add,World.cell?_alloc_new];simpa using hu
   case o4 =>intro u hu;simp only [List.mem_cons,List.not_mem_nil,or_false] at hu;rcases hu with rfl|rfl|rfl|rfl|rfl|rfl|rfl|rfl|rfl|rfl<;>rfl
   case o5=>omega
   intro w4 wX nA;obtain ⟨x1,x2,x3⟩:=OM.out;have y1:w4.heap[r]? = some (.map es clock):=(nA.block r (by simp;omega) (by simp;omega)).trans x1;have y2:w4.heap[w1.heap.size]? = some (.mapIter (some r) clock ((ds.map (·.born)).toArray.push e.born) clock):=(nA.block _ (by simp;omega) (by simp;omega)).trans x2;have y3:Below w.heap.size w w4:=x3.grown nA x3.size (fun k hk=>by cases hk;omega);have HR4:Hid _:=WU.out w4 y1 y2 wX y3;have HM4:Hid _:=HMS.out w4 y2;clear x1 x2 x3 y1 y2 y3 wX nA WU HMS R4 OM;go_wp2;go_roundw
   case rel=>exact HR4.out
   case measure=>exact HM4.out
open Go.RowKit
def rP (w:World) (a:Option Addr) (k:Nat) (l:List Num.Pc) : Prop:=k=l.length/\(k=0\/∃g,a=some ⟨g,0,none⟩/\g < w.heap.size/\dE w g l)
theorem dE.below {w w':World} {g:Nat} {l:List Num.Pc} (h:dE w g l) (hb:Below w.heap.size w w') (hg:g < w.heap.size) : dE w' g l:=by intro j y hy i v hv;obtain ⟨h1,h2⟩:=h j y hy i v hv;exact ⟨carry hb h1,by rw [hb.frozen (p:=⟨g,j*10+i,none⟩) hg];exact h2⟩
theorem Gr {w:World} {base:Nat} {e:TypeId} {size:Nat} {v:Value} {n:Nat} {xs:List Value} (h:w.ownsRow base e size v n xs) {k:Nat} (hk:v.ownBlock=some k) : base<=k:=by
 rcases h.2 with ⟨rfl,_⟩|⟨g,cap,cur,rfl,hb,_⟩
 ·cases hk
 ·simp only [Value.ownBlock,Option.some.injEq] at hk;omega
theorem Jg {w:World} {base:Nat} {e:TypeId} {size:Nat} {v:Value} {n:Nat} {xs:List Value} (h:w.ownsRow base e size v n xs) : ∃a c,v=.slice a n c:=by
 rcases h.2 with ⟨hv,h0⟩|⟨g,cap,cur,hv,_⟩
 ·subst h0;exact ⟨none,0,hv⟩
 ·exact ⟨_,cap,hv⟩
theorem dE.take {w:World} {g:Nat} {l:List Num.Pc} (h:dE w g l) (k:Nat) : dE w g (l.take k):=by
 intro j y hy;rw [List.getElem?_take] at hy;split at hy
 ·exact h j y hy
 ·cases hy
theorem Ug {w:World} {base:Nat} {a:Option Addr} {c:Nat} {l:List Num.Pc} (h:w.ownsRow base 90 10 (.slice a l.length c) l.length (l.flatMap Ae)) : rP w a l.length l:=by
 refine ⟨rfl,?_⟩;rcases h.2 with ⟨_,h0⟩|⟨g,cap,cur,hv,_,hg,_⟩
 ·exact Or.inl h0
 ·simp only [Value.slice.injEq] at hv;obtain ⟨rfl,_,rfl⟩:=hv;exact Or.inr ⟨g,rfl,(Array.getElem?_eq_some_iff.1 hg).1,rO h⟩
def Num.fV (l:List Num.Pc) : List Num.Pc:=l.filter fun x => !Num.ze x
theorem Num.Nn (l:List Num.Pc) (k:Nat) (y:Num.Pc) (h:l[k]? = some y) : Num.fV (l.take (k+1))=Num.fV (l.take k) ++ (if Num.ze y=true then [] else [y]):=by unfold Num.fV;rw [List.take_add_one,h,List.filter_append];congr 1;simp only [Option.toList_some,List.filter_cons,List.filter_nil];cases Num.ze y<;>rfl
theorem dE.ten {w:World} {g:Nat} {l:List Num.Pc} (h:dE w g l) {k:Nat} {fo:Bool} {fn fd:Int} {to:Bool} {tn td bn bd sn sd:Int} (hk:l[k]? = some ⟨⟨fo,fn,fd⟩,⟨to,tn,td⟩,bn,bd,sn,sd⟩) :
  w.cell? ⟨g,k*10,none⟩=some (.bool fo)/\w.cell? ⟨g,k*10+1,none⟩=some (.int .i64 fn)/\w.cell? ⟨g,k*10+2,none⟩=some (.int .i64 fd)/\w.cell? ⟨g,k*10+3,none⟩=some (.bool to)/\w.cell? ⟨g,k*10+4,none⟩=some (.int .i64 tn)/\w.cell? ⟨g,k*10+5,none⟩=some (.int .i64 td)/\w.cell? ⟨g,k*10+6,none⟩=some (.int .i64 bn)/\w.cell? ⟨g,k*10+7,none⟩=some (.int .i64 bd)/\w.cell? ⟨g,k*10+8,none⟩=some (.int .i64 sn)/\w.cell? ⟨g,k*10+9,none⟩=some (.int .i64 sd) :=
 ⟨(h k _ hk 0 _ rfl).1,(h k _ hk 1 _ rfl).1,(h k _ hk 2 _ rfl).1,(h k _ hk 3 _ rfl).1,(h k _ hk 4 _ rfl).1,(h k _ hk 5 _ rfl).1,(h k _ hk 6 _ rfl).1,(h k _ hk 7 _ rfl).1,(h k _ hk 8 _ rfl).1,(h k _ hk 9 _ rfl).1⟩
theorem Gs (g cap:Nat) (l:List Num.Pc) (w:World) (hh:dE w g l) (hg:g < w.heap.size) (hlen:l.length<=1000) (hcap:l.length<=cap) :
  Calls Tryz.prog 67 #[.slice (some ⟨g,0,none⟩) l.length cap] w fun e w'=>∃a c,e=.returned (.slice a (Num.jK l).length c)/\rP w' a (Num.jK l).length (Num.jK l)/\Below w.heap.size w w':=by
 have HH:Hid (dE w g l):=hh;clear hh;obtain ⟨i0,hif,hz0,hz1,hz2⟩:=info_parts Tryz.BP;generalize hn:l.length=n at *;have HN:Hid (l.length=n):=hn;clear hn;go_enter Tryz.func67,Tryz.ntmps67;go_wp2;go_loopw [3,8] (fun v i wr=>∃k:Nat,k<=n/\i=.int .i64 k/\wr.ownsRow w.heap.size 90 10 v (Num.fV (l.take k)).length ((Num.fV (l.take k)).flatMap Ae)/\Below w.heap.size w wr) (fun _ i _=>n - (intOf i).toNat)
 case atStart=>exact ⟨0,Nat.zero_le _,rfl,⟨rfl,Or.inl ⟨rfl,rfl⟩⟩,Below.refl _ _⟩
 case round =>
  obtain ⟨k,hk,rfl,hown,hbl⟩:=hrel;have HOWN:Hid _:=hown;by_cases hlt:k < n
  ·obtain ⟨y,hy⟩ : ∃y,l[k]? = some y:=⟨_,List.getElem?_eq_getElem (by have:=HN.out;omega)⟩;have hsn:=Num.Nn l k y hy;have hHr:=HH.out.below hbl hg;obtain ⟨⟨fo,fn,fd⟩,⟨to,tn,td⟩,bn,bd,sn,sd⟩:=y;obtain ⟨c0,c1,c2,c3,c4,c5,c6,c7,c8,c9⟩:=hHr.ten hy;have hE:=WN fo fn fd to tn td;have hsp:Num.ze ⟨⟨fo,fn,fd⟩,⟨to,tn,td⟩,bn,bd,sn,sd⟩=(!fo && ((fo == to) && ((fn == tn) && (fd == td)))):=by unfold Num.ze;cases fo<;>cases to<;>by_cases h1:fn=tn<;>by_cases h2:fd=td<;>simp [h1,h2]
   cases fo
   ·generalize ((false == to) && ((fn == tn) && (fd == td)))=q at *;cases q
    ·skip
     have hgx:=(World.grownBy_alloc wr (.cells #[.bool false,.int .i64 fn,.int .i64 fd,.bool to,.int .i64 tn,.int .i64 td,.int .i64 bn,.int .i64 bd,.int .i64 sn,.int .i64 sd] 90) none).trans (World.grownBy_alloc _ (.cells #[.bool false,.int .i64 fn,.int .i64 fd,.bool to,.int .i64 tn,.int .i64 td,.int .i64 bn,.int .i64 bd,.int .i64 sn,.int .i64 sd] 90) none);have R4:Hid _:=World.ownsRow.kept HOWN.out hgx (by cases u3.ownBlock<;>simp);have iy:Hid (Below w.heap.size w ((wr.alloc (.cells #[.bool false,.int .i64 fn,.int .i64 fd,.bool to,.int .i64 tn,.int .i64 td,.int .i64 bn,.int .i64 bd,.int .i64 sn,.int .i64 sd] 90)).alloc (.cells #[.bool false,.int .i64 fn,.int .i64 fd,.bool to,.int .i64 tn,.int .i64 td,.int .i64 bn,.int .i64 bd,.int .i64 sn,.int .i64 sd] 90))):=ai (ai hbl (af _ _)) (af _ _);have NV:Hid (Num.fV (l.take (k+1))=Num.fV (l.take k) ++ [⟨⟨false,fn,fd⟩,⟨to,tn,td⟩,bn,bd,sn,sd⟩]):=by show _=_;rw [hsn,if_neg (by rw [hsp];simp)]
     have hwl:(Num.fV (l.take k)).length<=k:=Nat.le_trans (List.length_filter_le _ _) (by rw [List.length_take];omega);clear hgx hsn hsp hown hHr;generalize hcnt:(Num.fV (l.take k)).length=cnt at *;have QT:Hid _:=hcnt;clear hcnt;go_wp2_with (at_builtin;refine wpList_append_own _ rfl (.tmp 22) (.tmp 24) 84 rfl w.heap.size 90 i0 (.agg #[.bool false,.int .i64 0,.int .i64 0,.bool false,.int .i64 0,.int .i64 0,.int .i64 0,.int .i64 0,.int .i64 0,.int .i64 0]) 10 80 Tryz.underlying84 hif hz0 hz1 hz2 rfl (by decide) _ cnt _ rfl R4.out ⟨wr.heap.size+1,0,none⟩ 1 1 [.bool false,.int .i64 fn,.int .i64 fd,.bool to,.int .i64 tn,.int .i64 td,.int .i64 bn,.int .i64 bd,.int .i64 sn,.int .i64 sd] rfl rfl ?o3 ?o4 ?o5 ?o6 ?o7 ?_)
     case o3 =>intro j u hu;rw [show wr.heap.size+1=(wr.alloc (.cells #[.bool false,.int .i64 fn,.int .i64 fd,.bool to,.int .i64 tn,.int .i64 td,.int .i64 bn,.int .i64 bd,.int .i64 sn,.int .i64 sd] 90)).heap.size by simp,Addr.add_lit,Nat.zero_add,World.cell?_alloc_new];simpa using hu
     case o4 =>intro u hu;simp only [List.mem_cons,List.not_mem_nil,or_false] at hu;rcases hu with rfl|rfl|rfl|rfl|rfl|rfl|rfl|rfl|rfl|rfl<;>rfl
     case o5=>unfold maxLen;omega
     case o6=>omega
     case o7=>exact iy.out.size
     intro v4 w4 wX nA _;have WV:Hid (Below w.heap.size w w4):=iy.out.grown nA iy.out.size (fun q hq=>Gr R4.out hq);have RN:Hid (w4.ownsRow w.heap.size 90 10 v4 (Num.fV (l.take (k+1))).length ((Num.fV (l.take (k+1))).flatMap Ae)):=by show w4.ownsRow _ _ _ _ _ _;rw [NV.out,List.length_append,List.flatMap_append,QT.out];exact wX
     clear wX nA R4 iy NV QT;go_wp2;go_roundw
     case rel=>exact ⟨k+1,hlt,by go_num,RN.out,WV.out⟩
     case measure=>simp [intOf];omega
    ·have NV:Hid (Num.fV (l.take (k+1))=Num.fV (l.take k)):=by show _=_;rw [hsn,if_pos (by rw [hsp];rfl),List.append_nil]
     have WV:Hid (Below w.heap.size w (wr.alloc (.cells #[.bool false,.int .i64 fn,.int .i64 fd,.bool to,.int .i64 tn,.int .i64 td,.int .i64 bn,.int .i64 bd,.int .i64 sn,.int .i64 sd] 90))):=ai hbl (af _ _);have RN:Hid _:=World.ownsRow.kept HOWN.out (World.grownBy_alloc wr (.cells #[.bool false,.int .i64 fn,.int .i64 fd,.bool to,.int .i64 tn,.int .i64 td,.int .i64 bn,.int .i64 bd,.int .i64 sn,.int .i64 sd] 90) none) (by cases u3.ownBlock<;>simp);clear hsn hsp hown hHr;go_wp2;go_roundw
     case rel=>exact ⟨k+1,hlt,by go_num,by rw [NV.out];exact RN.out,WV.out⟩
     case measure=>simp [intOf];omega
   ·skip
    have hgx:=(World.grownBy_alloc wr (.cells #[.bool true,.int .i64 fn,.int .i64 fd,.bool to,.int .i64 tn,.int .i64 td,.int .i64 bn,.int .i64 bd,.int .i64 sn,.int .i64 sd] 90) none).trans (World.grownBy_alloc _ (.cells #[.bool true,.int .i64 fn,.int .i64 fd,.bool to,.int .i64 tn,.int .i64 td,.int .i64 bn,.int .i64 bd,.int .i64 sn,.int .i64 sd] 90) none);have R4:Hid _:=World.ownsRow.kept HOWN.out hgx (by cases u3.ownBlock<;>simp);have iy:Hid (Below w.heap.size w ((wr.alloc (.cells #[.bool true,.int .i64 fn,.int .i64 fd,.bool to,.int .i64 tn,.int .i64 td,.int .i64 bn,.int .i64 bd,.int .i64 sn,.int .i64 sd] 90)).alloc (.cells #[.bool true,.int .i64 fn,.int .i64 fd,.bool to,.int .i64 tn,.int .i64 td,.int .i64 bn,.int .i64 bd,.int .i64 sn,.int .i64 sd] 90))):=ai (ai hbl (af _ _)) (af _ _);have NV:Hid (Num.fV (l.take (k+1))=Num.fV (l.take k) ++ [⟨⟨true,fn,fd⟩,⟨to,tn,td⟩,bn,bd,sn,sd⟩]):=by show _=_;rw [hsn,if_neg (by rw [hsp];simp)]
    have hwl:(Num.fV (l.take k)).length<=k:=Nat.le_trans (List.length_filter_le _ _) (by rw [List.length_take];omega);clear hgx hsn hsp hown hHr;generalize hcnt:(Num.fV (l.take k)).length=cnt at *;have QT:Hid _:=hcnt;clear hcnt;go_wp2_with (at_builtin;refine wpList_append_own _ rfl (.tmp 22) (.tmp 24) 84 rfl w.heap.size 90 i0 (.agg #[.bool false,.int .i64 0,.int .i64 0,.bool false,.int .i64 0,.int .i64 0,.int .i64 0,.int .i64 0,.int .i64 0,.int .i64 0]) 10 80 Tryz.underlying84 hif hz0 hz1 hz2 rfl (by decide) _ cnt _ rfl R4.out ⟨wr.heap.size+1,0,none⟩ 1 1 [.bool true,.int .i64 fn,.int .i64 fd,.bool to,.int .i64 tn,.int .i64 td,.int .i64 bn,.int .i64 bd,.int .i64 sn,.int .i64 sd] rfl rfl ?o3 ?o4 ?o5 ?o6 ?o7 ?_)
    case o3 =>intro j u hu;rw [show wr.heap.size+1=(wr.alloc (.cells #[.bool true,.int .i64 fn,.int .i64 fd,.bool to,.int .i64 tn,.int .i64 td,.int .i64 bn,.int .i64 bd,.int .i64 sn,.int .i64 sd] 90)).heap.size by simp,Addr.add_lit,Nat.zero_add,World.cell?_alloc_new];simpa using hu
    case o4 =>intro u hu;simp only [List.mem_cons,List.not_mem_nil,or_false] at hu;rcases hu with rfl|rfl|rfl|rfl|rfl|rfl|rfl|rfl|rfl|rfl<;>rfl
    case o5=>unfold maxLen;omega
    case o6=>omega
    case o7=>exact iy.out.size
    intro v4 w4 wX nA _;have WV:Hid (Below w.heap.size w w4):=iy.out.grown nA iy.out.size (fun q hq=>Gr R4.out hq);have RN:Hid (w4.ownsRow w.heap.size 90 10 v4 (Num.fV (l.take (k+1))).length ((Num.fV (l.take (k+1))).flatMap Ae)):=by show w4.ownsRow _ _ _ _ _ _;rw [NV.out,List.length_append,List.flatMap_append,QT.out];exact wX
    clear wX nA R4 iy NV QT;go_wp2;go_roundw
    case rel=>exact ⟨k+1,hlt,by go_num,RN.out,WV.out⟩
    case measure=>simp [intOf];omega
  ·have hke:k=n:=by omega
   subst hke;have htk:l.take k=l:=List.take_of_length_le (by have:=HN.out;omega);rw [htk] at hown;obtain ⟨a,c,rfl⟩:=Jg hown;have Uh:Hid (rP wr a (Num.fV l).length (Num.fV l)):=Ug hown;have jH:Hid (dE wr g l):=dE.below HH.out hbl hg;have hgr:g < wr.heap.size:=Nat.lt_of_lt_of_le hg hbl.size;have Mh:Hid (Below w.heap.size w wr):=hbl;have K9:Hid (Num.jK l=if Num.fV l=[] then l.take 1 else Num.fV l):=rfl;clear hown HOWN htk hbl;by_cases hz:(Num.fV l).length=0
   ·have hlo:Num.jK l=l.take 1:=by rw [K9.out,if_pos (List.eq_nil_of_length_eq_zero hz)]
    have Ui:Hid _:=hlo;have hz':(((Num.fV l).length:Int) == 0)=true:=by simp [hz]
    by_cases hk0:k=0
    ·have jB:Hid (rP wr (some ⟨g,0,none⟩) (l.take 1).length (l.take 1)):=⟨rfl,Or.inl (by rw [List.length_take];have:=HN.out;omega)⟩;have XA:Hid ((l.take 1).length=0):=by show _=_;rw [List.length_take];have:=HN.out;omega
     subst hk0;have hmin:min (0:Int) 1=0:=by decide
     clear hlo Uh jH K9;go_wp2_with fail;go_ret;rw [Ui.out];refine ⟨some ⟨g,0,none⟩,cap,?_,jB.out,Mh.out⟩;rw [XA.out];rfl
    ·have jB:Hid (rP wr (some ⟨g,0,none⟩) (l.take 1).length (l.take 1)):=⟨rfl,Or.inr ⟨g,rfl,hgr,dE.take jH.out 1⟩⟩;have XA:Hid ((l.take 1).length=1):=by show _=_;rw [List.length_take];have:=HN.out;omega
     have hmin:min (k:Int) 1=1:=by omega
     clear hlo Uh jH K9;go_wp2_with fail;go_ret;rw [Ui.out];refine ⟨some ⟨g,0,none⟩,cap,?_,jB.out,Mh.out⟩;rw [XA.out];rfl
   ·have hlo:Num.jK l=Num.fV l:=by rw [K9.out,if_neg (fun h=>hz (by rw [h];rfl))]
    have Ui:Hid _:=hlo;have hz':(((Num.fV l).length:Int) == 0)=false:=by simpa using hz
    clear hlo jH K9;go_wp2_with fail;go_ret;rw [Ui.out];exact ⟨a,c,rfl,Uh.out,Mh.out⟩
end Go.Proofs.YtipcbhodlgoflabGreatDoor
