/- The map of lines: what lies in it, a look into it, a store. -/
import Derived.DeepKeys4
import Derived.Maps.RangeRun
import Derived.Test.YtipcbhodlgoflabGreatDoorPlnB
import Derived.Test.YtipcbhodlgoflabGreatDoorBxs
namespace Go.Proofs.YtipcbhodlgoflabGreatDoor
open Go.RowKit Go.WideMaps
open Go.ChangeMaps (setBlock)
def Num.xk (x:Num.Pc) : Prop:=(-1073741824<=x.f.n/\x.f.n<=1073741824)/\(-1073741824<=x.f.d/\x.f.d<=1073741824)/\(-1073741824<=x.t.n/\x.t.n<=1073741824)/\(-1073741824<=x.t.d/\x.t.d<=1073741824)/\(-1073741824<=x.bn/\x.bn<=1073741824)/\(-1073741824<=x.bd/\x.bd<=1073741824)/\(-1073741824<=x.sn/\x.sn<=1073741824)/\(-1073741824<=x.sd/\x.sd<=1073741824)
def dP (x:Num.Pc) : Value:=.agg #[.int .i64 x.bn,.int .i64 x.bd,.int .i64 x.sn,.int .i64 x.sd]
def gQ (x:Num.Pc) : Value:=.agg #[.bool x.f.o,.int .i64 x.f.n,.int .i64 x.f.d,.bool x.t.o,.int .i64 x.t.n,.int .i64 x.t.d]
theorem qy {x y:Num.Pc} : dP x=dP y<->Num.bW x y:=by
 unfold dP Num.bW;constructor
 ·intro h;injection h with h;have:=congrArg Array.toList h;simp at this;exact this
 ·rintro ⟨h1,h2,h3,h4⟩;rw [h1,h2,h3,h4]
theorem Tryz.laidOut:laidOutB Tryz.prog=true:=by kernel_rfl
theorem TJ:(164:TypeId) < Tryz.prog.types.size:=of_decide_eq_true (by kernel_rfl)
theorem M0:2<=Tryz.prog.types.size:=of_decide_eq_true (by kernel_rfl)
theorem xM:KeyLaw Tryz.prog 164:=deep_law_laid Tryz.laidOut (m:=3) (by omega) TJ (by kernel_rfl) (by rw [Tryz.underlying164])
theorem BG:Tryz.prog.cellsOf 164=4:=by kernel_rfl
theorem FL:Tryz.prog.cellsOf 66=2:=by kernel_rfl
theorem P8:Tryz.prog.cellsOf 2=1:=by kernel_rfl
theorem P9:Tryz.prog.keyType 164=true:=by kernel_rfl
theorem qz {P:Program} {d:Nat} {t:TypeId} {fs:Array Field} {cs:List Value} (h:P.underlying t=some (.struct fs)) (hl:cs.length=P.cellsOf t/\fs.all (·.name != "_")=true) :
  P.keyLits (d+1) t cs=(fs.toList.mapM fun f=>P.keyLits d f.type ((cs.drop f.offset).take (P.cellsOf f.type))).map List.flatten:=by
 generalize hR:(fs.toList.mapM fun f=>P.keyLits d f.type ((cs.drop f.offset).take (P.cellsOf f.type))).map List.flatten=R;unfold Program.keyLits;rw [h];simp only [hl,and_self,if_true];exact hR
theorem uG (x:Num.Pc) (hx:Num.xk x) : ∃l,keyOf Tryz.prog 164 (dP x)=some l:=by
 have uL:=Tryz.underlying164;have uF:=Tryz.underlying66;have uI:=Tryz.underlying2;obtain ⟨_,_,_,_,h1,h2,h3,h4⟩:=hx;have wf:∀n:Int,-1073741824<=n/\n<=1073741824->(Lit.int .i64 n).wf=true:=fun n hn=>by
  have h1:IntKind.i64.min=-9223372036854775808:=by decide
  have h2:IntKind.i64.max=9223372036854775807:=by decide
  show (decide (IntKind.i64.min<=n) && decide (n<=IntKind.i64.max))=true;rw [h1,h2,Bool.and_eq_true,decide_eq_true_eq,decide_eq_true_eq];omega
 have w1:=wf _ h1;have w2:=wf _ h2;have w3:=wf _ h3;have w4:=wf _ h4;have fo:(dP x).formed Tryz.prog 164=true:=by simp [dP,Value.formed,uL,BG]
 obtain ⟨N,hN⟩ : ∃N,Tryz.prog.types.size+1=N+3:=⟨Tryz.prog.types.size - 2,by have:=M0;omega⟩;have kI:∀(N:Nat) (n:Int),(Lit.int .i64 n).wf=true->Tryz.prog.keyLits (N+1) 2 [.int .i64 n]=some [.int .i64 n]:=fun N n hn=>by
  unfold Program.keyLits;rw [uI];simp only [hn,and_self,if_true]
 have kF:∀(N:Nat) (a b:Int),(Lit.int .i64 a).wf=true->(Lit.int .i64 b).wf=true->Tryz.prog.keyLits (N+1+1) 66 [.int .i64 a,.int .i64 b]=some [.int .i64 a,.int .i64 b]:=fun N a b ha hb=>by
  rw [qz uF ⟨by rw [FL];rfl,by simp⟩];simp only [List.mapM_cons,List.mapM_nil,P8,List.drop_zero,List.drop_succ_cons,List.take_succ_cons,List.take_zero,kI N a ha,kI N b hb];rfl
 have kL:Tryz.prog.keyLits (N+1+1+1) 164 [.int .i64 x.bn,.int .i64 x.bd,.int .i64 x.sn,.int .i64 x.sd]=some [.int .i64 x.bn,.int .i64 x.bd,.int .i64 x.sn,.int .i64 x.sd]:=by rw [qz uL ⟨by rw [BG];rfl,by simp⟩];simp only [List.mapM_cons,List.mapM_nil,FL,List.drop_zero,List.drop_succ_cons,List.take_succ_cons,List.take_zero,kF N _ _ w1 w2,kF N _ _ w3 w4];rfl
 refine ⟨.string (keyBytes [.int .i64 x.bn,.int .i64 x.bd,.int .i64 x.sn,.int .i64 x.sd]),?_⟩;unfold keyOf;rw [uL];simp only [P9,fo,Bool.and_self,if_true];rw [hN];show Option.map _ (Tryz.prog.keyLits (N+1+1+1) 164 [.int .i64 x.bn,.int .i64 x.bd,.int .i64 x.sn,.int .i64 x.sd])=_;rw [kL];rfl
def fT (w:World) (r:Nat) (l:List Num.Pc) : Prop:=∃es clock,w.heap[r]? = some (.map es clock)/\es.toList.map (fun e=>(e.key,e.val))=l.map (fun x=>(dP x,gQ x))/\(∀e∈es.toList,e.born < clock)/\(es.toList.map (·.born)).Nodup/\(l.Pairwise fun y z=>¬ Num.bW y z)/\∀y∈l,Num.xk y
theorem fT.kept {w w':World} {r:Nat} {l:List Num.Pc} (h:fT w r l) (hb:w'.heap[r]? = w.heap[r]?) : fT w' r l:=by obtain ⟨es,clock,h1,h2⟩:=h;exact ⟨es,clock,hb.trans h1,h2⟩
theorem fT.below {w w':World} {r:Nat} {l:List Num.Pc} (h:fT w r l) (hb:Below w.heap.size w w') : fT w' r l:=by refine h.kept (hb.block r ?_);obtain ⟨es,clock,h1,_⟩:=h;exact (Array.getElem?_eq_some_iff.1 h1).1
theorem fT.new (w:World) : fT (w.alloc (.map #[] 0)) w.heap.size [] :=
 ⟨#[],0,(MapKept.heap_alloc w _).1,rfl,fun e he=>by simp at he,by simp,List.Pairwise.nil,fun y hy=>by cases hy⟩
theorem DF {es:List MapEntry} {l:List Num.Pc} (h:es.map (fun e=>(e.key,e.val))=l.map (fun x=>(dP x,gQ x))) {j:Nat} {e:MapEntry} (he:es[j]? = some e) : ∃y,l[j]? = some y/\e.key=dP y/\e.val=gQ y:=by
 have:=congrArg (fun t=>t[j]?) h;simp only [List.getElem?_map,he,Option.map_some] at this;cases hl:l[j]? with
 | none=>rw [hl] at this;cases this
 | some y =>rw [hl] at this;simp only [Option.map_some,Option.some.injEq,Prod.mk.injEq] at this;exact ⟨y,rfl,this.1,this.2⟩
theorem TK {es:List MapEntry} {l:List Num.Pc} (h:es.map (fun e=>(e.key,e.val))=l.map (fun x=>(dP x,gQ x))) {y:Num.Pc} (hy:y∈l) : ∃e∈es,e.key=dP y/\e.val=gQ y:=by
 have:(dP y,gQ y)∈es.map (fun e=>(e.key,e.val)):=by rw [h];exact List.mem_map.2 ⟨y,hy,rfl⟩
 obtain ⟨e,he,h1⟩:=List.mem_map.1 this;injection h1 with h1 h2;exact ⟨e,he,h1,h2⟩
theorem fT.find {es:Array MapEntry} {l:List Num.Pc} (h:es.toList.map (fun e=>(e.key,e.val))=l.map (fun x=>(dP x,gQ x))) (hok:∀y∈l,Num.xk y) (x:Num.Pc) (hx:Num.xk x) (w:World) :
  ((Instr.findKey 164 (dP x) es.toList).run Tryz.prog w=.ok none w/\∀y∈l,¬ Num.bW y x)\/∃j e y,(Instr.findKey 164 (dP x) es.toList).run Tryz.prog w=.ok (some (j,gQ y)) w/\es.toList[j]? = some e/\l[j]? = some y/\e.key=dP x/\Num.bW y x:=by
 obtain ⟨lx,hlx⟩:=uG x hx;rcases xM.find w hlx es.toList (fun e he=>by
  obtain ⟨j,hj⟩:=List.getElem?_of_mem he;obtain ⟨y,hy,e1,_⟩:=DF h hj;rw [e1];exact uG y (hok y (List.mem_of_getElem? hy))) with ⟨h1,h2⟩|⟨j,e,h1,h2,h3⟩
 ·refine Or.inl ⟨h1,fun y hy hs=>?_⟩;obtain ⟨e,he,e1,_⟩:=TK h hy;exact h2 e he (e1.trans (qy.2 hs))
 ·obtain ⟨y,hy,e1,e2⟩:=DF h h2;exact Or.inr ⟨j,e,y,by rw [h1,e2],h2,hy,h3,qy.1 (e1.symm.trans h3)⟩
def BH:Num.Pc:=⟨⟨false,0,0⟩,⟨false,0,0⟩,0,0,0,0⟩
theorem fT.look {w:World} {r:Nat} {l:List Num.Pc} (h:fT w r l) (x:Num.Pc) (hx:Num.xk x) :
  (∃y∈l,Num.bW y x/\(Instr.lookup 131 (.map (some r)) (dP x) true).run Tryz.prog w=.ok (.tuple #[gQ y,.bool true]) w)\/
  ((∀y∈l,¬ Num.bW y x)/\(Instr.lookup 131 (.map (some r)) (dP x) true).run Tryz.prog w=.ok (.tuple #[gQ BH,.bool false]) w):=by
 obtain ⟨es,clock,h1,h2,_,_,_,h6⟩:=h;obtain ⟨lx,hlx⟩:=uG x hx;have uM:=Tryz.underlying131;have hz:(zeroValue 166).run Tryz.prog w=.ok (gQ BH) w:=by kernel_rfl
 have hck:=xM.check w es.isEmpty hlx;rcases fT.find h2 h6 x hx w with ⟨f1,f2⟩|⟨j,e,y,f1,f2,f3,f4,f5⟩
 ·refine Or.inr ⟨f2,?_⟩;simp [Instr.lookup,run_underlying uM,MapKept.run_getObj_map h1,hck,f1,hz,Result.andThen]
 ·refine Or.inl ⟨y,List.mem_of_getElem? f3,f5,?_⟩;simp [Instr.lookup,run_underlying uM,MapKept.run_getObj_map h1,hck,f1,Result.andThen]
def Num.updN:List Num.Pc->Num.Pc->List Num.Pc
 | [],x=>[x]
 | y :: l,x=>if Num.bW y x then x :: l else y :: Num.updN l x
theorem Num.uH (x:Num.Pc) : ∀l:List Num.Pc,(∀y∈l,¬ Num.bW y x)->Num.updN l x=l ++ [x]:=by
 intro l
 induction l with
 | nil=>intro _;rfl
 | cons y l ih =>intro h;unfold Num.updN;rw [if_neg (h y (by simp)),ih (fun z hz=>h z (by simp [hz]))];rfl
theorem Num.Ww (x:Num.Pc) : ∀(l:List Num.Pc) (j:Nat) (y:Num.Pc),(l.Pairwise fun y z=>¬ Num.bW y z)->l[j]? = some y->Num.bW y x->Num.updN l x=l.set j x:=by
 intro l
 induction l with
 | nil=>intro j y _ h;simp at h
 | cons z l ih =>
  intro j y hp hj hs;obtain ⟨h1,h2⟩:=List.pairwise_cons.1 hp;unfold Num.updN;cases j with
  | zero =>simp only [List.getElem?_cons_zero,Option.some.injEq] at hj;subst hj;rw [if_pos hs];rfl
  | succ j =>rw [List.getElem?_cons_succ] at hj;have hn:¬ Num.bW z x:=fun hc=>h1 y (List.mem_of_getElem? hj) (Num.qx hc (Num.sO hs));rw [if_neg hn,ih j y h2 hj hs];rfl
theorem Num.zh (x:Num.Pc) : ∀(l:List Num.Pc) (y:Num.Pc),(l.Pairwise fun y z=>¬ Num.bW y z)->y∈l->Num.bW y x->Num.joinedN l x=Num.updN l (Num.dF y x):=by
 intro l
 induction l with
 | nil=>intro y _ h;cases h
 | cons z l ih =>
  intro y hp hy hs;obtain ⟨h1,h2⟩:=List.pairwise_cons.1 hp;unfold Num.updN Num.joinedN;rcases List.mem_cons.1 hy with hy|hy
  ·subst hy;rw [if_pos hs,if_pos (show Num.bW y (Num.dF y x) from ⟨rfl,rfl,rfl,rfl⟩)]
  ·have hn:¬ Num.bW z x:=fun hc=>h1 y hy (Num.qx hc (Num.sO hs));have hn2:¬ Num.bW z (Num.dF y x):=fun hc=>h1 y hy hc;rw [if_neg hn,if_neg hn2,ih y h2 hy hs]
theorem Num.join_none (x:Num.Pc) : ∀l:List Num.Pc,(∀y∈l,¬ Num.bW y x)->Num.joinedN l x=l ++ [x]:=by
 intro l
 induction l with
 | nil=>intro _;rfl
 | cons y l ih =>intro h;unfold Num.joinedN;rw [if_neg (h y (by simp)),ih (fun z hz=>h z (by simp [hz]))];rfl
theorem Num.TL (x:Num.Pc) : ∀l:List Num.Pc,(l.Pairwise fun y z=>¬ Num.bW y z)->(Num.updN l x).Pairwise fun y z=>¬ Num.bW y z:=by
 intro l
 induction l with
 | nil=>intro _;exact List.pairwise_singleton _ _
 | cons y l ih =>
  intro h;obtain ⟨h1,h2⟩:=List.pairwise_cons.1 h;unfold Num.updN;by_cases hs:Num.bW y x
  ·rw [if_pos hs];exact List.pairwise_cons.2 ⟨fun z hz hc=>h1 z hz (Num.qx hs hc),h2⟩
  ·rw [if_neg hs];refine List.pairwise_cons.2 ⟨fun z hz hc=>?_,ih h2⟩;have key:∀(l:List Num.Pc),z∈Num.updN l x->z∈l\/z=x:=by
    intro l
    induction l with
    | nil=>intro h;exact Or.inr (by simpa [Num.updN] using h)
    | cons w l ih =>
     intro h;unfold Num.updN at h;split at h
     ·rcases List.mem_cons.1 h with h|h
      ·exact Or.inr h
      ·exact Or.inl (by simp [h])
     ·rcases List.mem_cons.1 h with h|h
      ·exact Or.inl (by simp [h])
      ·rcases ih h with h|h
       ·exact Or.inl (by simp [h])
       ·exact Or.inr h
   rcases key l hz with hz|hz
   ·exact h1 z hz hc
   ·subst hz;exact hs hc
theorem Num.TM (x z:Num.Pc) : ∀(l:List Num.Pc),z∈Num.updN l x->z∈l\/z=x:=by
 intro l
 induction l with
 | nil=>intro h;exact Or.inr (by simpa [Num.updN] using h)
 | cons w l ih =>
  intro h;unfold Num.updN at h;split at h
  ·rcases List.mem_cons.1 h with h|h
   ·exact Or.inr h
   ·exact Or.inl (by simp [h])
  ·rcases List.mem_cons.1 h with h|h
   ·exact Or.inl (by simp [h])
   ·rcases ih h with h|h
    ·exact Or.inl (by simp [h])
    ·exact Or.inr h
theorem fT.put {w:World} {r:Nat} {l:List Num.Pc} (h:fT w r l) (x:Num.Pc) (hx:Num.xk x) :
  ∃o,(Instr.mapUpdate 131 (.map (some r)) (dP x) (gQ x)).run Tryz.prog w=.ok () (setBlock w r o)/\fT (setBlock w r o) r (Num.updN l x):=by
 obtain ⟨es,clock,h1,h2,h3,h4,h5,h6⟩:=h;obtain ⟨lx,hlx⟩:=uG x hx;have uM:=Tryz.underlying131;have hck:=xM.check w false hlx;have hpo:=Num.TL x l h5;have hok:∀y∈Num.updN l x,Num.xk y:=fun y hy=>by
  rcases Num.TM x y l hy with hy|hy
  ·exact h6 y hy
  ·subst hy;exact hx
 rcases fT.find h2 h6 x hx w with ⟨f1,f2⟩|⟨j,e,y,f1,f2,f3,f4,f5⟩
 ·refine ⟨.map (es.push { key:=dP x,val:=gQ x,born:=clock }) (clock+1),?_,?_⟩
  ·simp [Instr.mapUpdate,run_underlying uM,MapKept.run_getObj_map h1,hck,f1,MapKept.run_setObj_map _ h1,Result.andThen,setBlock]
  ·refine ⟨_,_,(MapKept.heap_set h1).1,?_,?_,?_,hpo,hok⟩
   ·rw [Num.uH x l f2];simp [h2]
   ·intro z hz;simp at hz;rcases hz with hz|hz
    ·have:=h3 z (by simpa using hz);omega
    ·subst hz;exact Nat.lt_succ_self _
   ·simp only [Array.toList_push,List.map_append,List.map_cons,List.map_nil];refine List.nodup_append.2 ⟨h4,by simp,fun a ha b hb=>?_⟩;simp only [List.mem_singleton] at hb;subst hb;obtain ⟨z,hz,rfl⟩:=List.mem_map.1 ha;have:=h3 z hz;omega
 ·have hst:=xM.stays w hlx;have hj:es[j]? = some e:=by rw [<-Array.getElem?_toList];exact f2
  refine ⟨.map (es.modify j fun e=>{ e with key:=dP x,val:=gQ x }) clock,?_,?_⟩
  ·simp [Instr.mapUpdate,run_underlying uM,MapKept.run_getObj_map h1,hck,f1,hj,f4,hst,MapKept.run_setObj_map _ h1,Result.andThen,setBlock]
  ·have hmod:(es.modify j fun e=>{ e with key:=dP x,val:=gQ x }).toList=es.toList.set j { e with key:=dP x,val:=gQ x }:=by
    apply List.ext_getElem?;intro i;rw [Array.getElem?_toList,Array.getElem?_modify,List.getElem?_set];by_cases hij:j=i
    ·subst hij;rw [if_pos rfl,if_pos rfl,hj];have:j < es.toList.length:=(List.getElem?_eq_some_iff.1 f2).1;rw [if_pos this];rfl
    ·rw [if_neg hij,if_neg hij,Array.getElem?_toList]
   refine ⟨_,_,(MapKept.heap_set h1).1,?_,?_,?_,hpo,hok⟩
   ·rw [hmod,Num.Ww x l j y h5 f3 f5,List.map_set,List.map_set,h2]
   ·intro z hz;rw [hmod] at hz;rcases List.mem_or_eq_of_mem_set hz with hz|hz
    ·exact h3 z hz
    ·subst hz;exact h3 e (List.mem_of_getElem? f2)
   ·rw [hmod,List.map_set];have:(es.toList.map (·.born)).set j e.born=es.toList.map (·.born):=by
     apply List.ext_getElem?;intro i;rw [List.getElem?_set];by_cases hij:j=i
     ·subst hij;rw [if_pos rfl,List.getElem?_map,f2,if_pos (by rw [List.length_map];exact (List.getElem?_eq_some_iff.1 f2).1)];rfl
     ·rw [if_neg hij]
    rw [this];exact h4
end Go.Proofs.YtipcbhodlgoflabGreatDoor
