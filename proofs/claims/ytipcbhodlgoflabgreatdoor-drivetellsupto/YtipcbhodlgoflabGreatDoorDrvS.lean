/- A strings.Builder at any place of any block: what its functions do, and what they leave as it was. -/
import Derived.Test.YtipcbhodlgoflabGreatDoorBaseA
import Derived.Test.YtipcbhodlgoflabGreatDoorShy
import Derived.Lib.FrozenHead2
import Derived.Test.YtipcbhodlgoflabGreatDoorDrvN
import Derived.Test.YtipcbhodlgoflabGreatDoorTxCD
import Derived.Test.YtipcbhodlgoflabGreatDoorDrvA
set_option maxHeartbeats 2000000
set_option maxRecDepth 8000
namespace Go.Proofs.YtipcbhodlgoflabGreatDoor
open Go.RowKit
structure Kp (S:Nat->Prop) (w w':World) : Prop where
 os:w'.os=w.os
 tape:w'.tape=w.tape
 output:w'.output=w.output
 size:w.heap.size<=w'.heap.size
 block:∀k,k < w.heap.size->¬ S k->w'.heap[k]? = w.heap[k]?
theorem Kp.refl (S:Nat->Prop) (w:World) : Kp S w w:=⟨rfl,rfl,rfl,Nat.le_refl _,fun _ _ _=>rfl⟩
theorem Kp.of {S:Nat->Prop} {w w':World} (h:Below w.heap.size w w') : Kp S w w':=⟨h.os,h.tape,h.output,h.size,fun k hk _=>h.block k hk⟩
theorem Kp.trans {S S' T:Nat->Prop} {a b c:World} (h:Kp S a b) (k:Kp S' b c) (h1:∀i,i < a.heap.size->S i->T i) (h2:∀i,i < a.heap.size->S' i->T i) : Kp T a c :=
 ⟨k.os.trans h.os,k.tape.trans h.tape,k.output.trans h.output,Nat.le_trans h.size k.size,fun i hi hn =>
  (k.block i (Nat.lt_of_lt_of_le hi h.size) (fun h'=>hn (h2 i hi h'))).trans (h.block i hi (fun h'=>hn (h1 i hi h')))⟩
theorem Kp.set {S:Nat->Prop} {a b:World} (h:Kp S a b) (p:Addr) (hp:S p.block) (u:Value) : Kp S a (b.setCell p u) :=
 ⟨h.os,h.tape,h.output,by simpa [World.setCell] using h.size,fun k hk hn=>by
  rw [Below.heap_setCell _ _ _ _ (fun e=>hn (by rw [e];exact hp))];exact h.block k hk hn⟩
theorem Kp.grown {S:Nat->Prop} {a b c:World} {row:Option Nat} (h:Kp S a b) (hg:b.grownBy c row) (hr:∀g,row=some g->S g) : Kp S a c :=
 ⟨hg.os.trans h.os,hg.tape.trans h.tape,hg.output.trans h.output,Nat.le_trans h.size hg.size,fun k hk hn=>by
  rw [hg.block k (Nat.lt_of_lt_of_le hk h.size) (fun e=>hn (hr k e.symm))];exact h.block k hk hn⟩
theorem Kp.below {S:Nat->Prop} {a b c:World} (h:Kp S a b) (k:Below b.heap.size b c) : Kp S a c :=
 ⟨k.os.trans h.os,k.tape.trans h.tape,k.output.trans h.output,Nat.le_trans h.size k.size,fun i hi hn=>(k.block i (Nat.lt_of_lt_of_le hi h.size)).trans (h.block i hi hn)⟩
theorem Kp.toBelow {S:Nat->Prop} {a b:World} {B:Nat} (h:Kp S a b) (hB:B<=a.heap.size) (hS:∀k,S k->B<=k) : Below B a b :=
 ⟨h.os,h.tape,h.output,h.size,fun k hk=>h.block k (by omega) (fun h'=>by have:=hS k h';omega)⟩
def At' (v v':Value) (w:World) : Prop:=∀g,v'.ownBlock=some g->v.ownBlock=some g\/w.heap.size<=g
theorem zT {P:Program} (w:World) (t u ty e:TypeId) (i:TypeInfo) (ht:P.underlying t=some (.slice e)) (hu:P.underlying u=some .string) (hi:P.info? e=some i) (hz:i.zero=some (.int .u8 0))
  (hsize:i.size=1) (hby:i.bytes=1) (v:Value) (n:Nat) (xs:List Value) (hown:w.ownsRowF 0 e 1 v n xs) (s:ByteArray) (h63:n+s.size<=maxLen) (hbytes:n+s.size<=140737488355328) :
  ∃v' w',(Builtin.append_ #[t,u] ty #[v,.string s]).run P w=.ok v' w'/\w'.ownsRowF 0 e 1 v' (n+s.size) (xs ++ Lib.strCells s)/\w.grownBy w' v.ownBlock/\At' v v' w:=by
 rcases hown.2 with ⟨rfl,rfl⟩|⟨g,cap,cur,fz,rfl,hbg,hg,hfz,hnc,hcm,hcs,htake⟩
 ·have hx:xs=[]:=List.eq_nil_of_length_eq_zero (by simpa using hown.1);subst hx;obtain ⟨v',w',r1,r2,r3,_⟩:=Lib.run_append_own_stringF (P:=P) w w.heap.size t u ty e i ht hu hi hz hsize hby (.slice none 0 0) 0 [] (World.ownsRowF_nil _ _ _ _) s h63 hbytes (Nat.le_refl _);refine ⟨v',w',r1,⟨r2.1,?_⟩,r3,fun g hg=>Or.inr (r2.lt g hg).1⟩;rcases r2.2 with h|⟨g,cap,cur,fz,h1,h2,h3⟩
  ·exact Or.inl h
  ·exact Or.inr ⟨g,cap,cur,fz,h1,Nat.zero_le _,h3⟩
 ·obtain ⟨v',w',r1,r2,r3,_⟩:=Lib.run_append_own_stringF (P:=P) w 0 t u ty e i ht hu hi hz hsize hby _ n xs hown s h63 hbytes (Nat.zero_le _);refine ⟨v',w',r1,r2,r3,?_⟩;have hxl:xs.length=n:=by simpa using hown.1
  by_cases hroom:n+s.size<=cap
  ·have hcs':cur.size=cap:=by simpa using hcs
   have hr:=Lib.run_append_room_stringF (P:=P) w t u ty e i ht hu hi hsize g n cap cur fz hg (by simpa using hfz) s hroom (by omega);rw [r1] at hr;simp only [Result.ok.injEq] at hr;rw [hr.1];intro g' h;exact Or.inl h
  ·have holds:∀j u,xs[j]? = some u->w.cell? ((⟨g,0,none⟩ : Addr).add j)=some u:=hown.cells (g:=g) rfl;have hr:=Lib.run_append_grow_string (P:=P) w t u ty e i (.int .u8 0) ht hu hi hz ⟨g,0,none⟩ n cap xs (by rw [hsize];simpa using hxl) holds s (by omega) (by simp only [maxLen] at h63;omega) (by rw [hby];exact growslice_fits (by omega) (by omega));rw [r1] at hr;simp only [Result.ok.injEq] at hr;rw [hr.1];intro g' h;have:w.heap.size=g':=by simpa [Value.ownBlock] using h
   exact Or.inr (by omega)
theorem xw {P:Program} (w:World) (t ty e:TypeId) (i:TypeInfo) (ht:P.underlying t=some (.slice e)) (hi:P.info? e=some i) (hz:i.zero=some (.int .u8 0))
  (hsize:i.size=1) (hby:i.bytes=1) (v:Value) (n:Nat) (xs:List Value) (hown:w.ownsRowF 0 e 1 v n xs) (a:Addr) (u:Value) (hu:w.cell? (a.add 0)=some u) (h1:u.oneCell'=true) (h63:n+1<=maxLen) (hbytes:n+1<=140737488355328) :
  ∃v' w',(Builtin.append_ #[t,t] ty #[v,.slice (some a) 1 1]).run P w=.ok v' w'/\w'.ownsRowF 0 e 1 v' (n+1) (xs ++ [u])/\w.grownBy w' v.ownBlock/\At' v v' w:=by
 have hnews:∀(j:Nat) x,[u][j]? = some x->w.cell? (a.add j)=some x:=by
  intro j x hj
  match j,hj with
  | 0,hj=>simp at hj;subst hj;exact hu
 have h1':∀x∈[u],x.oneCell'=true:=by intro x hx;simp at hx;subst hx;exact h1
 rcases hown.2 with ⟨rfl,rfl⟩|⟨g,cap,cur,fz,rfl,hbg,hg,hfz,hnc,hcm,hcs,htake⟩
 ·have hx:xs=[]:=List.eq_nil_of_length_eq_zero (by simpa using hown.1);subst hx;obtain ⟨v',w',r1,r2,r3,_⟩:=run_append_ownF (P:=P) w w.heap.size t ty e i (.int .u8 0) 1 1 ht hi hz hsize hby rfl (by decide) (.slice none 0 0) 0 [] (World.ownsRowF_nil _ _ _ _) a 1 1 [u] rfl hnews h1' h63 (by omega) (Nat.le_refl _);refine ⟨v',w',r1,⟨r2.1,?_⟩,r3,fun g hg=>Or.inr (r2.lt g hg).1⟩;rcases r2.2 with h|⟨g,cap,cur,fz,h1,h2,h3⟩
  ·exact Or.inl h
  ·exact Or.inr ⟨g,cap,cur,fz,h1,Nat.zero_le _,h3⟩
 ·obtain ⟨v',w',r1,r2,r3,_⟩:=run_append_ownF (P:=P) w 0 t ty e i (.int .u8 0) 1 1 ht hi hz hsize hby rfl (by decide) _ n xs hown a 1 1 [u] rfl hnews h1' h63 (by omega) (Nat.zero_le _);refine ⟨v',w',r1,r2,r3,?_⟩;have hxl:xs.length=n:=by simpa using hown.1
  by_cases hroom:n+1<=cap
  ·have hcs':cur.size=cap:=by simpa using hcs
   have hr:=run_append_roomF (P:=P) w t ty e i ht hi g n cap cur fz hg (by rw [hsize];simpa using hfz) a 1 1 [u] (by rw [hsize];rfl) hnews h1' hroom (by rw [hsize];simp;omega);rw [r1] at hr;simp only [Result.ok.injEq] at hr;rw [hr.1];intro g' h;exact Or.inl h
  ·have holds:∀j u,xs[j]? = some u->w.cell? ((⟨g,0,none⟩ : Addr).add j)=some u:=hown.cells (g:=g) rfl;have hr:=run_append_grow (P:=P) w t ty e i (.int .u8 0) ht hi hz ⟨g,0,none⟩ n cap xs (by rw [hsize];simpa using hxl) holds a 1 1 [u] (by rw [hsize];rfl) hnews (by omega) (by simp only [maxLen] at h63;omega) (by rw [hby];exact growslice_fits (by omega) (by omega));rw [r1] at hr;simp only [Result.ok.injEq] at hr;rw [hr.1];intro g' h;have:w.heap.size=g':=by simpa [Value.ownBlock] using h
   exact Or.inr (by omega)
theorem pI {P:Program} (w:World) {ops:Array Oper} {rest:List Oper} {o:Oper} {a:Act} {Q:Exit->Act->World->Prop} (hgd:o.guard=none) (sl x:Operand) (t u:TypeId)
  (ho:o.op=.call { callee:=.builtin .append,args := #[sl,x],argTypes := #[t,u] })
  (e:TypeId) (i:TypeInfo) (ht:P.underlying t=some (.slice e)) (hu:P.underlying u=some .string) (hi:P.info? e=some i) (hz:i.zero=some (.int .u8 0)) (hsize:i.size=1) (hby:i.bytes=1)
  (v:Value) (n:Nat) (xs:List Value) (hs:a.eval sl=v) (hown:w.ownsRowF 0 e 1 v n xs) (s:ByteArray) (hx:a.eval x=.string s) (h63:n+s.size<=maxLen) (hbytes:n+s.size<=140737488355328)
  (h:∀v' w',w'.ownsRowF 0 e 1 v' (n+s.size) (xs ++ Lib.strCells s)->w.grownBy w' v.ownBlock->At' v v' w->wpList P ops Q rest (a.put o.dst v') w') : wpList P ops Q (o :: rest) a w:=by
 refine wpList_plain hgd fun K hK=>?_;obtain ⟨v',w',hr,h2,h3,h4⟩:=zT (P:=P) w t u o.type e i ht hu hi hz hsize hby v n xs hown s h63 hbytes;unfold Oper.wp execOp;simp only [ho,resolve,invoke,builtin,Sem.run_bind,Sem.run_pure,Result.andThen_ok,List.map_toArray,List.map_cons,List.map_nil,hs,hx,hr];exact hK _ _ (h v' w' h2 h3 h4)
theorem oM {P:Program} (w:World) {ops:Array Oper} {rest:List Oper} {o:Oper} {a:Act} {Q:Exit->Act->World->Prop} (hgd:o.guard=none) (sl x:Operand) (t:TypeId)
  (ho:o.op=.call { callee:=.builtin .append,args := #[sl,x],argTypes := #[t,t] })
  (e:TypeId) (i:TypeInfo) (ht:P.underlying t=some (.slice e)) (hi:P.info? e=some i) (hz:i.zero=some (.int .u8 0)) (hsize:i.size=1) (hby:i.bytes=1)
  (v:Value) (n:Nat) (xs:List Value) (hs:a.eval sl=v) (hown:w.ownsRowF 0 e 1 v n xs) (ad:Addr) (u:Value) (hx:a.eval x=.slice (some ad) 1 1) (hu:w.cell? (ad.add 0)=some u) (h1:u.oneCell'=true) (h63:n+1<=maxLen) (hbytes:n+1<=140737488355328)
  (h:∀v' w',w'.ownsRowF 0 e 1 v' (n+1) (xs ++ [u])->w.grownBy w' v.ownBlock->At' v v' w->wpList P ops Q rest (a.put o.dst v') w') : wpList P ops Q (o :: rest) a w:=by
 refine wpList_plain hgd fun K hK=>?_;obtain ⟨v',w',hr,h2,h3,h4⟩:=xw (P:=P) w t o.type e i ht hi hz hsize hby v n xs hown ad u hu h1 h63 hbytes;unfold Oper.wp execOp;simp only [ho,resolve,invoke,builtin,Sem.run_bind,Sem.run_pure,Result.andThen_ok,List.map_toArray,List.map_cons,List.map_nil,hs,hx,hr];exact hK _ _ (h v' w' h2 h3 h4)
structure nX (b off:Nat) (cs:Array Value) (T:TypeId) (v:Value) (l:List UInt8) (w:World) : Prop where
 heap:w.heap[b]? = some (.cells cs T (0,0))
 Xe:cs[off]? = some (.pointer none)\/cs[off]? = some (.pointer (some ⟨b,off,none⟩))
 buf:cs[off+1]? = some v
 own:w.ownsRowF 0 5 1 v l.length (Lib.byteCells l)
structure NG (T:TypeId) (n off:Nat) : Prop where
 ne:T≠5
 lies:liesAt Tryz.prog Tryz.prog.depth T (n / Tryz.prog.cellsOf T) off 46 1=true
theorem nX.apart {b off:Nat} {cs:Array Value} {T:TypeId} {v:Value} {l:List UInt8} {w:World} (h:nX b off cs T v l w) (hT:T≠5) : v.ownBlock≠some b:=by
 intro e;rcases h.own.2 with ⟨rfl,_⟩|⟨g,cap,cur,fz,rfl,_,hg,_⟩
 ·cases e
 ·have:g=b:=by simpa [Value.ownBlock] using e
  subst this;rw [h.heap] at hg;simp only [Option.some.injEq,Obj.cells.injEq] at hg;exact hT hg.2.1
theorem nX.lt {b off:Nat} {cs:Array Value} {T:TypeId} {v:Value} {l:List UInt8} {w:World} (h:nX b off cs T v l w) : b < w.heap.size:=(Array.getElem?_eq_some_iff.1 h.heap).1
theorem nX.kept {b off:Nat} {cs:Array Value} {T:TypeId} {v:Value} {l:List UInt8} {w w':World} {S:Nat->Prop} (h:nX b off cs T v l w) (k:Kp S w w') (h1:¬ S b) (h2:∀g,v.ownBlock=some g->¬ S g) : nX b off cs T v l w':=by
 refine ⟨by rw [k.block b h.lt h1];exact h.heap,h.Xe,h.buf,h.own.1,?_⟩;rcases h.own.2 with hn|⟨g,cap,cur,fz,rfl,hb,hg,r⟩
 ·exact Or.inl hn
 ·exact Or.inr ⟨g,cap,cur,fz,rfl,hb,by rw [k.block g (Array.getElem?_eq_some_iff.1 hg).1 (h2 g rfl)];exact hg,r⟩
theorem heap_set {w:World} {b:Nat} {cs:Array Value} {T:TypeId} {fz:Nat×Nat} (h:w.heap[b]? = some (.cells cs T fz)) (j:Nat) (u:Value) : (w.setCell ⟨b,j,none⟩ u).heap[b]? = some (.cells (cs.setIfInBounds j u) T fz):=by simp [World.setCell,Array.getElem?_modify,h]
set_option maxRecDepth 100000 in
theorem GM (b off:Nat) (w:World) (h0:w.cell? ⟨b,off,none⟩=some (.pointer (some ⟨b,off,none⟩))) :
  Calls Tryz.prog 42 #[.pointer (some ⟨b,off,none⟩)] w fun e w'=>e=.returned (.tuple #[])/\w'=w:=by
 obtain ⟨j,hj,_⟩:=Option.map_eq_some_iff.1 Tryz.extraBld.sizeBuilder;go_enter Tryz.func42,Tryz.ntmps42;go_wp2;rw [Lib.run_neq_ptr_same w _ Tryz.underlying43 hj];go_wp2;go_end0;exact ⟨rfl,rfl⟩
set_option maxRecDepth 100000 in
theorem DZ (b off n:Nat) (T:TypeId) (w:World) (h0:w.cell? ⟨b,off,none⟩=some (.pointer none)) (hsh:w.shape? b=some (T,n)) (hoff:off < n) (hl:NG T n off) (hfz:w.frozen? ⟨b,off,none⟩=false) :
  Calls Tryz.prog 42 #[.pointer (some ⟨b,off,none⟩)] w fun e w'=>e=.returned (.tuple #[])/\w'=w.setCell ⟨b,off,none⟩ (.pointer (some ⟨b,off,none⟩)):=by
 obtain ⟨j,hj,hjs⟩:=Option.map_eq_some_iff.1 Tryz.extraBld.sizeBuilder;go_enter Tryz.func42,Tryz.ntmps42;go_wp2;rw [Lib.run_to_unsafe w ⟨b,off,none⟩ Tryz.underlying43 Tryz.underlying140 hj (by rw [hjs];decide) hsh hoff];simp only [Result.andThen];rw [Oper.upon_value];go_wp2;rw [run_callFunc_extern Tryz.func83 (by kernel_rfl) (by kernel_rfl) (by kernel_rfl) (e:=Extern.AbiNoEscape.same) (by kernel_rfl)];rw [Lib.run_noEscape];simp only [Result.andThen];rw [Oper.upon_value];go_wp2;rw [Lib.run_from_unsafe w ⟨b,off,none⟩ Tryz.underlying140 Tryz.underlying43 hj hsh hl.lies];simp only [Result.andThen];rw [Oper.upon_value];go_wp2;go_end0;exact ⟨rfl,rfl⟩
def self (b off:Nat) : Value:=.pointer (some ⟨b,off,none⟩)
theorem Rm {w:World} {b:Nat} {cs:Array Value} {T:TypeId} {fz:Nat×Nat} (h:w.heap[b]? = some (.cells cs T fz)) : w.shape? b=some (T,cs.size):=by simp [World.shape?,h]
theorem zU (b off:Nat) (cs:Array Value) (T:TypeId) (v:Value) (l:List UInt8) (w:World) (h:nX b off cs T v l w) (hl:NG T cs.size off) :
  Calls Tryz.prog 42 #[.pointer (some ⟨b,off,none⟩)] w fun e w'=>e=.returned (.tuple #[])/\nX b off (cs.setIfInBounds off (self b off)) T v l w'/\Kp (fun k=>k=b) w w':=by
 have hlt:off < cs.size:=by rcases h.Xe with h|h<;>exact (Array.getElem?_eq_some_iff.1 h).1
 rcases h.Xe with h0|h0
 ·refine (DZ b off cs.size T w (by rw [Lib.cell_of_heap h.heap];exact h0) (Rm h.heap) hlt hl (Lib.frozen_of_heap h.heap off)).mono ?_;rintro e w' ⟨rfl,rfl⟩;have k:Kp (fun k=>k=b) w (w.setCell ⟨b,off,none⟩ (self b off)):=Kp.set (Kp.refl (fun k=>k=b) w) ⟨b,off,none⟩ rfl (self b off);refine ⟨rfl,⟨heap_set h.heap off _,Or.inr (by simp [hlt,self]),by rw [Array.getElem?_setIfInBounds_ne (by omega)];exact h.buf,h.own.1,?_⟩,k⟩;rcases h.own.2 with hn|⟨g,cap,cur,fz,rfl,hb,hg,r⟩
  ·exact Or.inl hn
  ·refine Or.inr ⟨g,cap,cur,fz,rfl,hb,?_,r⟩;have hne:g≠b:=fun e=>h.apart hl.ne (by rw [e];rfl);exact (k.block g (Array.getElem?_eq_some_iff.1 hg).1 hne).trans hg
 ·refine (GM b off w (by rw [Lib.cell_of_heap h.heap];exact h0)).mono ?_;rintro e w' ⟨rfl,rfl⟩;refine ⟨rfl,?_,Kp.refl _ _⟩;have e1:cs.setIfInBounds off (self b off)=cs:=by
   apply Array.ext_getElem?;intro i;by_cases hi:i=off
   ·subst hi;simp [hlt];rw [Array.getElem?_eq_getElem hlt] at h0;exact (Option.some.inj h0).symm
   ·rw [Array.getElem?_setIfInBounds_ne (by omega)]
  rw [e1];exact h
theorem nX.put {b off:Nat} {cs:Array Value} {T:TypeId} {v':Value} {l':List UInt8} {w:World} (h0:cs[off]? = some (self b off)) (hlt:off+1 < cs.size) (hT:T≠5) (hb:w.heap[b]? = some (.cells cs T (0,0))) (hown:w.ownsRowF 0 5 1 v' l'.length (Lib.byteCells l')) :
  nX b off (cs.setIfInBounds (off+1) v') T v' l' (w.setCell ⟨b,off+1,none⟩ v'):=by
 have hne:=Lib.ownBlock_neF hown hb hT;refine ⟨heap_set hb _ _,Or.inr (by rw [Array.getElem?_setIfInBounds_ne (by omega)];exact h0),by simp [hlt],?_⟩;exact hown.kept (row:=some b) ⟨rfl,rfl,rfl,by simp [World.setCell],fun k _ hk=>Below.heap_setCell _ _ _ _ (fun e=>hk (by simp [e]))⟩ (Or.inr hne)
set_option maxRecDepth 100000 in
theorem zV (b off:Nat) (cs:Array Value) (T:TypeId) (v:Value) (l:List UInt8) (s:ByteArray) (w:World) (h:nX b off cs T v l w) (hl:NG T cs.size off) (hlen:l.length+s.size<=140737488355328) :
  Calls Tryz.prog 14 #[.pointer (some ⟨b,off,none⟩),.string s] w fun e w'=>e=.returned (.tuple #[.int .i64 s.size,.nilIface])/\
   ∃v',nX b off ((cs.setIfInBounds off (self b off)).setIfInBounds (off+1) v') T v' (l ++ s.data.toList) w'/\At' v v' w/\Kp (fun k=>k=b\/v.ownBlock=some k) w w':=by
 obtain ⟨i0,hi,hz0,hz1,hz2⟩:=info_parts Tryz.extraBld.infoByte;have HH:Hid (nX b off cs T v l w):=h;have hlt1:off+1 < cs.size:=(Array.getElem?_eq_some_iff.1 h.buf).1;clear h;go_enter Tryz.func14,Tryz.ntmps14;go_wp2_with fail;refine (zU b off cs T v l w HH.out hl).mono ?_;rintro e w1 ⟨rfl,h1,k1⟩;have H1:Hid (nX b off (cs.setIfInBounds off (self b off)) T v l w1):=h1;have K1:Hid (Kp (fun k=>k=b) w w1):=k1;have c1:w1.cell? ⟨b,off+1,none⟩=some v:=by rw [Lib.cell_of_heap h1.heap];exact h1.buf
 clear h1 k1;go_wp2_with (at_builtin;refine pI _ rfl (.tmp 12) (.tmp 13) 44 9 rfl 5 i0 Tryz.underlying44 Tryz.underlying9 hi hz0 hz1 hz2 v _ _ rfl H1.out.own s rfl ?c3 ?c4 ?_)
 case c3=>unfold maxLen;omega
 case c4=>omega
 intro v' w2 hown' hgrow hat;have HO:Hid (w2.ownsRowF 0 5 1 v' (l ++ s.data.toList).length (Lib.byteCells (l ++ s.data.toList))):=by show World.ownsRowF _ _ _ _ _ _ _;rw [Lib.byteCells_append,List.length_append];exact hown'
 have HB2:Hid (w2.heap[b]? = some (.cells (cs.setIfInBounds off (self b off)) T (0,0))):=by show _=_;rw [hgrow.block b H1.out.lt (fun e=>H1.out.apart hl.ne e.symm)];exact H1.out.heap
 have d1:w2.cell? ⟨b,off+1,none⟩=some v:=by rw [Lib.cell_of_heap HB2.out];exact H1.out.buf
 have f1:w2.frozen? ⟨b,off+1,none⟩=false:=Lib.frozen_of_heap HB2.out (off+1);have HA:Hid (At' v v' w):=fun g hg=>by
  rcases hat g hg with h|h
  ·exact Or.inl h
  ·exact Or.inr (Nat.le_trans K1.out.size h)
 have HK:Hid (Kp (fun k=>k=b\/v.ownBlock=some k) w w2):=Kp.grown (K1.out.trans (Kp.refl (fun _=>False) w1) (fun _ _ h=>Or.inl h) (fun _ _ h=>h.elim)) hgrow (fun g h=>Or.inr h);obtain ⟨ao,n',cap,rfl⟩ : ∃ao n' cap,v'=.slice ao n' cap:=by
  rcases hown'.2 with ⟨hv,_⟩|⟨g,cap,cur,fz,hv,_⟩
  ·exact ⟨_,_,_,hv⟩
  ·exact ⟨_,_,_,hv⟩
 clear hown' hgrow hat c1;go_wp2_with fail;go_ret2;refine ⟨rfl,_,nX.put (by simp [self,Nat.lt_of_succ_lt hlt1]) (by simpa using hlt1) hl.ne HB2.out HO.out,HA.out,HK.out.set ⟨b,off+1,none⟩ (Or.inl rfl) _⟩
set_option maxRecDepth 100000 in
theorem Cc (b off:Nat) (cs:Array Value) (T:TypeId) (v:Value) (l:List UInt8) (c:UInt8) (x:Int) (hx:x=(c.toNat:Int)) (w:World) (h:nX b off cs T v l w) (hl:NG T cs.size off) (hlen:l.length+1<=140737488355328) :
  Calls Tryz.prog 15 #[.pointer (some ⟨b,off,none⟩),.int .u8 x] w fun e w'=>e=.returned .nilIface/\
   ∃v',nX b off ((cs.setIfInBounds off (self b off)).setIfInBounds (off+1) v') T v' (l ++ [c]) w'/\At' v v' w/\Kp (fun k=>k=b\/v.ownBlock=some k) w w':=by
 obtain ⟨i0,hi,hz0,hz1,hz2⟩:=info_parts Tryz.extraBld.infoByte;have HH:Hid (nX b off cs T v l w):=h;have HX:Hid (x=(c.toNat:Int)):=hx;have hlt1:off+1 < cs.size:=(Array.getElem?_eq_some_iff.1 h.buf).1;clear h hx;go_enter Tryz.func15,Tryz.ntmps15;go_wp2_with fail;refine (zU b off cs T v l w HH.out hl).mono ?_;rintro e w1 ⟨rfl,h1,k1⟩;have H1:Hid (nX b off (cs.setIfInBounds off (self b off)) T v l w1):=h1;have K1:Hid (Kp (fun k=>k=b) w w1):=k1;have c1:w1.cell? ⟨b,off+1,none⟩=some v:=by rw [Lib.cell_of_heap h1.heap];exact h1.buf
 clear h1 k1;go_wp2_with (at_builtin;refine oM _ rfl (.tmp 11) (.tmp 13) 44 rfl 5 i0 Tryz.underlying44 hi hz0 hz1 hz2 v _ _ rfl (World.ownsRowF.alloc H1.out.own _) ⟨w1.heap.size,0,none⟩ (.int .u8 x) rfl ?c1 ?c2 ?c3 ?c4 ?_)
 case c1=>exact cB rfl _ _
 case c2=>rfl
 case c3=>unfold maxLen;omega
 case c4=>omega
 intro v' w2 hown' hgrow hat;have HO:Hid (w2.ownsRowF 0 5 1 v' (l ++ [c]).length (Lib.byteCells (l ++ [c]))):=by show World.ownsRowF _ _ _ _ _ _ _;rw [Lib.byteCells_append,List.length_append];rw [HX.out] at hown';exact hown'
 have HB2:Hid (w2.heap[b]? = some (.cells (cs.setIfInBounds off (self b off)) T (0,0))):=by show _=_;rw [hgrow.block b (by have:=H1.out.lt;simp;omega) (fun e=>H1.out.apart hl.ne e.symm),Lib.alloc_old w1 _ b H1.out.lt];exact H1.out.heap
 have d1:w2.cell? ⟨b,off+1,none⟩=some v:=by rw [Lib.cell_of_heap HB2.out];exact H1.out.buf
 have f1:w2.frozen? ⟨b,off+1,none⟩=false:=Lib.frozen_of_heap HB2.out (off+1);have HA:Hid (At' v v' w):=fun g hg=>by
  rcases hat g hg with h|h
  ·exact Or.inl h
  ·exact Or.inr (by have:=K1.out.size;simp at h;omega)
 have HK:Hid (Kp (fun k=>k=b\/v.ownBlock=some k) w w2):=Kp.grown ((K1.out.trans (Kp.refl (fun _=>False) w1) (fun _ _ h=>Or.inl h) (fun _ _ h=>h.elim)).below (Below.alloc (Below.refl w1.heap.size w1) (Nat.le_refl _) _)) hgrow (fun g h=>Or.inr h);obtain ⟨ao,n',cap,rfl⟩ : ∃ao n' cap,v'=.slice ao n' cap:=by
  rcases hown'.2 with ⟨hv,_⟩|⟨g,cap,cur,fz,hv,_⟩
  ·exact ⟨_,_,_,hv⟩
  ·exact ⟨_,_,_,hv⟩
 clear hown' hgrow hat c1;go_wp2_with fail;go_ret;refine ⟨rfl,_,nX.put (by simp [self,Nat.lt_of_succ_lt hlt1]) (by simpa using hlt1) hl.ne HB2.out HO.out,HA.out,HK.out.set ⟨b,off+1,none⟩ (Or.inl rfl) _⟩
theorem Rn (b off:Nat) (cs:Array Value) (T:TypeId) (v:Value) (l:List UInt8) (w:World) (h:nX b off cs T v l w) :
  Calls Tryz.prog 73 #[.pointer (some ⟨b,off,none⟩)] w fun e w'=>e=.returned (.int .i64 l.length)/\w'=w:=by
 have c1:w.cell? ⟨b,off+1,none⟩=some v:=by rw [Lib.cell_of_heap h.heap];exact h.buf
 obtain ⟨ao,cap,rfl⟩ : ∃ao cap,v=.slice ao l.length cap:=by
  rcases h.own.2 with ⟨hv,h0⟩|⟨g,cap,cur,fz,hv,_⟩
  ·exact ⟨_,_,by rw [hv,h0]⟩
  ·exact ⟨_,_,hv⟩
 clear h;go_enter Tryz.func73,Tryz.ntmps73;go_wp2_with fail;go_ret;exact ⟨rfl,rfl⟩
theorem Jy (b off:Nat) (cs:Array Value) (T:TypeId) (v:Value) (l:List UInt8) (w:World) (h:nX b off cs T v l w) :
  Calls Tryz.prog 74 #[.pointer (some ⟨b,off,none⟩)] w fun e w'=>e=.returned (.tuple #[])/\nX b off ((cs.setIfInBounds off (.pointer none)).setIfInBounds (off+1) (.slice none 0 0)) T (.slice none 0 0) [] w'/\Kp (fun k=>k=b) w w':=by
 have hlt1:off+1 < cs.size:=(Array.getElem?_eq_some_iff.1 h.buf).1;obtain ⟨u,hu⟩ : ∃u,cs[off]? = some u:=by rcases h.Xe with h|h<;>exact ⟨_,h⟩
 have c0:w.cell? ⟨b,off,none⟩=some u:=by rw [Lib.cell_of_heap h.heap];exact hu
 have f0:w.frozen? ⟨b,off,none⟩=false:=Lib.frozen_of_heap h.heap off;have HB2:Hid ((w.setCell ⟨b,off,none⟩ (.pointer none)).heap[b]? = some (.cells (cs.setIfInBounds off (.pointer none)) T (0,0))):=heap_set h.heap _ _;have d1:(w.setCell ⟨b,off,none⟩ (.pointer none)).cell? ⟨b,off+1,none⟩=some v:=by rw [Lib.cell_of_heap HB2.out,Array.getElem?_setIfInBounds_ne (by omega)];exact h.buf
 have f1:(w.setCell ⟨b,off,none⟩ (.pointer none)).frozen? ⟨b,off+1,none⟩=false:=Lib.frozen_of_heap HB2.out (off+1);have HK:Hid (Kp (fun k=>k=b) w (w.setCell ⟨b,off,none⟩ (.pointer none))):=Kp.set (Kp.refl (fun k=>k=b) w) ⟨b,off,none⟩ rfl _;clear h;go_enter Tryz.func74,Tryz.ntmps74;go_wp2_with fail;go_end0;refine ⟨rfl,⟨heap_set HB2.out _ _,Or.inl (by rw [Array.getElem?_setIfInBounds_ne (by omega)];simp [Nat.lt_of_succ_lt hlt1]),by simp [hlt1],World.ownsRowF_nil _ _ _ _⟩,HK.out.set ⟨b,off+1,none⟩ rfl _⟩
theorem Kp.drew {S:Nat->Prop} {a b:World} (h:Kp S a b) : Kp S a b.drew:=⟨h.os,h.tape,h.output,h.size,h.block⟩
theorem Kp.freeze {S:Nat->Prop} {a b:World} (h:Kp S a b) (p:Addr) (hp:S p.block) (n:Nat) : Kp S a (b.freeze p n):=by
 unfold World.freeze;split
 ·exact h
 ·refine ⟨h.os,h.tape,h.output,by simpa using h.size,fun k hk hn=>?_⟩;simp only [Array.getElem?_modify];rw [if_neg (fun e=>hn (by rw [<-e];exact hp))];exact h.block k hk hn
set_option maxRecDepth 100000 in
theorem D5 (b off:Nat) (cs:Array Value) (T:TypeId) (v:Value) (l:List UInt8) (w:World) (h:nX b off cs T v l w) (hT:T≠5) (h0:l≠[]) :
  Calls Tryz.prog 16 #[.pointer (some ⟨b,off,none⟩)] w fun e w'=>e=.returned (.string ⟨l.toArray⟩)/\nX b off cs T v l w'/\Kp (fun k=>v.ownBlock=some k) w w':=by
 have hl0:l.length≠0:=by simpa using h0
 have hown:=h.own;have hap:=h.apart hT;obtain ⟨g,cap,cur,fz,rfl,hbg,hg,hfz,hnc,hcm,hcs,htake⟩ : ∃g cap cur fz,v=.slice (some ⟨g,0,none⟩) l.length cap/\0<=g/\w.heap[g]? = some (.cells cur 5 fz)/\fz.2<=l.length*1/\l.length<=cap/\cap<=maxLen/\cur.size=cap*1/\cur.toList.take (l.length*1)=Lib.byteCells l:=by
  rcases hown.2 with ⟨_,hz⟩|⟨g,cap,cur,fz,hv,r⟩
  ·exact absurd hz hl0
  ·exact ⟨g,cap,cur,fz,hv,r⟩
 have hgb:g≠b:=fun e=>hap (by rw [e];rfl);have c1:w.drew.cell? ⟨b,off+1,none⟩=some (.slice (some ⟨g,0,none⟩) l.length cap):=by have:w.drew.heap[b]? = some (.cells cs T (0,0)):=h.heap;rw [Lib.cell_of_heap this];exact h.buf
 have hSD:(Builtin.unsafeSliceData_ #[44] 99 #[.slice (some ⟨g,0,none⟩) l.length cap]).run Tryz.prog w.drew=.ok (.pointer (some ⟨g,0,none⟩)) w.drew :=
  Lib.run_unsafeSliceData_row _ _ _ _ _ _ (by omega)
 have hUS:(Builtin.unsafeString_ #[99,3] 9 #[.pointer (some ⟨g,0,none⟩),.int .i64 l.length]).run Tryz.prog w.drew=.ok (.string ⟨l.toArray⟩) (w.drew.freeze ⟨g,0,none⟩ l.length):=by refine Lib.run_unsafeString_row w.drew 99 3 9 5 Tryz.underlying99 Tryz.extraBld.cellsByte g cur.size (by have hg':w.drew.heap[g]? = some (.cells cur 5 fz):=hg;simp [World.shape?,hg']) l h0 (by omega) (by unfold maxLen at hcm;omega) ?_;intro j x hx;have:=hown.cells (g:=g) rfl j (.int .u8 x.toNat) (by simp [Lib.byteCells,hx]);exact this
 have zB:Hid (nX b off cs T (.slice (some ⟨g,0,none⟩) l.length cap) l (w.drew.freeze ⟨g,0,none⟩ l.length)):=by
  refine ⟨?_,h.Xe,h.buf,hown.1,Or.inr ⟨g,cap,cur,?_⟩⟩
  ·unfold World.freeze;rw [if_neg hl0];simp only [Array.getElem?_modify];rw [if_neg hgb];exact h.heap
  ·refine ⟨(if fz.1 == fz.2 then (0,0+l.length) else (min fz.1 0,max fz.2 (0+l.length))),rfl,hbg,?_,?_,hnc,hcm,hcs,htake⟩
   ·unfold World.freeze;rw [if_neg hl0];have hg':w.drew.heap[g]? = some (.cells cur 5 fz):=hg;simp only [Array.getElem?_modify];simp [hg']
   ·split
    ·simp
    ·simp;omega
 have HK:Hid (Kp (fun k=>(Value.slice (some ⟨g,0,none⟩) l.length cap).ownBlock=some k) w (w.drew.freeze ⟨g,0,none⟩ l.length)):=Kp.freeze (Kp.drew (Kp.refl (fun k=>(Value.slice (some ⟨g,0,none⟩) l.length cap).ownBlock=some k) w)) ⟨g,0,none⟩ rfl _;clear hown h hap hfz hnc hcm hcs htake hbg;go_enter Tryz.func16,Tryz.ntmps16;have mixed:Tryz.prog.follows Departure.mixedOrders=true:=by kernel_rfl
 go_wp2;go_region_o
 all_goals (go_wp2;go_ret;exact ⟨rfl,zB.out,HK.out⟩)
set_option maxRecDepth 100000 in
theorem GN (b off:Nat) (cs:Array Value) (T:TypeId) (w:World) (h:nX b off cs T (.slice none 0 0) [] w) :
  Calls Tryz.prog 16 #[.pointer (some ⟨b,off,none⟩)] w fun e w'=>e=.returned (.string ⟨#[]⟩)/\nX b off cs T (.slice none 0 0) [] w'/\Kp (fun _=>False) w w':=by
 have hUS:∀(W:World) (q:Option Addr),(Builtin.unsafeString_ #[99,3] 9 #[.pointer q,.int .i64 0]).run Tryz.prog W=.ok (.string .empty) W:=fun W q=>Lib.run_unsafeString_none W _ _ _ q;have c1:w.drew.cell? ⟨b,off+1,none⟩=some (.slice none 0 0):=by have:w.drew.heap[b]? = some (.cells cs T (0,0)):=h.heap;rw [Lib.cell_of_heap this];exact h.buf
 have hSD:(Builtin.unsafeSliceData_ #[44] 99 #[.slice none 0 0]).run Tryz.prog w.drew=.ok (.pointer none) w.drew:=rfl;have zB:Hid (nX b off cs T (.slice none 0 0) [] w.drew):=⟨h.heap,h.Xe,h.buf,World.ownsRowF_nil _ _ _ _⟩;clear h;go_enter Tryz.func16,Tryz.ntmps16;have mixed:Tryz.prog.follows Departure.mixedOrders=true:=by kernel_rfl
 go_wp2;go_region_o
 all_goals (go_wp2;go_ret;exact ⟨rfl,zB.out,Kp.drew (Kp.refl _ _)⟩)
theorem wZ (b off:Nat) (cs:Array Value) (T:TypeId) (v:Value) (l:List UInt8) (w:World) (h:nX b off cs T v l w) (hT:T≠5) (h0:l=[]->v=.slice none 0 0) :
  Calls Tryz.prog 16 #[.pointer (some ⟨b,off,none⟩)] w fun e w'=>e=.returned (.string ⟨l.toArray⟩)/\nX b off cs T v l w'/\Kp (fun k=>v.ownBlock=some k) w w':=by
 by_cases hl:l=[]
 ·subst hl;obtain rfl:=h0 rfl;refine (GN b off cs T w h).mono ?_;rintro e w' ⟨rfl,h1,k⟩;exact ⟨rfl,h1,k.trans (Kp.refl (fun _=>False) _) (fun _ _ h=>h.elim) (fun _ _ h=>h.elim)⟩
 ·exact D5 b off cs T v l w h hT hl
open Go.RowKit
structure PS (w0:World) (P:Nat) (g:Num.Pl) (ca:Option Addr) (cl cc:Nat) (ra:Option Addr) (rl rc:Nat) (pv v:Value) (B E:Nat) (w:World) : Prop where
 laid:Laid w0
 base:Below w0.heap.size w0 w
 Uq:w0.heap.size<=P
 Vw:∀k,v.ownBlock=some k->w0.heap.size<=k
 bl:nX P 2 #[.slice ca cl cc,.slice ra rl rc,pv,v] 48 v g.text w
 bare:g.text=[]->v=.slice none 0 0
 Ur:g.prog=none->rl=0
 mF:∀q,g.prog=some q->q.may=true/\Af B E w ca cl ra rl q
 hi:E<=w.heap.size
 away:∀k,B<=k->k < E->k≠P/\v.ownBlock≠some k
def Ag (w0:World) (P:Nat) (g:Num.Pl) (v:Value) (B E:Nat) (w:World) : Prop:=∃ca cl cc ra rl rc pv,PS w0 P g ca cl cc ra rl rc pv v B E w
structure Mv (P:Nat) (v v':Value) (w w':World) : Prop where
 row:At' v v' w
 kp:Kp (fun k=>k=P\/v.ownBlock=some k) w w'
theorem Mv.of {P:Nat} {v:Value} {w w':World} (h:Below w.heap.size w w') : Mv P v v w w':=⟨fun _ h=>Or.inl h,Kp.of h⟩
theorem Mv.trans {P:Nat} {a b c:Value} {w w1 w2:World} (h:Mv P a b w w1) (k:Mv P b c w1 w2) : Mv P a c w w2:=by
 refine ⟨fun g hg=>?_,h.kp.trans k.kp (fun _ _ x=>x) (fun i hi x=>?_)⟩
 ·rcases k.row g hg with h1|h1
  ·exact h.row g h1
  ·exact Or.inr (Nat.le_trans h.kp.size h1)
 ·rcases x with x|x
  ·exact Or.inl x
  ·rcases h.row i x with h1|h1
   ·exact Or.inr h1
   ·omega
theorem Af.same {B E:Nat} {w w':World} {ca:Option Addr} {cl:Nat} {ra:Option Addr} {rl:Nat} {p:Num.Lp} (h:Af B E w ca cl ra rl p) (hs:∀k,B<=k->k < E->w'.heap[k]? = w.heap[k]?) : Af B E w' ca cl ra rl p :=
 fun w2 h1 h2=>h w2 h1 fun k hk hk'=>(h2 k hk hk').trans (hs k hk hk')
theorem Kp.base {S:Nat->Prop} {w0 w w':World} (h:Kp S w w') (hb:Below w0.heap.size w0 w) (hS:∀k,S k->w0.heap.size<=k) : Below w0.heap.size w0 w':=hb.trans (h.toBelow hb.size hS)
theorem PS.step {w0:World} {P:Nat} {g:Num.Pl} {ca:Option Addr} {cl cc:Nat} {ra:Option Addr} {rl rc:Nat} {pv v:Value} {B E:Nat} {w:World} (h:PS w0 P g ca cl cc ra rl rc pv v B E w) {pv' v':Value} {t:List UInt8} {w':World}
  (hb:nX P 2 #[.slice ca cl cc,.slice ra rl rc,pv',v'] 48 v' t w') (hm:Mv P v v' w w') (hbare:t=[]->v'=.slice none 0 0) : PS w0 P ⟨t,g.prog⟩ ca cl cc ra rl rc pv' v' B E w' where
 laid:=h.laid
 base:=hm.kp.base h.base (fun k hk=>by rcases hk with hk|hk;(rw [hk];exact h.Uq);exact h.Vw k hk)
 Uq:=h.Uq
 Vw:=fun k hk=>by
  rcases hm.row k hk with h1|h1
  ·exact h.Vw k h1
  ·exact Nat.le_trans h.base.size h1
 bl:=hb
 bare:=hbare
 Ur:=h.Ur
 mF:=fun q hq=>⟨(h.mF q hq).1,(h.mF q hq).2.same fun k hk hk'=>by
  have:=h.away k hk hk';exact hm.kp.block k (Nat.lt_of_lt_of_le hk' h.hi) (fun x=>by rcases x with x|x;exact this.1 x;exact this.2 x)⟩
 hi:=Nat.le_trans h.hi hm.kp.size
 away:=fun k hk hk'=>⟨(h.away k hk hk').1,fun e=>by
  rcases hm.row k e with h1|h1
  ·exact (h.away k hk hk').2 h1
  ·have:=h.hi;omega⟩
theorem PS.later {w0:World} {P:Nat} {g:Num.Pl} {ca:Option Addr} {cl cc:Nat} {ra:Option Addr} {rl rc:Nat} {pv v:Value} {B E:Nat} {w w':World} (h:PS w0 P g ca cl cc ra rl rc pv v B E w) (hb:Below w.heap.size w w') : PS w0 P g ca cl cc ra rl rc pv v B E w':=by have:=h.step (nX.kept h.bl (Kp.of (S:=fun _=>False) hb) (fun x=>x) (fun _ _ x=>x)) (Mv.of hb) h.bare;exact this
theorem Ag.later {w0:World} {P:Nat} {g:Num.Pl} {v:Value} {B E:Nat} {w w':World} (h:Ag w0 P g v B E w) (hb:Below w.heap.size w w') : Ag w0 P g v B E w':=by obtain ⟨ca,cl,cc,ra,rl,rc,pv,h⟩:=h;exact ⟨ca,cl,cc,ra,rl,rc,pv,h.later hb⟩
theorem PS.lies:NG 48 4 2:=⟨by decide,by kernel_rfl⟩
theorem PS.iF {w0:World} {P:Nat} {g:Num.Pl} {ca:Option Addr} {cl cc:Nat} {ra:Option Addr} {rl rc:Nat} {pv v:Value} {B E:Nat} {w:World} (h:PS w0 P g ca cl cc ra rl rc pv v B E w) : Laid w:=h.laid.later h.base
theorem PS.c0 {w0:World} {P:Nat} {g:Num.Pl} {ca:Option Addr} {cl cc:Nat} {ra:Option Addr} {rl rc:Nat} {pv v:Value} {B E:Nat} {w:World} (h:PS w0 P g ca cl cc ra rl rc pv v B E w) : w.cell? ⟨P,0,none⟩=some (.slice ca cl cc):=by rw [Lib.cell_of_heap h.bl.heap];rfl
theorem PS.c1 {w0:World} {P:Nat} {g:Num.Pl} {ca:Option Addr} {cl cc:Nat} {ra:Option Addr} {rl rc:Nat} {pv v:Value} {B E:Nat} {w:World} (h:PS w0 P g ca cl cc ra rl rc pv v B E w) : w.cell? ⟨P,1,none⟩=some (.slice ra rl rc):=by rw [Lib.cell_of_heap h.bl.heap];rfl
def Told (w0:World) (P:Nat) (v:Value) (B E:Nat) (w:World) (g':Num.Pl) (t:List UInt8) (e:Ending) (w':World) : Prop :=
 e=.returned (.string (B8 t))/\∃v' B' E',Ag w0 P g' v' B' E' w'/\Mv P v v' w w'/\((B'=B/\E'=E)\/w.heap.size<=B')
theorem Ro (w0:World) (P:Nat) (g:Num.Pl) (v:Value) (B E:Nat) (line:List UInt8) (w:World) (h:Ag w0 P g v B E w) (hlen:g.text.length+line.length+1<=100000000) :
  Calls Tryz.prog 32 #[.pointer (some ⟨P,0,none⟩),.string (B8 line)] w (Told w0 P v B E w ⟨g.text ++ line ++ [10],g.prog⟩ (Num.dC Num.xu (g.text ++ line ++ [10]).length)):=by
 obtain ⟨ca,cl,cc,ra,rl,rc,pv,h⟩:=h;have HH:Hid (PS w0 P g ca cl cc ra rl rc pv v B E w):=h;have hs:=aQ line;clear h;go_enter Tryz.func32,Tryz.ntmps32;go_wp2_with fail;refine (zV P 2 _ _ v g.text (B8 line) w HH.out.bl PS.lies (by omega)).mono ?_;rintro e w1 ⟨rfl,v1,h1,a1,k1⟩;have HB1:Hid (nX P 2 #[.slice ca cl cc,.slice ra rl rc,self P 2,v1] 48 v1 (g.text ++ line) w1):=by rw [iX] at h1;exact h1
 have XG:Hid (Mv P v v1 w w1):=⟨a1,k1⟩;clear h1 a1 k1;go_wp2_with fail;refine (Cc P 2 _ _ v1 (g.text ++ line) 10 10 rfl w1 HB1.out PS.lies (by rw [List.length_append];omega)).mono ?_;rintro e w2 ⟨rfl,v2,h2,a2,k2⟩;have HB2:Hid (nX P 2 #[.slice ca cl cc,.slice ra rl rc,self P 2,v2] 48 v2 (g.text ++ line ++ [10]) w2):=h2;have UL:Hid (Mv P v v2 w w2):=XG.out.trans ⟨a2,k2⟩;have Ay:Hid (PS w0 P ⟨g.text ++ line ++ [10],g.prog⟩ ca cl cc ra rl rc (self P 2) v2 B E w2):=HH.out.step HB2.out UL.out (fun h=>by simp at h);clear h2 a2 k2;go_wp2_with fail;refine (Rn P 2 _ _ v2 (g.text ++ line ++ [10]) w2 HB2.out).mono ?_;rintro e w3 ⟨rfl,rfl⟩;have hl3:(g.text ++ line ++ [10]).length<=100000000:=by rw [List.length_append,List.length_append,List.length_singleton];exact hlen
 generalize hN:(g.text ++ line ++ [10]).length=N at hl3 ⊢;have HN:Hid ((g.text ++ line ++ [10]).length=N):=hN;clear hN;go_wp2_with fail;refine (nT N (by omega) (by omega) _ Ay.out.iF.tab).mono ?_;rintro e w4 ⟨rfl,hb4⟩;have hd:=ed (N:Int) (by omega) (by omega);go_wp2_with fail;refine (mD _ Num.xu (Num.aR N) w4 rfl (by decide) (by omega)).mono ?_;rintro e w5 ⟨rfl,hb5⟩;have hb:Below w3.heap.size w3 w5:=ai hb4 hb5;clear hb4 hb5;go_wp2_with fail;go_ret;exact ⟨by rw [HN.out];rfl,v2,B,E,⟨ca,cl,cc,ra,rl,rc,_,Ay.out.later hb⟩,UL.out.trans (Mv.of hb),Or.inl ⟨rfl,rfl⟩⟩
theorem Jz (w0:World) (P:Nat) (g:Num.Pl) (v:Value) (B E:Nat) (w:World) (h:Ag w0 P g v B E w) :
  Calls Tryz.prog 33 #[.pointer (some ⟨P,0,none⟩)] w (Told w0 P v B E w ⟨[],g.prog⟩ Num.xu):=by
 obtain ⟨ca,cl,cc,ra,rl,rc,pv,h⟩:=h;have HH:Hid (PS w0 P g ca cl cc ra rl rc pv v B E w):=h;clear h;go_enter Tryz.func33,Tryz.ntmps33;go_wp2_with fail;refine (Jy P 2 _ _ v g.text w HH.out.bl).mono ?_;rintro e w1 ⟨rfl,h1,k1⟩;have Rl:Hid (PS w0 P ⟨[],g.prog⟩ ca cl cc ra rl rc (.pointer none) (.slice none 0 0) B E w1/\Mv P v (.slice none 0 0) w w1):=by have hm:Mv P v (.slice none 0 0) w w1:=⟨fun g hg=>(by cases hg),k1.trans (Kp.refl (fun _=>False) _) (fun _ _ x=>Or.inl x) (fun _ _ x=>x.elim)⟩;exact ⟨HH.out.step h1 hm (fun _=>rfl),hm⟩
 clear h1 k1;go_wp2_with fail;go_ret;exact ⟨rfl,_,B,E,⟨ca,cl,cc,ra,rl,rc,_,Rl.out.1⟩,Rl.out.2,Or.inl ⟨rfl,rfl⟩⟩
theorem wo (c:UInt8) (s:List UInt8) : (Num.splitW c s).length<=s.length+1:=by
 induction s with
 | nil=>exact Nat.le_refl _
 | cons x s ih =>
  unfold Num.splitW;split
  ·rw [List.length_cons,List.length_cons];omega
  ·split
   ·simp
   ·rename_i w r e;rw [e,List.length_cons] at ih;rw [List.length_cons,List.length_cons];omega
theorem D6 (l:List UInt8) (k:Nat) (h:Num.mK l=.error k) : k<=l.length+1:=by
 have key:∀(ls:List (List UInt8)) (j:Nat) (p:Num.Lp),Num.readGo j p ls=.error k->k<=j+ls.length:=by
  intro ls
  induction ls with
  | nil=>intro j p h;unfold Num.readGo at h;simp at h;omega
  | cons a ls ih =>
   intro j p h;cases ls with
   | nil =>
    unfold Num.readGo at h;split at h
    ·cases h
    ·simp at h;simp;omega
   | cons b r =>
    unfold Num.readGo at h;split at h
    ·split at h
     ·simp at h;omega
     ·have:=ih _ _ h;simp at this ⊢;omega
    ·split at h
     ·simp at h;omega
     ·have:=ih _ _ h;simp at this ⊢;omega
 have:=key _ 0 _ h;have hs:=wo 10 l;omega
theorem PS.put {w0:World} {P:Nat} {g:Num.Pl} {ca:Option Addr} {cl cc:Nat} {ra:Option Addr} {rl rc:Nat} {pv v:Value} {B E:Nat} {w:World} (h:PS w0 P g ca cl cc ra rl rc pv v B E w) {xa:Option Addr} {xl xc:Nat} {ya:Option Addr} {yl yc:Nat} {p:Num.Lp} {B' E':Nat}
  (hp:Af B' E' w xa xl ya yl p) (hm:p.may=true) (hE:E'<=w.heap.size) (ha:∀k,B'<=k->k < E'->k≠P/\v.ownBlock≠some k) :
  PS w0 P ⟨g.text,some p⟩ xa xl xc ya yl yc pv v B' E' ((w.setCell ⟨P,0,none⟩ (.slice xa xl xc)).setCell ⟨P,1,none⟩ (.slice ya yl yc))/\Mv P v v w ((w.setCell ⟨P,0,none⟩ (.slice xa xl xc)).setCell ⟨P,1,none⟩ (.slice ya yl yc)):=by
 have k:Kp (fun k=>k=P) w ((w.setCell ⟨P,0,none⟩ (.slice xa xl xc)).setCell ⟨P,1,none⟩ (.slice ya yl yc)):=Kp.set (Kp.set (Kp.refl (fun k=>k=P) w) ⟨P,0,none⟩ rfl _) ⟨P,1,none⟩ rfl _;have hne:=h.bl.apart PS.lies.ne;refine ⟨?_,fun _ h=>Or.inl h,k.trans (Kp.refl (fun _=>False) _) (fun _ _ x=>Or.inl x) (fun _ _ x=>x.elim)⟩;exact {
  laid:=h.laid
  base:=k.base h.base (fun j hj=>by rw [hj];exact h.Uq)
  Uq:=h.Uq
  Vw:=h.Vw
  bl:=⟨heap_set (heap_set h.bl.heap 0 _) 1 _,h.bl.Xe,rfl,by
   have o1:=h.bl.own.kept (w':=w.setCell ⟨P,0,none⟩ (.slice xa xl xc)) (row:=some P) ⟨rfl,rfl,rfl,by simp [World.setCell],fun k _ hk=>Below.heap_setCell _ _ _ _ (fun e=>hk (by simp [e]))⟩ (Or.inr hne);exact o1.kept (row:=some P) ⟨rfl,rfl,rfl,by simp [World.setCell],fun k _ hk=>Below.heap_setCell _ _ _ _ (fun e=>hk (by simp [e]))⟩ (Or.inr hne)⟩
  bare:=h.bare
  Ur:=fun e=>by cases e
  mF:=fun q hq=>by
   cases hq;exact ⟨hm,hp.same fun j hj hj'=>k.block j (by omega) (fun e=>(ha j hj hj').1 e)⟩
  hi:=by simpa [World.setCell] using hE
  away:=ha }
def jF (g:Num.Pl) : Num.Pl×List UInt8:=match Num.mK g.text with
 | .error k=>(g,Num.dC Num.iK k)
 | .ok p=>(⟨g.text,some p⟩,Num.dC Num.xu p.rows.length)
theorem NH (w0:World) (P:Nat) (g:Num.Pl) (v:Value) (B E:Nat) (w:World) (h:Ag w0 P g v B E w) (hlen:g.text.length<=100000000) :
  Calls Tryz.prog 34 #[.pointer (some ⟨P,0,none⟩)] w (Told w0 P v B E w (jF g).1 (jF g).2):=by
 obtain ⟨ca,cl,cc,ra,rl,rc,pv,h⟩:=h;have HH:Hid (PS w0 P g ca cl cc ra rl rc pv v B E w):=h;clear h;go_enter Tryz.func34,Tryz.ntmps34;go_wp2_with fail;refine (wZ P 2 _ _ v g.text w HH.out.bl (by decide) HH.out.bare).mono ?_;rintro e w1 ⟨rfl,h1,k1⟩;have XG:Hid (Mv P v v w w1):=⟨fun _ h=>Or.inl h,k1.trans (Kp.refl (fun _=>False) _) (fun _ _ x=>Or.inr x) (fun _ _ x=>x.elim)⟩;have Rl:Hid (PS w0 P g ca cl cc ra rl rc pv v B E w1):=HH.out.step h1 XG.out HH.out.bare;clear h1 k1 HH;go_wp2_with fail;refine (Cb g.text (by omega) w1 Rl.out.iF).mono ?_;rintro e w2 ⟨xa,xl,xc,ya,yl,yc,rfl,rC,⟨_,hxl⟩,⟨hrw,hyl⟩,hb2⟩;have Xf:Hid (Af w1.heap.size w2.heap.size w2 xa xl ya yl (jO g.text)):=rC;have Ay:Hid (PS w0 P g ca cl cc ra rl rc pv v B E w2):=Rl.out.later hb2;have UL:Hid (Mv P v v w w2):=XG.out.trans (Mv.of hb2);have HW1:Hid (w.heap.size<=w1.heap.size/\P < w1.heap.size/\(∀k,v.ownBlock=some k->k < w1.heap.size)/\w1.heap.size<=w2.heap.size):=⟨XG.out.kp.size,Rl.out.bl.lt,fun k hk=>(Rl.out.bl.own.lt k hk).2,hb2.size⟩;clear rC hb2 Rl XG;cases hr:Num.mK g.text with
 | error k =>
  have E1:jN g.text=2:=by unfold jN;rw [hr]
  have E2:atR g.text=k:=by unfold atR;rw [hr]
  have HE:Hid ((jF g).1=g/\(jF g).2=Num.dC Num.iK k):=by unfold jF;rw [hr];exact ⟨rfl,rfl⟩
  have hk:(k:Int)<=100000001:=by have:=D6 g.text k hr;omega
  rw [E1,E2];clear E1 E2 hr;have hb3:=ai (af w2 (.cells #[.slice xa xl xc,.slice ya yl yc] 28)) (af _ (.cells #[.int .i64 2,.int .i64 k] 37));go_wp2_with fail;refine (uP k (by omega) (by omega) _ (Ay.out.later hb3).iF.tab).mono ?_;rintro e w4 ⟨rfl,hb4⟩;have hb:Below w2.heap.size w2 w4:=ai hb3 hb4;clear hb3 hb4;go_wp2_with fail;go_ret;rw [HE.out.1,HE.out.2];exact ⟨rfl,v,B,E,⟨ca,cl,cc,ra,rl,rc,_,Ay.out.later hb⟩,UL.out.trans (Mv.of hb),Or.inl ⟨rfl,rfl⟩⟩
 | ok p =>
  have E1:jN g.text=0:=by unfold jN;rw [hr]
  have E2:atR g.text=0:=by unfold atR;rw [hr]
  have E3:jO g.text=p:=by unfold jO;rw [hr]
  have HE:Hid ((jF g).1=⟨g.text,some p⟩/\(jF g).2=Num.dC Num.xu p.rows.length):=by unfold jF;rw [hr];exact ⟨rfl,rfl⟩
  have IM:Hid (p.may=true):=(Num.rV g.text p hr).1;rw [E3] at Xf hrw;rw [E1,E2];have Qu:Hid (yl=p.rows.length):=hrw.1;clear E1 E2 E3 hr hrw;have hb3:=ai (af w2 (.cells #[.slice xa xl xc,.slice ya yl yc] 28)) (af _ (.cells #[.int .i64 0,.int .i64 0] 37));have DY:Hid (PS w0 P g ca cl cc ra rl rc pv v B E ((w2.alloc (.cells #[.slice xa xl xc,.slice ya yl yc] 28)).alloc (.cells #[.int .i64 0,.int .i64 0] 37))):=Ay.out.later hb3;have hlt:P < w2.heap.size:=Ay.out.bl.lt;have z0:((w2.alloc (.cells #[.slice xa xl xc,.slice ya yl yc] 28)).alloc (.cells #[.int .i64 0,.int .i64 0] 37)).cell? ⟨w2.heap.size,0,none⟩=some (.slice xa xl xc):=carry (af _ _) (aU rfl _ _ _).1;have z1:((w2.alloc (.cells #[.slice xa xl xc,.slice ya yl yc] 28)).alloc (.cells #[.int .i64 0,.int .i64 0] 37)).cell? ⟨w2.heap.size,1,none⟩=some (.slice ya yl yc):=carry (af _ _) (aU rfl _ _ _).2;have Rp:Hid (Af w1.heap.size w2.heap.size ((w2.alloc (.cells #[.slice xa xl xc,.slice ya yl yc] 28)).alloc (.cells #[.int .i64 0,.int .i64 0] 37)) xa xl ya yl p):=Xf.out.same fun k _ hk=>hb3.block k hk;go_upto_region 4 with fail;generalize (w2.alloc (.cells #[.slice xa xl xc,.slice ya yl yc] 28)).alloc (.cells #[.int .i64 0,.int .i64 0] 37)=W at *;have c0:=DY.out.c0;have c1:=DY.out.c1;have f0:W.frozen? ⟨P,0,none⟩=false:=Lib.frozen_of_heap DY.out.bl.heap 0;have f1:W.frozen? ⟨P,1,none⟩=false:=Lib.frozen_of_heap DY.out.bl.heap 1;have TN:Hid (PS w0 P ⟨g.text,some p⟩ xa xl xc ya yl yc pv v w1.heap.size w2.heap.size ((W.setCell ⟨P,0,none⟩ (.slice xa xl xc)).setCell ⟨P,1,none⟩ (.slice ya yl yc))/\Mv P v v w ((W.setCell ⟨P,0,none⟩ (.slice xa xl xc)).setCell ⟨P,1,none⟩ (.slice ya yl yc))):=by obtain ⟨h1,h2⟩:=PS.put DY.out (xc:=xc) (yc:=yc) Rp.out IM.out hb3.size (fun k hk hk'=>⟨by have:=HW1.out.2.1;omega,fun e=>by have:=HW1.out.2.2.1 k e;omega⟩);exact ⟨h1,(UL.out.trans (Mv.of hb3)).trans h2⟩
  have d1:=TN.out.1.c1;clear Xf Rp Ay DY UL;go_wp2_with fail;generalize (W.setCell ⟨P,0,none⟩ (.slice xa xl xc)).setCell ⟨P,1,none⟩ (.slice ya yl yc)=X at *;refine (nT yl (by omega) (by omega) _ TN.out.1.iF.tab).mono ?_;rintro e w4 ⟨rfl,hb4⟩;have hd:=ed (yl:Int) (by omega) (by omega);clear d1 c0 c1 f0 f1 z0 z1;go_wp2_with fail;refine (mD _ Num.xu (Num.aR yl) w4 rfl (by decide) (by omega)).mono ?_;rintro e w5 ⟨rfl,hb5⟩;have hb:Below X.heap.size X w5:=ai hb4 hb5;clear hb4 hb5;go_wp2_with fail;go_ret;rw [HE.out.1,HE.out.2,<-Qu.out];exact ⟨rfl,v,w1.heap.size,w2.heap.size,⟨xa,xl,xc,ya,yl,yc,pv,TN.out.1.later hb⟩,TN.out.2.trans (Mv.of hb),Or.inr HW1.out.1⟩
open Go.RowKit
theorem Ce (g:Num.Pl) (K:Num.Ask) : Num.aS K g Num.jL=jF g:=by unfold Num.aS jF;rw [if_neg (by decide),if_neg (by decide),if_pos rfl];cases Num.mK g.text<;>rfl
theorem Told.of {w0:World} {P:Nat} {g:Num.Pl} {v:Value} {B E:Nat} {w:World} (h:Ag w0 P g v B E w) {t:List UInt8} {e:Ending} {w':World} (he:e=.returned (.string (B8 t))) (hb:Below w.heap.size w w') : Told w0 P v B E w g t e w' :=
 ⟨he,v,B,E,h.later hb,Mv.of hb,Or.inl ⟨rfl,rfl⟩⟩
theorem Rq (w0:World) (P:Nat) (g:Num.Pl) (v:Value) (B E:Nat) (more:List UInt8) (b1 b2:Nat) (w:World) (h:Ag w0 P g v B E w) (hlen:g.text.length+more.length+1<=100000000)
  (c1:w.cell? ⟨b1,0,none⟩=some (.pointer (some ⟨P,0,none⟩))) (c2:w.cell? ⟨b2,0,none⟩=some (.string (B8 more))) :
  Calls Tryz.prog 31 #[.pointer (some ⟨b1,0,none⟩),.pointer (some ⟨b2,0,none⟩)] w (Told w0 P v B E w ⟨g.text ++ more ++ [10],g.prog⟩ (Num.dC Num.xu (g.text ++ more ++ [10]).length)):=by
 have K:=Ro w0 P g v B E more w h hlen;generalize (⟨g.text ++ more ++ [10],g.prog⟩ : Num.Pl)=g' at K ⊢;generalize Num.dC Num.xu (g.text ++ more ++ [10]).length=t' at K ⊢;have KH:Hid (Calls Tryz.prog 32 #[.pointer (some ⟨P,0,none⟩),.string (B8 more)] w (Told w0 P v B E w g' t')):=K;clear h K;go_enter Tryz.func31,Tryz.ntmps31;go_wp2_with fail;refine KH.out.mono ?_;rintro e w1 ⟨rfl,hT⟩;go_wp2_with fail;go_ret;exact ⟨rfl,hT⟩
theorem Rs (w:World) : Calls Tryz.prog 40 #[] w fun e w'=>e=.returned (.string (B8 [63]))/\Below w.heap.size w w':=by go_enter Tryz.func40,Tryz.ntmps40;go_wp2_with fail;go_ret;exact ⟨rfl,Below.refl _ _⟩
theorem NI (P:Nat) (ca:Option Addr) (cl cc:Nat) (ra:Option Addr) (rl rc:Nat) (p:Num.Lp) (w:World) (h:Has P w ca cl cc ra rl rc p) (hL:Laid w) (na:Option Addr) (nl nc:Nat) (m:List Int) (hm:Ints w na nl m) (h5:nl<=5) (b3 b4:Nat)
  (c3:w.cell? ⟨b3,0,none⟩=some (.func (.func 79) #[.pointer (some ⟨P,0,none⟩)] #[])) (c4:w.cell? ⟨b4,0,none⟩=some (.slice na nl nc)) :
  Calls Tryz.prog 41 #[.pointer (some ⟨b3,0,none⟩),.pointer (some ⟨b4,0,none⟩)] w fun e w'=>e=.returned (.string (B8 (Num.jD p m)))/\Below w.heap.size w w':=by
 have HH:Hid (Has P w ca cl cc ra rl rc p):=h;have HT:Hid (Laid w):=hL;have HM:Hid (Ints w na nl m):=hm;clear h hL hm;go_enter Tryz.func41,Tryz.ntmps41;go_wp2_with fail;refine (ND P ca cl cc ra rl rc p w HH.out HT.out na nl nc m HM.out h5).mono ?_;rintro e w1 ⟨rfl,hb1⟩;go_wp2_with fail;go_ret;exact ⟨rfl,hb1⟩
theorem NJ (P:Nat) (ca:Option Addr) (cl cc:Nat) (ra:Option Addr) (rl rc:Nat) (p:Num.Lp) (w:World) (h:Has P w ca cl cc ra rl rc p) (hL:Laid w) (na:Option Addr) (nl nc:Nat) (m:List Int) (hm:Ints w na nl m) (h5:nl<=5) (b3 b4:Nat)
  (c3:w.cell? ⟨b3,0,none⟩=some (.func (.func 80) #[.pointer (some ⟨P,0,none⟩)] #[])) (c4:w.cell? ⟨b4,0,none⟩=some (.slice na nl nc)) :
  Calls Tryz.prog 41 #[.pointer (some ⟨b3,0,none⟩),.pointer (some ⟨b4,0,none⟩)] w fun e w'=>e=.returned (.string (B8 (Num.jm p m)))/\Below w.heap.size w w':=by
 have HH:Hid (Has P w ca cl cc ra rl rc p):=h;have HT:Hid (Laid w):=hL;have HM:Hid (Ints w na nl m):=hm;clear h hL hm;go_enter Tryz.func41,Tryz.ntmps41;go_wp2_with fail;refine (NC P ca cl cc ra rl rc p w HH.out HT.out na nl nc m HM.out h5).mono ?_;rintro e w1 ⟨rfl,hb1⟩;go_wp2_with fail;go_ret;exact ⟨rfl,hb1⟩
theorem JA (P:Nat) (ca:Option Addr) (cl cc:Nat) (ra:Option Addr) (rl rc:Nat) (p:Num.Lp) (w:World) (h:Has P w ca cl cc ra rl rc p) (hL:Laid w) (na:Option Addr) (nl nc:Nat) (m:List Int) (hm:Ints w na nl m) (h5:nl<=5) (b3 b4:Nat)
  (c3:w.cell? ⟨b3,0,none⟩=some (.func (.func 81) #[.pointer (some ⟨P,0,none⟩)] #[])) (c4:w.cell? ⟨b4,0,none⟩=some (.slice na nl nc)) :
  Calls Tryz.prog 41 #[.pointer (some ⟨b3,0,none⟩),.pointer (some ⟨b4,0,none⟩)] w fun e w'=>e=.returned (.string (B8 (Num.eH p m)))/\Below w.heap.size w w':=by
 have HH:Hid (Has P w ca cl cc ra rl rc p):=h;have HT:Hid (Laid w):=hL;have HM:Hid (Ints w na nl m):=hm;clear h hL hm;go_enter Tryz.func41,Tryz.ntmps41;go_wp2_with fail;refine (Jw P ca cl cc ra rl rc p w HH.out HT.out na nl nc m HM.out h5).mono ?_;rintro e w1 ⟨rfl,hb1⟩;go_wp2_with fail;go_ret;exact ⟨rfl,hb1⟩
theorem JB (w0:World) (P:Nat) (g:Num.Pl) (v:Value) (B E:Nat) (b1 b2:Nat) (w:World) (h:Ag w0 P g v B E w) (t:Num.Lp->List UInt8)
  (c1:w.cell? ⟨b1,0,none⟩=some (.pointer (some ⟨P,0,none⟩))) (c2:w.cell? ⟨b2,0,none⟩=some (.func (.func 36) #[.pointer (some ⟨P,0,none⟩)] #[]))
  (hC:∀ca cl cc ra rl rc p,g.prog=some p->Has P w ca cl cc ra rl rc p->Laid w->Calls Tryz.prog 36 #[.pointer (some ⟨P,0,none⟩)] w fun e w'=>e=.returned (.string (B8 (t p)))/\Below w.heap.size w w') :
  Calls Tryz.prog 76 #[.pointer (some ⟨b1,0,none⟩),.pointer (some ⟨b2,0,none⟩)] w (Told w0 P v B E w g (match g.prog with|none=>Num.kJ|some p=>t p)):=by
 have HX:Hid (Ag w0 P g v B E w):=h;obtain ⟨ca,cl,cc,ra,rl,rc,pv,h⟩:=h;have r1:=h.c1;cases hp:g.prog with
 | none =>have hrl:=h.Ur hp;subst hrl;clear h hC;go_enter Tryz.func76,Tryz.ntmps76;go_wp2_with fail;go_ret;exact Told.of HX.out rfl (Below.refl _ _)
 | some p =>
  obtain ⟨hm,rC⟩:=h.mF p hp;obtain ⟨hi,hr⟩:=rC w h.hi (fun _ _ _=>rfl);have hh:Has P w ca cl cc ra rl rc p:=⟨h.c0,h.c1,hi,hr,hm⟩;have KC:Hid (Calls Tryz.prog 36 #[.pointer (some ⟨P,0,none⟩)] w fun e w'=>e=.returned (.string (B8 (t p)))/\Below w.heap.size w w'):=hC ca cl cc ra rl rc p hp hh h.iF;have hrl:((rl:Int) == 0)=false:=by have:=hh.Jt;simp;omega
  clear h hC hh hm rC hi hr hp;go_enter Tryz.func76,Tryz.ntmps76;go_wp2_with fail;refine KC.out.mono ?_;rintro e w1 ⟨rfl,hb1⟩;go_wp2_with fail;go_ret;exact Told.of HX.out rfl hb1
theorem NK (w0:World) (P:Nat) (g:Num.Pl) (v:Value) (B E:Nat) (b1 b2:Nat) (w:World) (h:Ag w0 P g v B E w) (t:Num.Lp->List UInt8)
  (c1:w.cell? ⟨b1,0,none⟩=some (.pointer (some ⟨P,0,none⟩))) (c2:w.cell? ⟨b2,0,none⟩=some (.func (.func 37) #[.pointer (some ⟨P,0,none⟩)] #[]))
  (hC:∀ca cl cc ra rl rc p,g.prog=some p->Has P w ca cl cc ra rl rc p->Laid w->Calls Tryz.prog 37 #[.pointer (some ⟨P,0,none⟩)] w fun e w'=>e=.returned (.string (B8 (t p)))/\Below w.heap.size w w') :
  Calls Tryz.prog 76 #[.pointer (some ⟨b1,0,none⟩),.pointer (some ⟨b2,0,none⟩)] w (Told w0 P v B E w g (match g.prog with|none=>Num.kJ|some p=>t p)):=by
 have HX:Hid (Ag w0 P g v B E w):=h;obtain ⟨ca,cl,cc,ra,rl,rc,pv,h⟩:=h;have r1:=h.c1;cases hp:g.prog with
 | none =>have hrl:=h.Ur hp;subst hrl;clear h hC;go_enter Tryz.func76,Tryz.ntmps76;go_wp2_with fail;go_ret;exact Told.of HX.out rfl (Below.refl _ _)
 | some p =>
  obtain ⟨hm,rC⟩:=h.mF p hp;obtain ⟨hi,hr⟩:=rC w h.hi (fun _ _ _=>rfl);have hh:Has P w ca cl cc ra rl rc p:=⟨h.c0,h.c1,hi,hr,hm⟩;have KC:Hid (Calls Tryz.prog 37 #[.pointer (some ⟨P,0,none⟩)] w fun e w'=>e=.returned (.string (B8 (t p)))/\Below w.heap.size w w'):=hC ca cl cc ra rl rc p hp hh h.iF;have hrl:((rl:Int) == 0)=false:=by have:=hh.Jt;simp;omega
  clear h hC hh hm rC hi hr hp;go_enter Tryz.func76,Tryz.ntmps76;go_wp2_with fail;refine KC.out.mono ?_;rintro e w1 ⟨rfl,hb1⟩;go_wp2_with fail;go_ret;exact Told.of HX.out rfl hb1
theorem wu (w0:World) (P:Nat) (g:Num.Pl) (v:Value) (B E:Nat) (b1 b2:Nat) (b3 b4:Nat) (w:World) (h:Ag w0 P g v B E w) (t:Num.Lp->List UInt8)
  (c1:w.cell? ⟨b1,0,none⟩=some (.pointer (some ⟨P,0,none⟩))) (c2:w.cell? ⟨b2,0,none⟩=some (.func (.func 41) #[] #[.pointer (some ⟨b3,0,none⟩),.pointer (some ⟨b4,0,none⟩)]))
  (hC:∀ca cl cc ra rl rc p,g.prog=some p->Has P w ca cl cc ra rl rc p->Laid w->Calls Tryz.prog 41 #[.pointer (some ⟨b3,0,none⟩),.pointer (some ⟨b4,0,none⟩)] w fun e w'=>e=.returned (.string (B8 (t p)))/\Below w.heap.size w w') :
  Calls Tryz.prog 76 #[.pointer (some ⟨b1,0,none⟩),.pointer (some ⟨b2,0,none⟩)] w (Told w0 P v B E w g (match g.prog with|none=>Num.kJ|some p=>t p)):=by
 have HX:Hid (Ag w0 P g v B E w):=h;obtain ⟨ca,cl,cc,ra,rl,rc,pv,h⟩:=h;have r1:=h.c1;cases hp:g.prog with
 | none =>have hrl:=h.Ur hp;subst hrl;clear h hC;go_enter Tryz.func76,Tryz.ntmps76;go_wp2_with fail;go_ret;exact Told.of HX.out rfl (Below.refl _ _)
 | some p =>
  obtain ⟨hm,rC⟩:=h.mF p hp;obtain ⟨hi,hr⟩:=rC w h.hi (fun _ _ _=>rfl);have hh:Has P w ca cl cc ra rl rc p:=⟨h.c0,h.c1,hi,hr,hm⟩;have KC:Hid (Calls Tryz.prog 41 #[.pointer (some ⟨b3,0,none⟩),.pointer (some ⟨b4,0,none⟩)] w fun e w'=>e=.returned (.string (B8 (t p)))/\Below w.heap.size w w'):=hC ca cl cc ra rl rc p hp hh h.iF;have hrl:((rl:Int) == 0)=false:=by have:=hh.Jt;simp;omega
  clear h hC hh hm rC hi hr hp;go_enter Tryz.func76,Tryz.ntmps76;go_wp2_with fail;refine KC.out.mono ?_;rintro e w1 ⟨rfl,hb1⟩;go_wp2_with fail;go_ret;exact Told.of HX.out rfl hb1
end Go.Proofs.YtipcbhodlgoflabGreatDoor
