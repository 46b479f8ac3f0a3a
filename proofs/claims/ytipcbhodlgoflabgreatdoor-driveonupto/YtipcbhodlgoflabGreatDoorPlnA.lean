/- What columns come to, in plain numbers: Cramer's rule for up to four lines. -/
import Derived.Test.YtipcbhodlgoflabGreatDoorCornRC
import Derived.Test.YtipcbhodlgoflabGreatDoorPrfN
import Derived.Test.YtipcbhodlgoflabGreatDoorCornL
set_option maxHeartbeats 8000000
namespace Go.Proofs.YtipcbhodlgoflabGreatDoor
namespace Num
def xe (ls:List (List Int)) (want:List Int) (n i:Nat) : Int:=dotN (aL ls want n) ((List.range n).map fun k=>at2 ls k i) n
def UO (ls:List (List Int)) (w a:List Int) (n:Nat) : Int:=dotN a (aL (bP ls) w n) n
theorem cr1 (a x:Int) : xe [[a]] [x] 1 0=vol [[a]] aI*x:=by simp [xe,dotN,aL,List.range_succ,vol,aM,aI,at2];grind
theorem cr2 (a b c d x y:Int) (i:Nat) (hi:i < 2) : xe [[a,b],[c,d]] [x,y] 2 i=vol [[a,b],[c,d]] aI*[x,y][i]?.getD 0:=by
 match i,hi with
 | 0,_=>simp [xe,dotN,aL,List.range_succ,vol,aM,aI,mark,at2];grind
 | 1,_=>simp [xe,dotN,aL,List.range_succ,vol,aM,aI,mark,at2];grind
theorem cr3 (a b c d e f g h j x y z:Int) (i:Nat) (hi:i < 3) : xe [[a,b,c],[d,e,f],[g,h,j]] [x,y,z] 3 i=vol [[a,b,c],[d,e,f],[g,h,j]] aI*[x,y,z][i]?.getD 0:=by
 match i,hi with
 | 0,_=>simp [xe,dotN,aL,List.range_succ,vol,aM,aI,mark,at2];grind
 | 1,_=>simp [xe,dotN,aL,List.range_succ,vol,aM,aI,mark,at2];grind
 | 2,_=>simp [xe,dotN,aL,List.range_succ,vol,aM,aI,mark,at2];grind
theorem cr4 (a b c d e f g h j k l m n o p q x y z u:Int) (i:Nat) (hi:i < 4) : xe [[a,b,c,d],[e,f,g,h],[j,k,l,m],[n,o,p,q]] [x,y,z,u] 4 i=vol [[a,b,c,d],[e,f,g,h],[j,k,l,m],[n,o,p,q]] aI*[x,y,z,u][i]?.getD 0:=by
 match i,hi with
 | 0,_=>simp [xe,dotN,aL,List.range_succ,vol,aM,aI,mark,at2];grind
 | 1,_=>simp [xe,dotN,aL,List.range_succ,vol,aM,aI,mark,at2];grind
 | 2,_=>simp [xe,dotN,aL,List.range_succ,vol,aM,aI,mark,at2];grind
 | 3,_=>simp [xe,dotN,aL,List.range_succ,vol,aM,aI,mark,at2];grind
theorem qc (n:Nat) (ls:List (List Int)) (want:List Int) (h:Sq n ls) (hw:want.length=n) (h1:1<=n) (h4:n<=4) (i:Nat) (hi:i < n) : xe ls want n i=vol ls aI*want[i]?.getD 0:=by
 obtain ⟨hl,ha⟩:=h
 match n,h1,h4 with
 | 1,_,_ =>
  obtain ⟨x,rfl⟩:=uW ls hl;obtain ⟨a,rfl⟩:=uW x (ha x (by simp));obtain ⟨w,rfl⟩:=uW want hw;obtain rfl:i=0:=by omega
  exact cr1 a w
 | 2,_,_ =>obtain ⟨x,y,rfl⟩:=oW ls hl;obtain ⟨a,b,rfl⟩:=oW x (ha x (by simp));obtain ⟨c,d,rfl⟩:=oW y (ha y (by simp));obtain ⟨w,w',rfl⟩:=oW want hw;exact cr2 _ _ _ _ _ _ i hi
 | 3,_,_ =>obtain ⟨x,y,z,rfl⟩:=lN ls hl;obtain ⟨a,b,c,rfl⟩:=lN x (ha x (by simp));obtain ⟨d,e,f,rfl⟩:=lN y (ha y (by simp));obtain ⟨g,h,j,rfl⟩:=lN z (ha z (by simp));obtain ⟨w,w',w'',rfl⟩:=lN want hw;exact cr3 _ _ _ _ _ _ _ _ _ _ _ _ i hi
 | 4,_,_ =>obtain ⟨x,y,z,u,rfl⟩:=jG ls hl;obtain ⟨a,b,c,d,rfl⟩:=jG x (ha x (by simp));obtain ⟨e,f,g,h,rfl⟩:=jG y (ha y (by simp));obtain ⟨j,k,l,m,rfl⟩:=jG z (ha z (by simp));obtain ⟨n,o,p,q,rfl⟩:=jG u (ha u (by simp));obtain ⟨w,w',w'',w3,rfl⟩:=jG want hw;exact cr4 _ _ _ _ _ _ _ _ _ _ _ _ _ _ _ _ _ _ _ _ i hi
theorem pr1 (a w x:Int) : UO [[a]] [w] [x] 1=dotN [w] (aL [[a]] [x] 1) 1:=by simp [UO,dotN,aL,bP,List.range_succ,vol,aM,aI];grind
theorem pr2 (a b c d w v x y:Int) : UO [[a,b],[c,d]] [w,v] [x,y] 2=dotN [w,v] (aL [[a,b],[c,d]] [x,y] 2) 2:=by simp [UO,dotN,aL,bP,List.range_succ,vol,aM,aI,mark,at2];grind
theorem pr3 (a b c d e f g h j w v u x y z:Int) : UO [[a,b,c],[d,e,f],[g,h,j]] [w,v,u] [x,y,z] 3=dotN [w,v,u] (aL [[a,b,c],[d,e,f],[g,h,j]] [x,y,z] 3) 3:=by simp [UO,dotN,aL,bP,List.range_succ,vol,aM,aI,mark,at2];grind
theorem pr4 (a b c d e f g h j k l m n o p q w v u t x y z s:Int) : UO [[a,b,c,d],[e,f,g,h],[j,k,l,m],[n,o,p,q]] [w,v,u,t] [x,y,z,s] 4=dotN [w,v,u,t] (aL [[a,b,c,d],[e,f,g,h],[j,k,l,m],[n,o,p,q]] [x,y,z,s] 4) 4:=by simp [UO,dotN,aL,bP,List.range_succ,vol,aM,aI,mark,at2];grind
theorem vt2 (a b c d:Int) : vol (bP [[a,b],[c,d]]) aI=vol [[a,b],[c,d]] aI:=by simp [bP,List.range_succ,vol,aM,aI,mark,at2];grind
theorem vt3 (a b c d e f g h j:Int) : vol (bP [[a,b,c],[d,e,f],[g,h,j]]) aI=vol [[a,b,c],[d,e,f],[g,h,j]] aI:=by simp [bP,List.range_succ,vol,aM,aI,mark,at2];grind
theorem vt4 (a b c d e f g h j k l m n o p q:Int) : vol (bP [[a,b,c,d],[e,f,g,h],[j,k,l,m],[n,o,p,q]]) aI=vol [[a,b,c,d],[e,f,g,h],[j,k,l,m],[n,o,p,q]] aI:=by simp [bP,List.range_succ,vol,aM,aI,mark,at2];grind
theorem H9 (n:Nat) (ls:List (List Int)) (w vv:List Int) (h:Sq n ls) (hw:w.length=n) (ha':vv.length=n) (h1:1<=n) (h4:n<=4) : dotN vv (aL (bP ls) w n) n=dotN w (aL ls vv n) n:=by
 obtain ⟨hl,ha⟩:=h
 match n,h1,h4 with
 | 1,_,_ =>obtain ⟨x,rfl⟩:=uW ls hl;obtain ⟨b,rfl⟩:=uW x (ha x (by simp));obtain ⟨w,rfl⟩:=uW w hw;obtain ⟨a,rfl⟩:=uW vv ha';exact pr1 _ _ _
 | 2,_,_ =>obtain ⟨x,y,rfl⟩:=oW ls hl;obtain ⟨a,b,rfl⟩:=oW x (ha x (by simp));obtain ⟨c,d,rfl⟩:=oW y (ha y (by simp));obtain ⟨w,w',rfl⟩:=oW w hw;obtain ⟨a,a',rfl⟩:=oW vv ha';exact pr2 _ _ _ _ _ _ _ _
 | 3,_,_ =>obtain ⟨x,y,z,rfl⟩:=lN ls hl;obtain ⟨a,b,c,rfl⟩:=lN x (ha x (by simp));obtain ⟨d,e,f,rfl⟩:=lN y (ha y (by simp));obtain ⟨g,h,j,rfl⟩:=lN z (ha z (by simp));obtain ⟨w,w',w'',rfl⟩:=lN w hw;obtain ⟨a,a',a'',rfl⟩:=lN vv ha';exact pr3 _ _ _ _ _ _ _ _ _ _ _ _ _ _ _
 | 4,_,_ =>obtain ⟨x,y,z,u,rfl⟩:=jG ls hl;obtain ⟨a,b,c,d,rfl⟩:=jG x (ha x (by simp));obtain ⟨e,f,g,h,rfl⟩:=jG y (ha y (by simp));obtain ⟨j,k,l,m,rfl⟩:=jG z (ha z (by simp));obtain ⟨n,o,p,q,rfl⟩:=jG u (ha u (by simp));obtain ⟨w,w',w'',w3,rfl⟩:=jG w hw;obtain ⟨a,a',a'',a3,rfl⟩:=jG vv ha';exact pr4 _ _ _ _ _ _ _ _ _ _ _ _ _ _ _ _ _ _ _ _ _ _ _ _
theorem yA (n:Nat) (ls:List (List Int)) (h:Sq n ls) (h1:1<=n) (h4:n<=4) : vol (bP ls) aI=vol ls aI:=by
 obtain ⟨hl,ha⟩:=h
 match n,h1,h4 with
 | 1,_,_ =>obtain ⟨x,rfl⟩:=uW ls hl;obtain ⟨b,rfl⟩:=uW x (ha x (by simp));simp [bP,List.range_succ,at2]
 | 2,_,_ =>obtain ⟨x,y,rfl⟩:=oW ls hl;obtain ⟨a,b,rfl⟩:=oW x (ha x (by simp));obtain ⟨c,d,rfl⟩:=oW y (ha y (by simp));exact vt2 _ _ _ _
 | 3,_,_ =>obtain ⟨x,y,z,rfl⟩:=lN ls hl;obtain ⟨a,b,c,rfl⟩:=lN x (ha x (by simp));obtain ⟨d,e,f,rfl⟩:=lN y (ha y (by simp));obtain ⟨g,h,j,rfl⟩:=lN z (ha z (by simp));exact vt3 _ _ _ _ _ _ _ _ _
 | 4,_,_ =>obtain ⟨x,y,z,u,rfl⟩:=jG ls hl;obtain ⟨a,b,c,d,rfl⟩:=jG x (ha x (by simp));obtain ⟨e,f,g,h,rfl⟩:=jG y (ha y (by simp));obtain ⟨j,k,l,m,rfl⟩:=jG z (ha z (by simp));obtain ⟨n,o,p,q,rfl⟩:=jG u (ha u (by simp));exact vt4 _ _ _ _ _ _ _ _ _ _ _ _ _ _ _ _
def bd12:Nat->Int
 | 0=>1
 | n+1=>12*bd12 n*(n+1)
theorem Mk (n:Nat) (ls:List (List Int)) (h:wB 12 ls) : -(bd12 n)<=detN n ls/\detN n ls<=bd12 n:=by
 induction n generalizing ls with
 | zero=>simp [detN,bd12]
 | succ n ih =>have hf:∀k:Nat,-(bd12 n)<=detN n ((ls.drop 1).map (del k))/\detN n ((ls.drop 1).map (del k))<=bd12 n:=fun k=>ih _ (h.minor (by omega) k);have hs:=uV (fun k=>detN n ((ls.drop 1).map (del k))) (ls[0]?.getD []) aI 12 (bd12 n) (h 0) hf (n+1);unfold detN bd12;simpa using hs
theorem EW (n:Nat) (ls:List (List Int)) (h:Sq n ls) (h1:1<=n) (h4:n<=4) (hb:wB 12 ls) : -497664<=vol ls aI/\vol ls aI<=497664:=by
 have:=Mk n (bP ls) (CW _ _ hb);rw [Si n ls h h1 h4]
 match n,h1,h4 with
 | 1,_,_=>simp [bd12] at this;omega
 | 2,_,_=>simp [bd12] at this;omega
 | 3,_,_=>simp [bd12] at this;omega
 | 4,_,_=>simp [bd12] at this;omega
theorem qf (n:Nat) (ls:List (List Int)) (a:List Int) (h:Sq n ls) (ha:a.length=n) (h1:1<=n) (h4:n<=4) (hb:wB 12 ls) (hab:∀j:Nat,-12<=a[j]?.getD 0/\a[j]?.getD 0<=12) :
  ∀j:Nat,-497664<=(aL ls a n)[j]?.getD 0/\(aL ls a n)[j]?.getD 0<=497664:=by
 intro j;unfold aL;rw [aA];split
 ·exact EW n _ (Wd ls n j a h ha) h1 h4 (hb.set j a hab)
 ·omega
theorem rF (l:List Int) (d:Int) (hd:d≠0) (Rz : -1073741824<=d/\d<=1073741824) (hl:∀j:Nat,-1073741824<=l[j]?.getD 0/\l[j]?.getD 0<=1073741824) (h8:l.length<=8) :
  ∃g,g≠0/\(pt l d).2.2=0/\(pt l d).1.length=l.length/\(∀j:Nat,l[j]?.getD 0=g*(pt l d).1[j]?.getD 0)/\d=g*(pt l d).2.1/\1<=(pt l d).2.1/\(pt l d).2.1.natAbs<=d.natAbs/\(∀j:Nat,((pt l d).1[j]?.getD 0).natAbs<=(l[j]?.getD 0).natAbs):=by
 have hw:aB 1073741824 l=true:=by unfold aB;rw [List.all_eq_true];intro n hn;obtain ⟨j,hj,rfl⟩:=List.getElem_of_mem hn;have:=hl j;rw [List.getElem?_eq_getElem hj,Option.getD_some] at this;simpa using this
 have hw2:aB 4611686018427387904 l=true:=by unfold aB at hw ⊢;rw [List.all_eq_true] at hw ⊢;intro n hn;have:=hw n hn;simp only [Bool.and_eq_true,decide_eq_true_eq] at this ⊢;omega
 have hf:fK 1073741824 d l=true:=by unfold fK;have t1:=fu d (bX d l);simp only [Bool.and_eq_true,decide_eq_true_eq];refine ⟨by omega,?_⟩;unfold aB;rw [List.all_eq_true];intro n hn;obtain ⟨m,hm,rfl⟩:=List.mem_map.1 hn;unfold aB at hw;rw [List.all_eq_true] at hw;have h1:=hw m hm;have h2:=fu m (bX d l);simp only [Bool.and_eq_true,decide_eq_true_eq] at h1 ⊢;omega
 have hlow:(low d l).2=0:=by unfold low;rw [if_neg,if_neg (by omega),if_pos hf];rw [aW];simp [hd,hw2];omega
 have hpt:pt l d=(l.map fun n=>n.tdiv (bX d l),d.tdiv (bX d l),0):=by unfold pt;rw [if_pos hlow]
 rw [hpt];refine ⟨bX d l,(Cj d l hd (by omega) (by omega)).1,rfl,by simp,fun j=>?_,(Int.mul_tdiv_cancel' (lM d l)).symm,mH d l hd,fu _ _,fun j=>?_⟩
 ·rw [pM _ (by simp)];by_cases hj:j < l.length
  ·rw [List.getElem?_eq_getElem hj,Option.getD_some];exact (Int.mul_tdiv_cancel' (rR d l _ (List.getElem_mem hj))).symm
  ·rw [List.getElem?_eq_none (by omega)];simp
 ·rw [pM _ (by simp)];exact fu _ _
theorem kR (at':List Int) (N m:Nat) (h:aH at' m N=true) (k:Nat) (hk:k < m) : aZ at' k < N:=by have:=(bf at' m N h).2 k hk;unfold aZ;omega
theorem jy (at':List Int) (N m:Nat) (h:aH at' m N=true) (k:Nat) (hk:k < m) : ∀i,i < k->aZ at' i < aZ at' k:=by
 unfold aH at h;simp only [Bool.and_eq_true,beq_iff_eq] at h
 induction k with
 | zero=>intro i hi;omega
 | succ k ih =>
  intro i hi;have h1:=xC at' N m h.2 (k+1) hk;have h2:=xC at' N m h.2 k (by omega);have h3:=ni at' N m h.2 k (by omega);have e:jV at' (k+1)=at'[k]?.getD 0+1:=rfl;have:aZ at' k < aZ at' (k+1):=by unfold aZ;omega
  by_cases hik:i=k
  ·subst hik;exact this
  ·have:=ih (by omega) i (by omega);omega
theorem gF (N:Nat) (at' s:List Int) (k:Nat) : (spreadN N at' s k).length=N:=by
 induction k with
 | zero=>simp [spreadN]
 | succ k ih=>unfold spreadN;simpa using ih
theorem jZ (N:Nat) (at' s:List Int) (k:Nat) (j:Nat) (h:∀i,i < k->aZ at' i≠j) : (spreadN N at' s k)[j]?.getD 0=0:=by
 induction k with
 | zero=>unfold spreadN;rw [List.getElem?_replicate];split<;>simp
 | succ k ih =>unfold spreadN;rw [List.getElem?_set,if_neg (h k (by omega))];exact ih fun i hi=>h i (by omega)
theorem Tm (f:Nat->Int) (l:List Int) (q:Nat) (v:Int) (n:Nat) (hq:q < l.length) (h0:l[q]?.getD 0=0) : sumN (fun j=>f j*(l.set q v)[j]?.getD 0) n=sumN (fun j=>f j*l[j]?.getD 0) n+(if q < n then f q*v else 0):=by
 induction n with
 | zero=>simp [sumN]
 | succ n ih =>
  unfold sumN;rw [ih];by_cases ZN:q=n
  ·subst ZN;rw [if_neg (by omega),if_pos (by omega),List.getElem?_set,if_pos rfl,if_pos hq,Option.getD_some,h0];omega
  ·rw [List.getElem?_set,if_neg ZN];by_cases h1:q < n
   ·rw [if_pos h1,if_pos (by omega)];omega
   ·rw [if_neg h1,if_neg (by omega)];omega
theorem j3 (f:Nat->Int) (N:Nat) (at' s:List Int) (m:Nat) (hr:aH at' m N=true) : ∀k,k<=m->sumN (fun j=>f j*(spreadN N at' s k)[j]?.getD 0) N=sumN (fun i=>f (aZ at' i)*s[i]?.getD 0) k:=by
 intro k hk
 induction k with
 | zero =>refine Eq.trans (ah _ (fun _=>0) _ fun j _=>?_) (bM _);rw [jZ N at' s 0 j fun i hi=>absurd hi (Nat.not_lt_zero _)];simp
 | succ k ih =>have hlt:=kR at' N m hr k (by omega);have e:sumN (fun j=>f j*(spreadN N at' s (k+1))[j]?.getD 0) N=sumN (fun j=>f j*((spreadN N at' s k).set (aZ at' k) (s[k]?.getD 0))[j]?.getD 0) N:=rfl;rw [e,Tm f _ _ _ _ (by rw [gF];exact hlt) (jZ N at' s k _ fun i hi=>by have:=jy at' N m hr k (by omega) i hi;omega),if_pos hlt,ih (by omega)];rfl
theorem ic (f:Nat->Int) (a b:Nat) : sumN f (a+b)=sumN f a+sumN (fun i=>f (a+i)) b:=by
 induction b with
 | zero=>simp [sumN]
 | succ b ih =>show sumN f (a+b)+f (a+b)=sumN f a+(sumN (fun i=>f (a+i)) b+f (a+b));rw [ih];omega
theorem uw (g:Nat->Int) (i n:Nat) (hi:i < n) : sumN (fun j=>(if j=i then 1 else 0)*g j) n=g i:=by
 induction n with
 | zero=>omega
 | succ n ih =>
  unfold sumN;by_cases h:i=n
  ·subst h;rw [if_pos rfl,Int.one_mul];have:sumN (fun j=>(if j=i then 1 else 0)*g j) i=0:=Eq.trans (ah _ (fun _=>0) _ fun j hj=>by rw [if_neg (by omega)];simp) (bM _);omega
  ·rw [ih (by omega),if_neg (by omega)];omega
theorem EX (l:List Int) (n j:Nat) (h:l.length=n) (hj:¬ j < n) : l[j]?.getD 0=0:=by rw [List.getElem?_eq_none (by omega)];rfl
theorem mP (p:Lp) (at':List Int) (m:Nat) (au:p.may=true) : wB 12 (aG p at' m):=by
 intro i j;unfold aG;rw [jW];split
 ·rw [aA];split
  ·exact mO p au (aZ at' i) j
  ·omega
 ·omega
theorem Bp (p:Lp) (at':List Int) (m n:Nat) (au:p.may=true) (hm:m=p.rows.length) (hn:n=p.costs.length) (hr:aH at' m (n+m)=true) (i:Nat) (hi:i < m) : dotN (p.rows[i]?.getD ([],0)).1 (xL p at' m (n+m)) n+(xL p at' m (n+m))[n+i]?.getD 0=dw p i*aF p at' m:=by
 have h1:1<=m:=by have:=(p.aj au).2.2.1.1;omega
 have h4:m<=4:=by have:=(p.aj au).2.2.1.2;omega
 have hc:=qc m (aG p at' m) (bF p m) (cZ p at' m) (by simp [bF]) h1 h4 i hi;have e0:(bF p m)[i]?.getD 0=dw p i:=by unfold bF;rw [aA,if_pos hi]
 rw [e0] at hc;unfold xe at hc;rw [aX] at hc;have hs:=j3 (fun j=>aC p j i) (n+m) at' (aL (aG p at' m) (bF p m) m) m hr m (Nat.le_refl _);have e1:sumN (fun k=>(aL (aG p at' m) (bF p m) m)[k]?.getD 0*((List.range m).map fun k=>at2 (aG p at' m) k i)[k]?.getD 0) m=sumN (fun k=>aC p (aZ at' k) i*(aL (aG p at' m) (bF p m) m)[k]?.getD 0) m:=by refine ah _ _ _ fun k hk=>?_;rw [aA,if_pos hk,Int.mul_comm];congr 1;unfold aG;exact yw (fun k i=>aC p (aZ at' k) i) m k i hk hi
 rw [e1,<-hs,ic] at hc;have e2:sumN (fun j=>aC p j i*(xL p at' m (n+m))[j]?.getD 0) n=dotN (p.rows[i]?.getD ([],0)).1 (xL p at' m (n+m)) n:=by rw [aX];exact ah _ _ _ fun j hj=>by rw [CR p j i _ rfl (by omega)]
 have e3:sumN (fun k=>aC p (n+k) i*(xL p at' m (n+m))[n+k]?.getD 0) m=(xL p at' m (n+m))[n+i]?.getD 0:=by
  rw [<-uw (fun k=>(xL p at' m (n+m))[n+k]?.getD 0) i m hi];refine ah _ _ _ fun k _=>?_;by_cases h:k=i
  ·subst h;rw [if_pos rfl,EI p (n+k) k (by omega)]
  ·rw [if_neg h,Be p (n+k) i (by omega) (by omega)]
 rw [<-e2,<-e3];show _=dw p i*vol (aG p at' m) aI;rw [Int.mul_comm];exact hc
theorem wJ (p:Lp) (at':List Int) (m n:Nat) (au:p.may=true) (hm:m=p.rows.length) (hn:n=p.costs.length) (hr:aH at' m (n+m)=true) : dotN p.costs (xL p at' m (n+m)) n=dotN (bF p m) (av p at' m) m:=by
 have h1:1<=m:=by have:=(p.aj au).2.2.1.1;omega
 have h4:m<=4:=by have:=(p.aj au).2.2.1.2;omega
 have hp:=H9 m (aG p at' m) (bI p at' m) (bF p m) (cZ p at' m) (by simp [bI]) (by simp [bF]) h1 h4;have hs:=j3 (fun j=>p.costs[j]?.getD 0) (n+m) at' (aL (aG p at' m) (bF p m) m) m hr m (Nat.le_refl _);rw [ic] at hs;have e2:sumN (fun k=>p.costs[n+k]?.getD 0*(spreadN (n+m) at' (aL (aG p at' m) (bF p m) m) m)[n+k]?.getD 0) m=0:=by refine Eq.trans (ah _ (fun _=>0) _ fun k _=>?_) (bM _);rw [EX p.costs n (n+k) hn.symm (by omega)];simp
 rw [e2,Int.add_zero,<-aX] at hs;have e3:dotN (bI p at' m) (aL (aG p at' m) (bF p m) m) m=sumN (fun i=>p.costs[aZ at' i]?.getD 0*(aL (aG p at' m) (bF p m) m)[i]?.getD 0) m:=by rw [aX];exact ah _ _ _ fun k hk=>by unfold bI;rw [aA,if_pos hk]
 show dotN p.costs (spreadN (n+m) at' (aL (aG p at' m) (bF p m) m) m) n=dotN (bF p m) (aL (bP (aG p at' m)) (bI p at' m) m) m;rw [hs,hp,e3]
theorem j5 (p:Lp) (at':List Int) (m n:Nat) (au:p.may=true) (hm:m=p.rows.length) (hr:aH at' m (n+m)=true) (k:Nat) (hk:k < m) : (aO p at' m (n+m))[aZ at' k]?.getD 0=0:=by
 have h1:1<=m:=by have:=(p.aj au).2.2.1.1;omega
 have h4:m<=4:=by have:=(p.aj au).2.2.1.2;omega
 have O7:=Ki _ m (cZ p at' m);have hc:=qc m (bP (aG p at' m)) (bI p at' m) O7 (by simp [bI]) h1 h4 k hk;rw [yA m _ (cZ p at' m) h1 h4] at hc;have e0:(bI p at' m)[k]?.getD 0=p.costs[aZ at' k]?.getD 0:=by unfold bI;rw [aA,if_pos hk]
 rw [e0] at hc;unfold aO;rw [aA,if_pos (kR at' (n+m) m hr k hk)];unfold bV;rw [<-hm];have e1:dotN ((List.range m).map (aC p (aZ at' k))) (av p at' m) m=xe (bP (aG p at' m)) (bI p at' m) m k:=by unfold xe;rw [aX,aX];refine ah _ _ _ fun i hi=>?_;rw [aA,if_pos hi,aA,if_pos hi,Int.mul_comm];congr 1;rw [<-Bo];exact (yw (fun i k=>aC p (aZ at' k) i) m i k hi hk).symm
 rw [e1,hc];show p.costs[aZ at' k]?.getD 0*vol (aG p at' m) aI - vol (aG p at' m) aI*p.costs[aZ at' k]?.getD 0=0;rw [Int.mul_comm];omega
theorem EY (p:Lp) (au:p.may=true) (m j:Nat) : ∀i:Nat,-12<=((List.range m).map (aC p j))[i]?.getD 0/\((List.range m).map (aC p j))[i]?.getD 0<=12:=by
 intro i;rw [aA];split
 ·exact mO p au j i
 ·omega
theorem jA (p:Lp) (at':List Int) (m:Nat) (au:p.may=true) (h1:1<=m) (h4:m<=4) : -497664<=aF p at' m/\aF p at' m<=497664 :=
 EW m _ (cZ p at' m) h1 h4 (mP p at' m au)
theorem oQ (p:Lp) (at':List Int) (m:Nat) (au:p.may=true) (h1:1<=m) (h4:m<=4) (a:List Int) (ha:a.length=m) (hab:∀j:Nat,-12<=a[j]?.getD 0/\a[j]?.getD 0<=12) :
  -796262400<=dotN (bI p at' m) (aL (aG p at' m) a m) m/\dotN (bI p at' m) (aL (aG p at' m) a m) m<=796262400:=by
 have:=jq (bI p at' m) (aL (aG p at' m) a m) 400 497664 (vg p au at' m) (qf m _ a (cZ p at' m) ha h1 h4 (mP p at' m au) hab) m;omega
theorem uz (p:Lp) (at':List Int) (m N:Nat) (au:p.may=true) (hm:m=p.rows.length) : ∀j:Nat,-1073741824<=(aO p at' m N)[j]?.getD 0/\(aO p at' m N)[j]?.getD 0<=1073741824:=by
 intro j;have h1:1<=m:=by have:=(p.aj au).2.2.1.1;omega
 have h4:m<=4:=by have:=(p.aj au).2.2.1.2;omega
 unfold aO;rw [aA];split
 ·unfold bV;rw [<-hm];have hp:=H9 m (aG p at' m) (bI p at' m) ((List.range m).map (aC p j)) (cZ p at' m) (by simp [bI]) (by simp) h1 h4;have hb:=oQ p at' m au h1 h4 ((List.range m).map (aC p j)) (by simp) (EY p au m j);rw [<-hp] at hb;have hc:=ko _ _ _ _ (aJ _ _ (p.aj au).2.1 (by omega) j) (jA p at' m au h1 h4);show -1073741824<=p.costs[j]?.getD 0*aF p at' m - dotN ((List.range m).map (aC p j)) (aL (bP (aG p at' m)) (bI p at' m) m) m/\p.costs[j]?.getD 0*aF p at' m - dotN ((List.range m).map (aC p j)) (aL (bP (aG p at' m)) (bI p at' m) m) m<=1073741824;omega
 ·omega
theorem Tn (m k:Nat) : ∀j:Nat,-12<=((List.range m).map fun i=>if i=k then (1:Int) else 0)[j]?.getD 0/\((List.range m).map fun i=>if i=k then (1:Int) else 0)[j]?.getD 0<=12:=by
 intro j;rw [aA];split
 ·split<;>omega
 ·omega
theorem qR (p:Lp) (at':List Int) (m:Nat) (au:p.may=true) (hm:m=p.rows.length) : ∀j:Nat,-796262400<=(av p at' m)[j]?.getD 0/\(av p at' m)[j]?.getD 0<=796262400:=by
 intro j;have h1:1<=m:=by have:=(p.aj au).2.2.1.1;omega
 have h4:m<=4:=by have:=(p.aj au).2.2.1.2;omega
 by_cases hj:j < m
 ·have hp:=H9 m (aG p at' m) (bI p at' m) ((List.range m).map fun i=>if i=j then (1:Int) else 0) (cZ p at' m) (by simp [bI]) (by simp) h1 h4;have hb:=oQ p at' m au h1 h4 ((List.range m).map fun i=>if i=j then (1:Int) else 0) (by simp) (Tn m j);rw [<-hp,aX] at hb;have e:sumN (fun i=>((List.range m).map fun i=>if i=j then (1:Int) else 0)[i]?.getD 0*(aL (bP (aG p at' m)) (bI p at' m) m)[i]?.getD 0) m=(av p at' m)[j]?.getD 0:=by rw [<-uw (fun i=>(av p at' m)[i]?.getD 0) j m hj];exact ah _ _ _ fun i hi=>by rw [aA,if_pos hi];rfl
  rw [e] at hb;exact hb
 ·rw [EX (av p at' m) m j (by unfold av aL;simp) hj];omega
theorem We (p:Lp) (at':List Int) (m N:Nat) (au:p.may=true) (hm:m=p.rows.length) : ∀j:Nat,-497664<=(xL p at' m N)[j]?.getD 0/\(xL p at' m N)[j]?.getD 0<=497664:=by
 have h1:1<=m:=by have:=(p.aj au).2.2.1.1;omega
 have h4:m<=4:=by have:=(p.aj au).2.2.1.2;omega
 have hs:=qf m (aG p at' m) (bF p m) (cZ p at' m) (by simp [bF]) h1 h4 (mP p at' m au) (fun j=>by
  unfold bF;rw [aA];split
  ·rename_i hj;exact (p.row_of au j (by omega)).2.2
  ·omega)
 unfold xL;generalize aL (aG p at' m) (bF p m) m=s at *;have key:∀k,∀j:Nat,-497664<=(spreadN N at' s k)[j]?.getD 0/\(spreadN N at' s k)[j]?.getD 0<=497664:=by
  intro k
  induction k with
  | zero=>intro j;unfold spreadN;rw [List.getElem?_replicate];split<;>simp
  | succ k ih =>
   intro j;unfold spreadN;rw [List.getElem?_set];split
   ·split
    ·exact hs k
    ·simp
   ·exact ih j
 exact key m
theorem yB (p:Lp) (at':List Int) (m n:Nat) (au:p.may=true) (hm:m=p.rows.length) (hn:n=p.costs.length) (hr:aH at' m (n+m)=true) (hd:aF p at' m≠0) :
  (look p at').err=0/\(look p at').x.length=n+m/\(look p at').y.length=m/\(look p at').g.length=n+m/\
  (1<=(look p at').xd/\(look p at').xd<=497664)/\(1<=(look p at').yd/\(look p at').yd<=497664)/\
  (∀j:Nat,-497664<=(look p at').x[j]?.getD 0/\(look p at').x[j]?.getD 0<=497664)/\(∀j:Nat,-796262400<=(look p at').y[j]?.getD 0/\(look p at').y[j]?.getD 0<=796262400)/\
  (∀i,i < m->dotN (p.rows[i]?.getD ([],0)).1 (look p at').x n+(look p at').x[n+i]?.getD 0=(p.rows[i]?.getD ([],0)).2*(look p at').xd)/\
  (∀k,k < m->(look p at').g[aZ at' k]?.getD 0=0)/\
  dotN p.costs (look p at').x n*(look p at').yd=dotN (bF p m) (look p at').y m*(look p at').xd:=by
 have h1:1<=m:=by have:=(p.aj au).2.2.1.1;omega
 have h4:m<=4:=by have:=(p.aj au).2.2.1.2;omega
 have NR:n<=4:=by have:=(p.aj au).1.2;omega
 have hden:=jA p at' m au h1 h4;have xb:=We p at' m (n+m) au hm;have yb:=qR p at' m au hm;have gb:=uz p at' m (n+m) au hm;obtain ⟨gx,Di,_,ae2,ZO,O8,ZQ,xdb,xab⟩:=rF (xL p at' m (n+m)) (aF p at' m) hd (by omega) (fun j=>by have:=xb j;omega) (by unfold xL;rw [gF];omega);obtain ⟨gy,gy0,_,aC2,yeq,ae3,yd1,ydb,yab⟩:=rF (av p at' m) (aF p at' m) hd (by omega) (fun j=>by have:=yb j;omega) (by unfold av aL;simp;omega);obtain ⟨gg,Ia,_,ae4,geq,_,_,_,_⟩:=rF (aO p at' m (n+m)) (aF p at' m) hd (by omega) gb (by unfold aO;simp;omega);have hl:=Bg p at' au (by rw [<-hm,<-hn];exact hr) (by rw [<-hm];exact hd) m (n+m) hm (by rw [<-hm,<-hn]);have hrow:=Bp p at' m n au hm hn hr;have O9:=wJ p at' m n au hm hn hr;have Yc:=j5 p at' m n au hm hr;rw [hl];dsimp only;generalize (pt (xL p at' m (n+m)) (aF p at' m)).1=X at *;generalize (pt (xL p at' m (n+m)) (aF p at' m)).2.1=XD at *;generalize (pt (av p at' m) (aF p at' m)).1=Y at *;generalize (pt (av p at' m) (aF p at' m)).2.1=YD at *;generalize (pt (aO p at' m (n+m)) (aF p at' m)).1=G at *;have hxl:(xL p at' m (n+m)).length=n+m:=by unfold xL;exact gF _ _ _ _
 have hyl:(av p at' m).length=m:=by unfold av aL;simp
 have hgl:(aO p at' m (n+m)).length=n+m:=by unfold aO;simp
 have Yd:∀(c:List Int) (k:Nat),dotN c (xL p at' m (n+m)) k=gx*dotN c X k:=by intro c k;rw [aX,aX,<-az];exact ah _ _ _ fun i _=>by rw [ZO i];simp only [Int.mul_left_comm]
 have ae5:∀(c:List Int) (k:Nat),dotN c (av p at' m) k=gy*dotN c Y k:=by intro c k;rw [aX,aX,<-az];exact ah _ _ _ fun i _=>by rw [yeq i];simp only [Int.mul_left_comm]
 refine ⟨rfl,by omega,by omega,by omega,⟨ZQ,by omega⟩,⟨yd1,by omega⟩,fun j=>?_,fun j=>?_,fun i hi=>?_,fun k hk=>?_,?_⟩
 ·have:=xb j;have:=xab j;omega
 ·have:=yb j;have:=yab j;omega
 ·have h:=hrow i hi;rw [Yd,ZO (n+i),O8] at h;have e:gx*(dotN (p.rows[i]?.getD ([],0)).1 X n+X[n+i]?.getD 0)=gx*((p.rows[i]?.getD ([],0)).2*XD):=by rw [Int.mul_add,h];show dw p i*(gx*XD)=gx*(dw p i*XD);simp only [Int.mul_left_comm]
  exact Int.eq_of_mul_eq_mul_left Di e
 ·have h:=Yc k hk;rw [geq] at h;rcases Int.mul_eq_zero.1 h with h|h
  ·exact absurd h Ia
  ·exact h
 ·rw [Yd,ae5] at O9;generalize dotN p.costs X n=A at *;generalize dotN (bF p m) Y m=B at *;have hdd:gx*XD=gy*YD:=O8.symm.trans ae3;have e:(gx*gy)*(A*YD)=(gx*gy)*(B*XD):=by
   have e1:(gx*gy)*(A*YD)=(gx*A)*(gy*YD):=by simp only [Int.mul_comm,Int.mul_left_comm]
   have e2:(gx*gy)*(B*XD)=(gy*B)*(gx*XD):=by simp only [Int.mul_comm,Int.mul_left_comm]
   rw [e1,e2,O9,hdd]
  exact Int.eq_of_mul_eq_mul_left (Int.mul_ne_zero Di gy0) e
structure Steps (N m:Nat) (c:Nat->Int) (a:Nat->Nat->Int) (B:Nat->Nat->Bool) (x:Nat->Nat->Int) (X:Nat->Int) (g:Nat->Nat->Int) (G:Nat->Int) (y:Nat->Nat->Int) (d:Nat->Nat->Int) (s o:Nat->Nat) (K:Nat) : Prop where
 X0:∀k,k<=K->0 < X k
 G0:∀k,k < K->0 < G k
 xb:∀k j,k<=K->0<=x k j
 gb:∀k j,k < K->B k j=true->g k j=0
 gy:∀k j,k < K->j < N->g k j=G k*c j - sumN (fun i=>y k i*a i j) m
 dz:∀k i,k < K->i < m->sumN (fun j=>a i j*d k j) N=0
 db:∀k j,k < K->B k j=false->j≠s k->d k j=0
 ds:∀k,k < K->0 < d k (s k)
 sN:∀k,k < K->s k < N
 sg:∀k,k < K->0 < g k (s k)
 sl:∀k j,k < K->j < s k->g k j<=0
 oN:∀k,k < K->o k < N
 ob:∀k,k < K->B k (o k)=true
 od:∀k,k < K->d k (o k) < 0
 ol:∀k j,k < K->B k j=true->d k j < 0->x k (o k)*(-(d k j))=x k j*(-(d k (o k)))->o k<=j
 bs:∀k j,k < K->B (k+1) j=(if j=s k then true else if j=o k then false else B k j)
 xs:∀k j,k < K->j < N->x (k+1) j*X k*(-(d k (o k)))=X (k+1)*(x k j*(-(d k (o k)))+x k (o k)*d k j)
theorem dY (f:Nat->Int) (q n:Nat) (hq:q < n) (h:∀j,j < n->j≠q->f j=0) : sumN f n=f q:=by
 induction n with
 | zero=>omega
 | succ n ih =>
  show sumN f n+f n=f q;by_cases hn:q=n
  ·subst hn;have:sumN f q=sumN (fun _=>0) q:=ah _ _ _ fun i hi=>h i (by omega) (by omega);rw [this,bM];omega
  ·rw [ih (by omega) fun j hj hne=>h j (by omega) hne,h n (by omega) (by omega)];omega
theorem Am (f:Nat->Int) (n:Nat) (h:0 < sumN f n) : ∃j,j < n/\0 < f j:=by
 induction n with
 | zero=>simp [sumN] at h
 | succ n ih =>
  by_cases hp:0 < f n
  ·exact ⟨n,by omega,hp⟩
  ·have h':0 < sumN f n+f n:=h;obtain ⟨j,hj,hf⟩:=ih (by omega);exact ⟨j,by omega,hf⟩
theorem Tp (f:Nat->Nat) (a:Nat) : ∀b,a < b->∃q,a<=q/\q < b/\∀r,a<=r->r < b->f r<=f q:=by
 intro b
 induction b with
 | zero=>intro h;omega
 | succ b ih =>
  intro h;by_cases hab:a < b
  ·obtain ⟨q,h1,h2,h3⟩:=ih hab;by_cases hf:f b<=f q
   ·refine ⟨q,h1,by omega,fun r hr hr2=>?_⟩;by_cases hrb:r=b
    ·subst hrb;exact hf
    ·exact h3 r hr (by omega)
   ·refine ⟨b,by omega,by omega,fun r hr hr2=>?_⟩;by_cases hrb:r=b
    ·subst hrb;omega
    ·have:=h3 r hr (by omega);omega
  ·refine ⟨a,by omega,by omega,fun r hr hr2=>?_⟩;have:r=a:=by omega
   subst this;omega
namespace Steps
variable {N m:Nat} {c:Nat->Int} {a:Nat->Nat->Int} {B:Nat->Nat->Bool} {x:Nat->Nat->Int} {X:Nat->Int} {g:Nat->Nat->Int} {G:Nat->Int} {y:Nat->Nat->Int} {d:Nat->Nat->Int} {s o:Nat->Nat} {K:Nat}
theorem cross (h:Steps N m c a B x X g G y d s o K) (k l:Nat) (hk:k < K) (hl:l < K) : sumN (fun j=>g k j*d l j) N=G k*sumN (fun j=>c j*d l j) N:=by
 have e1:sumN (fun j=>g k j*d l j) N=sumN (fun j=>G k*(c j*d l j)+(-1)*sumN (fun i=>y k i*(a i j*d l j)) m) N:=by
  refine ah _ _ _ fun j hj=>?_;have e2:sumN (fun i=>y k i*(a i j*d l j)) m=d l j*sumN (fun i=>y k i*a i j) m:=by rw [<-az];exact ah _ _ _ fun i _=>by grind
  rw [e2,h.gy k j hk hj];grind
 have e3:sumN (fun j=>sumN (fun i=>y k i*(a i j*d l j)) m) N=0:=by
  rw [jh];have:sumN (fun i=>sumN (fun j=>y k i*(a i j*d l j)) N) m=sumN (fun _=>0) m:=by refine ah _ _ _ fun i hi=>?_;rw [az,h.dz l i hl hi];grind
  rw [this,bM]
 rw [e1,dA,az,az,e3];omega
theorem rise (h:Steps N m c a B x X g G y d s o K) (k:Nat) (hk:k < K) : 0 < sumN (fun j=>c j*d k j) N:=by
 have h1:=h.cross k k hk hk;rw [dY (fun j=>g k j*d k j) (s k) N (h.sN k hk) fun j _ hne=>by
  cases hB:B k j with
  | true=>show g k j*d k j=0;rw [h.gb k j hk hB];omega
  | false=>show g k j*d k j=0;rw [h.db k j hk hB hne];omega] at h1
 have h2:0 < g k (s k)*d k (s k):=Int.mul_pos (h.sg k hk) (h.ds k hk);have h3:=h.G0 k hk;generalize sumN (fun j=>c j*d k j) N=W at *;by_cases hW:0 < W
 ·exact hW
 ·have:G k*W<=0:=Int.mul_nonpos_of_nonneg_of_nonpos (by omega) (by omega);have h1':g k (s k)*d k (s k)=G k*W:=h1;omega
theorem worth (h:Steps N m c a B x X g G y d s o K) (k:Nat) (hk:k < K) : sumN (fun j=>c j*x (k+1) j) N*X k*(-(d k (o k)))=X (k+1)*(sumN (fun j=>c j*x k j) N*(-(d k (o k)))+x k (o k)*sumN (fun j=>c j*d k j) N):=by
 have e:sumN (fun j=>(X k*(-(d k (o k))))*(c j*x (k+1) j)) N=sumN (fun j=>(X (k+1)*(-(d k (o k))))*(c j*x k j)+(X (k+1)*x k (o k))*(c j*d k j)) N:=by refine ah _ _ _ fun j hj=>?_;have:=h.xs k j hk hj;grind
 rw [az,dA,az,az] at e;grind
theorem Pb (h:Steps N m c a B x X g G y d s o K) (k:Nat) (hk:k < K) : sumN (fun j=>c j*x k j) N*X (k+1)<=sumN (fun j=>c j*x (k+1) j) N*X k/\(0 < x k (o k)->sumN (fun j=>c j*x k j) N*X (k+1) < sumN (fun j=>c j*x (k+1) j) N*X k):=by
 have h1:=h.worth k hk;have h2:=h.rise k hk;have h3:=h.od k hk;have h4:=h.X0 (k+1) hk;have h5:=h.xb k (o k) (by omega);generalize sumN (fun j=>c j*d k j) N=W at *;generalize sumN (fun j=>c j*x k j) N=z at *;generalize sumN (fun j=>c j*x (k+1) j) N=z' at *;generalize hD : -(d k (o k))=D at *;have hDp:0 < D:=by omega
 have e:(z'*X k - z*X (k+1))*D=X (k+1)*(x k (o k)*W):=by grind
 have p0:0<=X (k+1)*(x k (o k)*W):=Int.mul_nonneg (by omega) (Int.mul_nonneg h5 (by omega));refine ⟨?_,fun hx=>?_⟩
 ·by_cases hn:0<=z'*X k - z*X (k+1)
  ·omega
  ·have:(z'*X k - z*X (k+1))*D < 0:=Int.mul_neg_of_neg_of_pos (by omega) hDp;omega
 ·have p1:0 < X (k+1)*(x k (o k)*W):=Int.mul_pos h4 (Int.mul_pos hx h2);by_cases hn:0 < z'*X k - z*X (k+1)
  ·omega
  ·have:(z'*X k - z*X (k+1))*D<=0:=Int.mul_nonpos_of_nonpos_of_nonneg (by omega) (by omega);omega
end Steps
theorem Ib (z1 X1 z2 X2 z3 X3:Int) (h1:0 < X1) (h2:0 < X2) (h3:0 < X3) (ha:z1*X2<=z2*X1) (hb:z2*X3<=z3*X2) : z1*X3<=z3*X1/\(z1*X2 < z2*X1\/z2*X3 < z3*X2->z1*X3 < z3*X1):=by
 have e:(z3*X1 - z1*X3)*X2=(z3*X2 - z2*X3)*X1+(z2*X1 - z1*X2)*X3:=by grind
 have p1:0<=(z3*X2 - z2*X3)*X1:=Int.mul_nonneg (by omega) (by omega);have p2:0<=(z2*X1 - z1*X2)*X3:=Int.mul_nonneg (by omega) (by omega);refine ⟨?_,fun hs=>?_⟩
 ·by_cases hn:0<=z3*X1 - z1*X3
  ·omega
  ·have:(z3*X1 - z1*X3)*X2 < 0:=Int.mul_neg_of_neg_of_pos (by omega) h2;omega
 ·have p3:0 < (z3*X2 - z2*X3)*X1+(z2*X1 - z1*X2)*X3:=by
   rcases hs with hs|hs
   ·have:0 < (z2*X1 - z1*X2)*X3:=Int.mul_pos (by omega) h3;omega
   ·have:0 < (z3*X2 - z2*X3)*X1:=Int.mul_pos (by omega) h1;omega
  by_cases hn:0 < z3*X1 - z1*X3
  ·omega
  ·have:(z3*X1 - z1*X3)*X2<=0:=Int.mul_nonpos_of_nonpos_of_nonneg (by omega) (by omega);omega
namespace Steps
variable {N m:Nat} {c:Nat->Int} {a:Nat->Nat->Int} {B:Nat->Nat->Bool} {x:Nat->Nat->Int} {X:Nat->Int} {g:Nat->Nat->Int} {G:Nat->Int} {y:Nat->Nat->Int} {d:Nat->Nat->Int} {s o:Nat->Nat} {K:Nat}
theorem chain (h:Steps N m c a B x X g G y d s o K) (k:Nat) : ∀l,k<=l->l<=K->sumN (fun j=>c j*x k j) N*X l<=sumN (fun j=>c j*x l j) N*X k/\((∃q,k<=q/\q < l/\0 < x q (o q))->sumN (fun j=>c j*x k j) N*X l < sumN (fun j=>c j*x l j) N*X k):=by
 intro l
 induction l with
 | zero =>
  intro hkl _;obtain rfl:k=0:=by omega
  exact ⟨by omega,fun ⟨q,_,hq,_⟩=>by omega⟩
 | succ l ih =>
  intro hkl hlK;by_cases he:k=l+1
  ·subst he;exact ⟨by omega,fun ⟨q,hq1,hq,_⟩=>by omega⟩
  ·obtain ⟨i1,i2⟩:=ih (by omega) (by omega);obtain ⟨n1,n2⟩:=h.Pb l (by omega);obtain ⟨t1,t2⟩:=Ib _ _ _ _ _ _ (h.X0 k (by omega)) (h.X0 l (by omega)) (h.X0 (l+1) hlK) i1 n1;refine ⟨t1,fun ⟨q,hq1,hq2,hq3⟩=>t2 ?_⟩;by_cases hql:q=l
   ·subst hql;exact Or.inr (n2 hq3)
   ·exact Or.inl (i2 ⟨q,hq1,by omega,hq3⟩)
theorem still (h:Steps N m c a B x X g G y d s o K) (p q:Nat) (hq:q<=K) (he:sumN (fun j=>c j*x p j) N*X q=sumN (fun j=>c j*x q j) N*X p) (k:Nat) (hk:p<=k) (hk2:k < q) : x k (o k)=0:=by
 have h1:=(h.chain p q (by omega) hq).2;have h2:=h.xb k (o k) (by omega);by_cases h0:x k (o k)=0
 ·exact h0
 ·have:=h1 ⟨k,hk,hk2,by omega⟩;omega
theorem Ml (h:Steps N m c a B x X g G y d s o K) (k j:Nat) (hk:k < K) (hj:j < N) (h0:x k (o k)=0) : x (k+1) j=0<->x k j=0:=by
 have h1:=h.xs k j hk hj;have h2:=h.X0 k (by omega);have h3:=h.X0 (k+1) hk;have h4:=h.od k hk;rw [h0] at h1;have h5:x (k+1) j*(X k*(-(d k (o k))))=x k j*(X (k+1)*(-(d k (o k)))):=by grind
 have p1:0 < X k*(-(d k (o k))):=Int.mul_pos h2 (by omega);have p2:0 < X (k+1)*(-(d k (o k))):=Int.mul_pos h3 (by omega);generalize X k*(-(d k (o k)))=P at *;generalize X (k+1)*(-(d k (o k)))=Q at *;constructor
 ·intro hz;rw [hz,Int.zero_mul] at h5;exact (Int.mul_eq_zero.1 h5.symm).resolve_right (by omega)
 ·intro hz;rw [hz,Int.zero_mul] at h5;exact (Int.mul_eq_zero.1 h5).resolve_right (by omega)
theorem Pf (h:Steps N m c a B x X g G y d s o K) (p q:Nat) (hq:q<=K) (hs:∀k,p<=k->k < q->x k (o k)=0) (j:Nat) (hj:j < N) : ∀k,p<=k->k<=q->(x k j=0<->x p j=0):=by
 intro k
 induction k with
 | zero=>intro h1 _;obtain rfl:p=0:=(by omega);exact Iff.rfl
 | succ k ih =>
  intro h1 h2;by_cases he:p=k+1
  ·subst he;exact Iff.rfl
  ·rw [h.Ml k j (by omega) hj (hs k (by omega) (by omega))];exact ih (by omega) (by omega)
theorem yC (h:Steps N m c a B x X g G y d s o K) (j k:Nat) (hB:B k j=true) : ∀l,k<=l->l<=K->B l j=false->∃q,k<=q/\q < l/\o q=j:=by
 intro l
 induction l with
 | zero=>intro h1 _ h3;obtain rfl:k=0:=(by omega);rw [hB] at h3;cases h3
 | succ l ih =>
  intro h1 h2 h3;by_cases he:k=l+1
  ·subst he;rw [hB] at h3;cases h3
  ·cases hl:B l j with
   | false=>obtain ⟨q,q1,q2,q3⟩:=ih (by omega) (by omega) hl;exact ⟨q,q1,by omega,q3⟩
   | true =>
    rw [h.bs l j (by omega)] at h3;by_cases hs:j=s l
    ·rw [if_pos hs] at h3;cases h3
    ·rw [if_neg hs] at h3;by_cases ho:j=o l
     ·exact ⟨l,by omega,by omega,ho.symm⟩
     ·rw [if_neg ho,hl] at h3;cases h3
theorem Kk (h:Steps N m c a B x X g G y d s o K) (j k:Nat) (hB:B k j=false) : ∀l,k<=l->l<=K->B l j=true->∃q,k<=q/\q < l/\s q=j:=by
 intro l
 induction l with
 | zero=>intro h1 _ h3;obtain rfl:k=0:=(by omega);rw [hB] at h3;cases h3
 | succ l ih =>
  intro h1 h2 h3;by_cases he:k=l+1
  ·subst he;rw [hB] at h3;cases h3
  ·cases hl:B l j with
   | true=>obtain ⟨q,q1,q2,q3⟩:=ih (by omega) (by omega) hl;exact ⟨q,q1,by omega,q3⟩
   | false =>
    rw [h.bs l j (by omega)] at h3;by_cases hs:j=s l
    ·exact ⟨l,by omega,by omega,hs.symm⟩
    ·rw [if_neg hs] at h3;by_cases ho:j=o l
     ·rw [if_pos ho] at h3;cases h3
     ·rw [if_neg ho,hl] at h3;cases h3
theorem Pg (h:Steps N m c a B x X g G y d s o K) (p q:Nat) (hq:q<=K) (he:∀j,B p j=B q j) (j k l:Nat) (hk:p<=k) (hk2:k<=q) (hl:p<=l) (hl2:l<=q) (h1:B k j=true) (h2:B l j=false) : ∃r,p<=r/\r < q/\o r=j:=by
 by_cases hkl:k<=l
 ·obtain ⟨r,r1,r2,r3⟩:=h.yC j k h1 l hkl (by omega) h2;exact ⟨r,by omega,by omega,r3⟩
 ·cases hb:B q j with
  | false =>obtain ⟨r,r1,r2,r3⟩:=h.yC j k h1 q hk2 hq hb;exact ⟨r,by omega,by omega,r3⟩
  | true =>obtain ⟨r,r1,r2,r3⟩:=h.yC j p (by rw [he j];exact hb) l hl (by omega) h2;exact ⟨r,by omega,by omega,r3⟩
theorem yD (h:Steps N m c a B x X g G y d s o K) (p q:Nat) (hpq:p < q) (hq:q<=K) (he:∀j,B p j=B q j) (hx:∀j,j < N->x p j*X q=x q j*X p) : False:=by
 have hz:sumN (fun j=>c j*x p j) N*X q=sumN (fun j=>c j*x q j) N*X p:=by
  have e:sumN (fun j=>X q*(c j*x p j)) N=sumN (fun j=>X p*(c j*x q j)) N:=by refine ah _ _ _ fun j hj=>?_;have:=hx j hj;grind
  rw [az,az] at e;grind
 have hs:=h.still p q hq hz;have hza:=h.Pf p q hq hs;have hf0:∀r,p<=r->r < q->∀k,p<=k->k<=q->x k (o r)=0:=by intro r r1 r2 k k1 k2;have hN:=h.oN r (by omega);rw [hza (o r) hN k k1 k2,<-hza (o r) hN r r1 (by omega)];exact hs r r1 r2
 obtain ⟨k1,a1,a2,hmax⟩:=Tp o p q hpq;have hso:o k1≠s k1:=by intro e;have:=h.gb k1 (o k1) (by omega) (h.ob k1 (by omega));have:=h.sg k1 (by omega);rw [<-e] at this;omega
 have hsB:∀k,k < K->B k (s k)=false:=by
  intro k hk;cases hb:B k (s k) with
  | false=>rfl
  | true=>have:=h.gb k (s k) hk hb;have:=h.sg k hk;omega
 have hafter:B (k1+1) (o k1)=false:=by rw [h.bs k1 _ (by omega),if_neg hso,if_pos rfl]
 obtain ⟨k2,b1,b2,b3⟩ : ∃k2,p<=k2/\k2 < q/\s k2=o k1:=by
  cases hb:B q (o k1) with
  | true =>obtain ⟨r,r1,r2,r3⟩:=h.Kk (o k1) (k1+1) hafter q (by omega) hq hb;exact ⟨r,by omega,r2,r3⟩
  | false =>obtain ⟨r,r1,r2,r3⟩:=h.Kk (o k1) p (by rw [he];exact hb) k1 a1 (by omega) (h.ob k1 (by omega));exact ⟨r,r1,by omega,r3⟩
 have hpos:0 < sumN (fun j=>g k2 j*d k1 j) N:=by rw [h.cross k2 k1 (by omega) (by omega)];exact Int.mul_pos (h.G0 k2 (by omega)) (h.rise k1 (by omega))
 obtain ⟨j,hj,hgd⟩:=Am _ _ hpos;have hg0:g k2 j≠0:=by intro e;rw [e] at hgd;omega
 have hd0:d k1 j≠0:=by intro e;rw [e] at hgd;omega
 have hB2:B k2 j=false:=by
  cases hb:B k2 j with
  | false=>rfl
  | true=>exact absurd (h.gb k2 j (by omega) hb) hg0
 by_cases hjs:j=s k1
 ·subst hjs;have hB1:B (k1+1) (s k1)=true:=by rw [h.bs k1 _ (by omega),if_pos rfl]
  obtain ⟨r,r1,r2,r3⟩:=h.Pg p q hq he (s k1) (k1+1) k1 (by omega) (by omega) a1 (by omega) hB1 (hsB k1 (by omega));have hle:=hmax r r1 r2;have hdp:=h.ds k1 (by omega);by_cases hlt:s k1 < s k2
  ·have hgn:=h.sl k2 (s k1) (by omega) hlt;have:g k2 (s k1)*d k1 (s k1)<=0:=Int.mul_nonpos_of_nonpos_of_nonneg hgn (by omega);omega
  ·omega
 ·have hB1:B k1 j=true:=by
   cases hb:B k1 j with
   | true=>rfl
   | false=>exact absurd (h.db k1 j (by omega) hb hjs) hd0
  obtain ⟨r,r1,r2,r3⟩:=h.Pg p q hq he j k1 k2 a1 (by omega) b1 (by omega) hB1 hB2;have hle:=hmax r r1 r2;rw [r3] at hle;by_cases hjt:j=o k1
  ·subst hjt;have h1:=h.sg k2 (by omega);rw [b3] at h1;have h2:=h.od k1 (by omega);have:g k2 (o k1)*d k1 (o k1) < 0:=Int.mul_neg_of_pos_of_neg h1 h2;omega
  ·have hgn:=h.sl k2 j (by omega) (by omega);have hdn:d k1 j < 0:=by
    by_cases hn:d k1 j < 0
    ·exact hn
    ·have:g k2 j*d k1 j<=0:=Int.mul_nonpos_of_nonpos_of_nonneg hgn (by omega);omega
   have hx0:x k1 j=0:=by rw [<-r3];exact hf0 r r1 r2 k1 a1 (by omega)
   have ho0:=hs k1 a1 a2;have:=h.ol k1 j (by omega) hB1 hdn (by rw [hx0,ho0];omega);omega
end Steps
theorem indep (n:Nat) (ls:List (List Int)) (h:Sq n ls) (h1:1<=n) (h4:n<=4) (v:Nat->Int) (hv:∀i,i < n->sumN (fun l=>v l*at2 ls l i) n=0) (k:Nat) (hk:k < n) : vol ls aI*v k=0:=by
 have hl:ls.length=n:=h.1;have hT:Sq n (bP ls):=by refine ⟨by unfold bP;simp [hl],fun r hr=>?_⟩;unfold bP at hr;simp only [List.mem_map] at hr;obtain ⟨i,_,rfl⟩:=hr;simp [hl]
 have e0:∀i l,i < n->l < n->at2 (bP ls) i l=at2 ls l i:=by intro i l hi hll;unfold bP;rw [jW,if_pos (by omega),aA,if_pos (by omega)]
 obtain ⟨e,he⟩ : ∃e:List Int,e=(List.range n).map fun i=>if i=k then (1:Int) else 0:=⟨_,rfl⟩;have hel:e.length=n:=by rw [he];simp
 obtain ⟨u,hu⟩ : ∃u,u=aL (bP ls) e n:=⟨_,rfl⟩;have hc:∀l,l < n->sumN (fun i=>u[i]?.getD 0*at2 ls l i) n=vol ls aI*(if l=k then 1 else 0):=by
  intro l hl2;have:=qc n (bP ls) e hT hel h1 h4 l hl2;rw [yA n ls h h1 h4] at this;unfold xe at this;rw [aX,<-hu] at this;have e1:e[l]?.getD 0=if l=k then 1 else 0:=by rw [he,aA,if_pos hl2]
  rw [e1] at this;rw [<-this];refine ah _ _ _ fun i hi=>?_;rw [aA,if_pos hi,e0 i l hi hl2]
 have t1:sumN (fun l=>v l*sumN (fun i=>u[i]?.getD 0*at2 ls l i) n) n=vol ls aI*v k:=by rw [dY _ k n hk fun l hl2 hne=>by show v l*_=0;rw [hc l hl2,if_neg hne];omega];show v k*_=_;rw [hc k hk,if_pos rfl];grind
 have t2:sumN (fun l=>v l*sumN (fun i=>u[i]?.getD 0*at2 ls l i) n) n=sumN (fun i=>u[i]?.getD 0*sumN (fun l=>v l*at2 ls l i) n) n:=by
  have a1:sumN (fun l=>v l*sumN (fun i=>u[i]?.getD 0*at2 ls l i) n) n=sumN (fun l=>sumN (fun i=>u[i]?.getD 0*(v l*at2 ls l i)) n) n:=by refine ah _ _ _ fun l _=>?_;rw [<-az];exact ah _ _ _ fun i _=>by grind
  rw [a1,jh];exact ah _ _ _ fun i _=>by rw [az]
 have t3:sumN (fun i=>u[i]?.getD 0*sumN (fun l=>v l*at2 ls l i) n) n=0:=by
  have:sumN (fun i=>u[i]?.getD 0*sumN (fun l=>v l*at2 ls l i) n) n=sumN (fun _=>0) n:=ah _ _ _ fun i hi=>by rw [hv i hi];omega
  rw [this,bM]
 rw [<-t1,t2,t3]
def oZ (ls:List (List Int)) (k k':Nat) : List (List Int):=(ls.eraseIdx k).insertIdx k' (ls[k]?.getD [])
def oU (n:Nat) : Int:=if n % 2=0 then 1 else -1
theorem mv1 (a:Int) (i i':Nat) (hi:i < 1) (hi':i' < 1) : vol (oZ [[a]] i i') aI=oU (i+i')*vol [[a]] aI:=by
 match i,i',hi,hi' with
 | 0,0,_,_=>simp [oZ,oU,vol,aM,aI]<;>grind
theorem mv2 (a b c d:Int) (i i':Nat) (hi:i < 2) (hi':i' < 2) : vol (oZ [[a,b],[c,d]] i i') aI=oU (i+i')*vol [[a,b],[c,d]] aI:=by
 match i,i',hi,hi' with
 | 0,0,_,_=>simp [oZ,oU,vol,aM,aI,mark]<;>grind
 | 0,1,_,_=>simp [oZ,oU,vol,aM,aI,mark]<;>grind
 | 1,0,_,_=>simp [oZ,oU,vol,aM,aI,mark]<;>grind
 | 1,1,_,_=>simp [oZ,oU,vol,aM,aI,mark]<;>grind
theorem mv3 (a b c d e f g h j:Int) (i i':Nat) (hi:i < 3) (hi':i' < 3) : vol (oZ [[a,b,c],[d,e,f],[g,h,j]] i i') aI=oU (i+i')*vol [[a,b,c],[d,e,f],[g,h,j]] aI:=by
 match i,i',hi,hi' with
 | 0,0,_,_=>simp [oZ,oU,vol,aM,aI,mark]<;>grind
 | 0,1,_,_=>simp [oZ,oU,vol,aM,aI,mark]<;>grind
 | 0,2,_,_=>simp [oZ,oU,vol,aM,aI,mark]<;>grind
 | 1,0,_,_=>simp [oZ,oU,vol,aM,aI,mark]<;>grind
 | 1,1,_,_=>simp [oZ,oU,vol,aM,aI,mark]<;>grind
 | 1,2,_,_=>simp [oZ,oU,vol,aM,aI,mark]<;>grind
 | 2,0,_,_=>simp [oZ,oU,vol,aM,aI,mark]<;>grind
 | 2,1,_,_=>simp [oZ,oU,vol,aM,aI,mark]<;>grind
 | 2,2,_,_=>simp [oZ,oU,vol,aM,aI,mark]<;>grind
theorem mv4 (a b c d e f g h j k l m n o p q:Int) (i i':Nat) (hi:i < 4) (hi':i' < 4) : vol (oZ [[a,b,c,d],[e,f,g,h],[j,k,l,m],[n,o,p,q]] i i') aI=oU (i+i')*vol [[a,b,c,d],[e,f,g,h],[j,k,l,m],[n,o,p,q]] aI:=by
 match i,i',hi,hi' with
 | 0,0,_,_=>simp [oZ,oU,vol,aM,aI,mark]<;>grind
 | 0,1,_,_=>simp [oZ,oU,vol,aM,aI,mark]<;>grind
 | 0,2,_,_=>simp [oZ,oU,vol,aM,aI,mark]<;>grind
 | 0,3,_,_=>simp [oZ,oU,vol,aM,aI,mark]<;>grind
 | 1,0,_,_=>simp [oZ,oU,vol,aM,aI,mark]<;>grind
 | 1,1,_,_=>simp [oZ,oU,vol,aM,aI,mark]<;>grind
 | 1,2,_,_=>simp [oZ,oU,vol,aM,aI,mark]<;>grind
 | 1,3,_,_=>simp [oZ,oU,vol,aM,aI,mark]<;>grind
 | 2,0,_,_=>simp [oZ,oU,vol,aM,aI,mark]<;>grind
 | 2,1,_,_=>simp [oZ,oU,vol,aM,aI,mark]<;>grind
 | 2,2,_,_=>simp [oZ,oU,vol,aM,aI,mark]<;>grind
 | 2,3,_,_=>simp [oZ,oU,vol,aM,aI,mark]<;>grind
 | 3,0,_,_=>simp [oZ,oU,vol,aM,aI,mark]<;>grind
 | 3,1,_,_=>simp [oZ,oU,vol,aM,aI,mark]<;>grind
 | 3,2,_,_=>simp [oZ,oU,vol,aM,aI,mark]<;>grind
 | 3,3,_,_=>simp [oZ,oU,vol,aM,aI,mark]<;>grind
theorem moved (n:Nat) (ls:List (List Int)) (h:Sq n ls) (h1:1<=n) (h4:n<=4) (i i':Nat) (hi:i < n) (hi':i' < n) : vol (oZ ls i i') aI=oU (i+i')*vol ls aI:=by
 obtain ⟨hl,ha⟩:=h
 match n,h1,h4 with
 | 1,_,_ =>obtain ⟨x,rfl⟩:=uW ls hl;obtain ⟨a,rfl⟩:=uW x (ha x (by simp));exact mv1 a i i' hi hi'
 | 2,_,_ =>obtain ⟨x,y,rfl⟩:=oW ls hl;obtain ⟨a,b,rfl⟩:=oW x (ha x (by simp));obtain ⟨c,d,rfl⟩:=oW y (ha y (by simp));exact mv2 _ _ _ _ i i' hi hi'
 | 3,_,_ =>obtain ⟨x,y,z,rfl⟩:=lN ls hl;obtain ⟨a,b,c,rfl⟩:=lN x (ha x (by simp));obtain ⟨d,e,f,rfl⟩:=lN y (ha y (by simp));obtain ⟨g,h,j,rfl⟩:=lN z (ha z (by simp));exact mv3 _ _ _ _ _ _ _ _ _ i i' hi hi'
 | 4,_,_ =>obtain ⟨x,y,z,u,rfl⟩:=jG ls hl;obtain ⟨a,b,c,d,rfl⟩:=jG x (ha x (by simp));obtain ⟨e,f,g,h,rfl⟩:=jG y (ha y (by simp));obtain ⟨j,k,l,m,rfl⟩:=jG z (ha z (by simp));obtain ⟨n',o,p,q,rfl⟩:=jG u (ha u (by simp));exact mv4 _ _ _ _ _ _ _ _ _ _ _ _ _ _ _ _ i i' hi hi'
theorem lI (N:Nat) (at' s:List Int) (m:Nat) (hr:aH at' m N=true) : ∀k,k<=m->∀i,i < k->(spreadN N at' s k)[aZ at' i]?.getD 0=s[i]?.getD 0:=by
 intro k
 induction k with
 | zero=>intro _ i hi;omega
 | succ k ih =>
  intro hk i hi;unfold spreadN;by_cases hik:i=k
  ·subst hik;rw [List.getElem?_set_self (by rw [gF];exact kR at' N m hr i (by omega)),Option.getD_some]
  ·have:=jy at' N m hr k (by omega) i (by omega);rw [List.getElem?_set,if_neg (by omega)];exact ih (by omega) i (by omega)
def gK (at':List Int) (m j:Nat) : Bool:=(List.range m).any fun i=>aZ at' i == j
theorem bD (at':List Int) (m j:Nat) : gK at' m j=true<->∃i,i < m/\aZ at' i=j:=by unfold gK;simp [List.any_eq_true,List.mem_range]
theorem fq (at':List Int) (m j:Nat) : gK at' m j=false<->∀i,i < m->aZ at' i≠j:=by unfold gK;simp [List.any_eq_false,List.mem_range]
theorem Wh (f:Nat->Int) (N:Nat) (at':List Int) (m:Nat) (hr:aH at' m N=true) (h:∀j,j < N->gK at' m j=false->f j=0) : sumN f N=sumN (fun l=>f (aZ at' l)) m:=by
 have e:=j3 f N at' ((List.range m).map fun _=>1) m hr m (Nat.le_refl _);have e1:sumN (fun j=>f j*(spreadN N at' ((List.range m).map fun _=>1) m)[j]?.getD 0) N=sumN f N:=by
  refine ah _ _ _ fun j hj=>?_;cases hb:gK at' m j with
  | false=>rw [h j hj hb];omega
  | true =>obtain ⟨i,hi,rfl⟩:=(bD at' m j).1 hb;rw [lI N at' _ m hr m (Nat.le_refl _) i hi,aA,if_pos hi];omega
 rw [<-e1,e];refine ah _ _ _ fun i hi=>?_;rw [aA,if_pos hi];omega
def o8 (p:Lp) (m j:Nat) : List Int:=(List.range m).map (aC p j)
theorem nL (p:Lp) (at':List Int) (m l i:Nat) (hl:l < m) (hi:i < m) : at2 (aG p at' m) l i=aC p (aZ at' l) i:=by unfold aG;rw [jW,if_pos hl,aA,if_pos hi]
theorem yE (p:Lp) (at':List Int) (m:Nat) (h:at'.length=m) : aG p at' m=at'.map fun z=>o8 p m z.toNat:=by
 unfold aG;apply List.ext_getElem
 ·simp [h]
 ·intro i h1 h2;simp only [List.length_map,List.length_range] at h1;simp only [List.getElem_map,List.getElem_range,o8,aZ];rw [List.getElem?_eq_getElem (by omega)];rfl
theorem qg (p:Lp) (at':List Int) (m N:Nat) (hr:aH at' m N=true) (h1:1<=m) (h4:m<=4) (hd:aF p at' m≠0) (v:Nat->Int) (hv:∀j,j < N->gK at' m j=false->v j=0) (ha:∀i,i < m->sumN (fun j=>aC p j i*v j) N=0) (j:Nat) (hj:j < N) : v j=0:=by
 cases hb:gK at' m j with
 | false=>exact hv j hj hb
 | true =>
  obtain ⟨k,hk,rfl⟩:=(bD at' m j).1 hb;have h0:=indep m (aG p at' m) (cZ p at' m) h1 h4 (fun l=>v (aZ at' l)) (fun i hi=>by
   have:=ha i hi;rw [Wh (fun j=>aC p j i*v j) N at' m hr fun j hj hb=>by show aC p j i*v j=0;rw [hv j hj hb];omega] at this;rw [<-this];refine ah _ _ _ fun l hl=>?_;rw [nL p at' m l i hl hi];grind) k hk
  exact (Int.mul_eq_zero.1 h0).resolve_left hd
def cu (p:Lp) (at':List Int) (m s:Nat) : List Int:=aL (aG p at' m) (o8 p m s) m
def bA (p:Lp) (at':List Int) (m N s j:Nat) : Int:=if j=s then aF p at' m else -(spreadN N at' (cu p at' m s) m)[j]?.getD 0
theorem ji (p:Lp) (at':List Int) (m N s:Nat) (hr:aH at' m N=true) (h1:1<=m) (h4:m<=4) (hs:s < N) (hsb:gK at' m s=false) (i:Nat) (hi:i < m) : sumN (fun j=>aC p j i*bA p at' m N s j) N=0:=by
 have hc:=qc m (aG p at' m) (o8 p m s) (cZ p at' m) (by unfold o8;simp) h1 h4 i hi;unfold xe at hc;rw [aX] at hc;have e1:(o8 p m s)[i]?.getD 0=aC p s i:=by unfold o8;rw [aA,if_pos hi]
 rw [e1] at hc;have hsp:=j3 (fun j=>aC p j i) N at' (cu p at' m s) m hr m (Nat.le_refl _);have e2:sumN (fun l=>aC p (aZ at' l) i*(cu p at' m s)[l]?.getD 0) m=vol (aG p at' m) aI*aC p s i:=by rw [<-hc];refine ah _ _ _ fun l hl=>?_;rw [aA,if_pos hl,nL p at' m l i hl hi];unfold cu;grind
 have h0:(spreadN N at' (cu p at' m s) m)[s]?.getD 0=0:=jZ _ _ _ _ _ ((fq at' m s).1 hsb);have e3:sumN (fun j=>aC p j i*bA p at' m N s j) N=sumN (fun j=>(-1)*(aC p j i*(spreadN N at' (cu p at' m s) m)[j]?.getD 0)+(if j=s then 1 else 0)*(aC p j i*aF p at' m)) N:=by
  refine ah _ _ _ fun j hj=>?_;unfold bA;by_cases hjs:j=s
  ·subst hjs;rw [if_pos rfl,if_pos rfl,h0];grind
  ·rw [if_neg hjs,if_neg hjs];grind
 rw [e3,dA,az,hsp,e2,uw (fun j=>aC p j i*aF p at' m) s N hs];unfold aF;grind
def eB (at':List Int) (k k':Nat) (s:Nat) : List Int:=(at'.eraseIdx k).insertIdx k' (s:Int)
theorem Ao {α β:Type} (f:α->β) (l:List α) (k:Nat) (a:α) : (l.insertIdx k a).map f=(l.map f).insertIdx k (f a):=by
 induction l generalizing k with
 | nil=>cases k<;>simp
 | cons b l ih=>cases k with
  | zero=>simp
  | succ k=>simp [ih]
theorem map_eraseIdx {α β:Type} (f:α->β) (l:List α) (k:Nat) : (l.eraseIdx k).map f=(l.map f).eraseIdx k:=by
 induction l generalizing k with
 | nil=>simp
 | cons b l ih=>cases k with
  | zero=>simp
  | succ k=>simp [ih]
theorem eraseIdx_set {α:Type} (l:List α) (k:Nat) (a:α) : (l.set k a).eraseIdx k=l.eraseIdx k:=by
 induction l generalizing k with
 | nil=>simp
 | cons b l ih=>cases k with
  | zero=>simp
  | succ k=>simp [ih]
theorem yF (at':List Int) (k k' s m:Nat) (h:at'.length=m) (hk:k < m) (hk':k' < m) : (eB at' k k' s).length=m:=by unfold eB;rw [List.length_insertIdx,List.length_eraseIdx];split<;>split<;>omega
theorem EZ (p:Lp) (at':List Int) (k k' s m:Nat) (h:at'.length=m) (h1:1<=m) (h4:m<=4) (hk:k < m) (hk':k' < m) : aF p (eB at' k k' s) m=oU (k+k')*(cu p at' m s)[k]?.getD 0:=by
 have e:aG p (eB at' k k' s) m=oZ ((aG p at' m).set k (o8 p m s)) k k':=by rw [yE p _ m (yF at' k k' s m h hk hk'),yE p at' m h];unfold eB oZ;rw [Ao,map_eraseIdx,eraseIdx_set,List.getElem?_set_self (by simp;omega)];rfl
 have hq:Sq m ((aG p at' m).set k (o8 p m s)):=by
  have hs:=cZ p at' m;refine ⟨by rw [List.length_set];exact hs.1,fun l hl=>?_⟩;rcases List.mem_or_eq_of_mem_set hl with h|rfl
  ·exact hs.2 l h
  ·unfold o8;simp
 unfold aF;rw [e,moved m _ hq h1 h4 k k' hk hk'];unfold cu aL;rw [aA,if_pos hk]
theorem mQ (p:Lp) (at':List Int) (m N:Nat) (hr:aH at' m N=true) (h1:1<=m) (h4:m<=4) (i:Nat) (hi:i < m) : sumN (fun j=>aC p j i*(xL p at' m N)[j]?.getD 0) N=aF p at' m*dw p i:=by
 have hc:=qc m (aG p at' m) (bF p m) (cZ p at' m) (by unfold bF;simp) h1 h4 i hi;unfold xe at hc;rw [aX] at hc;have e1:(bF p m)[i]?.getD 0=dw p i:=by unfold bF;rw [aA,if_pos hi]
 rw [e1] at hc;unfold xL;rw [j3 (fun j=>aC p j i) N at' _ m hr m (Nat.le_refl _)];unfold aF;rw [<-hc];refine ah _ _ _ fun l hl=>?_;rw [aA,if_pos hl,nL p at' m l i hl hi];grind
theorem yG (p:Lp) (at':List Int) (m N j:Nat) (h:gK at' m j=false) : (xL p at' m N)[j]?.getD 0=0:=jZ _ _ _ _ _ ((fq at' m j).1 h)
theorem iD (p:Lp) (at':List Int) (m N s j:Nat) (h:gK at' m j=false) (hs:j≠s) : bA p at' m N s j=0:=by unfold bA;rw [if_neg hs,jZ _ _ _ _ _ ((fq at' m j).1 h)];rfl
theorem lZ (p:Lp) (at':List Int) (m N s k:Nat) (hr:aH at' m N=true) (hk:k < m) (hs:gK at' m s=false) : bA p at' m N s (aZ at' k)=-(cu p at' m s)[k]?.getD 0:=by unfold bA;rw [if_neg ((fq at' m s).1 hs k hk),lI N at' _ m hr m (Nat.le_refl _) k hk]
theorem exchange (p:Lp) (at' dO:List Int) (m N s k:Nat) (hr:aH at' m N=true) (hr2:aH dO m N=true) (h1:1<=m) (h4:m<=4) (hs:s < N) (hsb:gK at' m s=false) (hk:k < m)
  (hin:∀j,gK dO m j=(if j=s then true else if j=aZ at' k then false else gK at' m j)) (hd2:aF p dO m≠0) (j:Nat) (hj:j < N) :
  (xL p dO m N)[j]?.getD 0*aF p at' m*(cu p at' m s)[k]?.getD 0=aF p dO m*((xL p at' m N)[j]?.getD 0*(cu p at' m s)[k]?.getD 0+(xL p at' m N)[aZ at' k]?.getD 0*bA p at' m N s j):=by
 have hdk:=lZ p at' m N s k hr hk hsb;generalize hw:(cu p at' m s)[k]?.getD 0=w at *;generalize hxo:(xL p at' m N)[aZ at' k]?.getD 0=xo at *;have h0:=qg p dO m N hr2 h1 h4 hd2 (fun j=>(xL p dO m N)[j]?.getD 0*aF p at' m*w - aF p dO m*((xL p at' m N)[j]?.getD 0*w+xo*bA p at' m N s j))
  (fun j hj hb=>by
   show (xL p dO m N)[j]?.getD 0*aF p at' m*w - aF p dO m*((xL p at' m N)[j]?.getD 0*w+xo*bA p at' m N s j)=0;rw [yG p dO m N j hb];rw [hin j] at hb;by_cases hjs:j=s
   ·rw [if_pos hjs] at hb;cases hb
   ·rw [if_neg hjs] at hb;by_cases hjo:j=aZ at' k
    ·subst hjo;rw [hxo,hdk];grind
    ·rw [if_neg hjo] at hb;rw [yG p at' m N j hb,iD p at' m N s j hb hjs];grind)
  (fun i hi=>by
   have a1:=mQ p at' m N hr h1 h4 i hi;have a2:=mQ p dO m N hr2 h1 h4 i hi;have a3:=ji p at' m N s hr h1 h4 hs hsb i hi;have e:sumN (fun j=>aC p j i*((xL p dO m N)[j]?.getD 0*aF p at' m*w - aF p dO m*((xL p at' m N)[j]?.getD 0*w+xo*bA p at' m N s j))) N
     = sumN (fun j=>(aF p at' m*w)*(aC p j i*(xL p dO m N)[j]?.getD 0)+((-(aF p dO m*w))*(aC p j i*(xL p at' m N)[j]?.getD 0)+(-(aF p dO m*xo))*(aC p j i*bA p at' m N s j))) N :=
    ah _ _ _ fun j _=>by grind
   rw [e,dA,dA,az,az,az,a1,a2,a3];grind) j hj
 have h0':(xL p dO m N)[j]?.getD 0*aF p at' m*w - aF p dO m*((xL p at' m N)[j]?.getD 0*w+xo*bA p at' m N s j)=0:=h0;omega
def aT (p:Lp) (at':List Int) (m:Nat) : Int:=if aF p at' m < 0 then -1 else 1
theorem vB (p:Lp) (at':List Int) (m:Nat) : aT p at' m*aT p at' m=1:=by unfold aT;split<;>rfl
theorem dD (p:Lp) (at':List Int) (m:Nat) (h:aF p at' m≠0) : 0 < aT p at' m*aF p at' m:=by unfold aT;split<;>omega
structure fe (p:Lp) (at' dO:List Int) (m N s k:Nat) : Prop where
 right:aH at' m N=true
 qh:aH dO m N=true
 den:aF p at' m≠0
 E5:aF p dO m≠0
 sN:s < N
 sg:0 < aT p at' m*(aO p at' m N)[s]?.getD 0
 sl:∀j,j < s->aT p at' m*(aO p at' m N)[j]?.getD 0<=0
 km:k < m
 falls:0 < aT p at' m*(cu p at' m s)[k]?.getD 0
 least:∀l,l < m->0 < aT p at' m*(cu p at' m s)[l]?.getD 0->(xL p at' m N)[aZ at' k]?.getD 0*(cu p at' m s)[l]?.getD 0=(xL p at' m N)[aZ at' l]?.getD 0*(cu p at' m s)[k]?.getD 0->k<=l
 Xr:∀j,gK dO m j=(if j=s then true else if j=aZ at' k then false else gK at' m j)
theorem fe.out {p:Lp} {at' dO:List Int} {m n s k:Nat} (h:fe p at' dO m (n+m) s k) (au:p.may=true) (hm:m=p.rows.length) : gK at' m s=false:=by
 cases hb:gK at' m s with
 | false=>rfl
 | true =>obtain ⟨i,hi,hs⟩:=(bD at' m s).1 hb;have:=j5 p at' m n au hm h.right i hi;have h2:=h.sg;rw [<-hs,this] at h2;omega
theorem Ph (p:Lp) (m n:Nat) (au:p.may=true) (hm:m=p.rows.length) (ats:Nat->List Int) (ss ks:Nat->Nat) (K:Nat) (hx:∀q j:Nat,q<=K->0<=aT p (ats q) m*(xL p (ats q) m (n+m))[j]?.getD 0) (hd:∀q,q<=K->aF p (ats q) m≠0)
  (h:∀q,q < K->fe p (ats q) (ats (q+1)) m (n+m) (ss q) (ks q)) :
  Steps (n+m) m (fun j=>p.costs[j]?.getD 0) (fun i j=>aC p j i) (fun q j=>gK (ats q) m j) (fun q j=>aT p (ats q) m*(xL p (ats q) m (n+m))[j]?.getD 0) (fun q=>aT p (ats q) m*aF p (ats q) m)
   (fun q j=>aT p (ats q) m*(aO p (ats q) m (n+m))[j]?.getD 0) (fun q=>aT p (ats q) m*aF p (ats q) m) (fun q i=>aT p (ats q) m*(av p (ats q) m)[i]?.getD 0)
   (fun q j=>aT p (ats q) m*bA p (ats q) m (n+m) (ss q) j) ss (fun q=>aZ (ats q) (ks q)) K:=by
 have h1:1<=m:=by have:=(p.aj au).2.2.1.1;omega
 have h4:m<=4:=by have:=(p.aj au).2.2.1.2;omega
 have hso:∀q,q < K->gK (ats q) m (ss q)=false:=fun q hq=>(h q hq).out au hm;have hdo:∀q,q < K->bA p (ats q) m (n+m) (ss q) (aZ (ats q) (ks q))=-(cu p (ats q) m (ss q))[ks q]?.getD 0:=fun q hq=>lZ p (ats q) m (n+m) (ss q) (ks q) (h q hq).right (h q hq).km (hso q hq);refine ⟨fun q hq=>dD p _ m (hd q hq),fun q hq=>dD p _ m (hd q (by omega)),fun q j hq=>hx q j hq,?_,?_,?_,?_,?_,fun q hq=>(h q hq).sN,fun q hq=>(h q hq).sg,fun q j hq hj=>(h q hq).sl j hj,fun q hq=>kR _ _ m (h q hq).right _ (h q hq).km,fun q hq=>(bD _ _ _).2 ⟨_,(h q hq).km,rfl⟩,?_,?_,fun q j hq=>(h q hq).Xr j,?_⟩
 ·intro q j hq hb;obtain ⟨i,hi,rfl⟩:=(bD _ _ _).1 hb;show aT p (ats q) m*_=0;rw [j5 p (ats q) m n au hm (h q hq).right i hi];omega
 ·intro q j hq hj;show aT p (ats q) m*_=_;unfold aO;rw [aA,if_pos hj];unfold bV;rw [<-hm,aX];have e:sumN (fun i=>aT p (ats q) m*(av p (ats q) m)[i]?.getD 0*aC p j i) m=aT p (ats q) m*sumN (fun i=>((List.range m).map (aC p j))[i]?.getD 0*(av p (ats q) m)[i]?.getD 0) m:=by rw [<-az];refine ah _ _ _ fun i hi=>?_;rw [aA,if_pos hi];grind
  rw [e];grind
 ·intro q i hq hi;have e:sumN (fun j=>aC p j i*(aT p (ats q) m*bA p (ats q) m (n+m) (ss q) j)) (n+m)=aT p (ats q) m*sumN (fun j=>aC p j i*bA p (ats q) m (n+m) (ss q) j) (n+m):=by rw [<-az];exact ah _ _ _ fun j _=>by grind
  show sumN (fun j=>aC p j i*(aT p (ats q) m*bA p (ats q) m (n+m) (ss q) j)) (n+m)=0;rw [e,ji p (ats q) m (n+m) (ss q) (h q hq).right h1 h4 (h q hq).sN (hso q hq) i hi];omega
 ·intro q j hq hb hne;show aT p (ats q) m*_=0;rw [iD p (ats q) m (n+m) (ss q) j hb hne];omega
 ·intro q hq;show 0 < aT p (ats q) m*bA p (ats q) m (n+m) (ss q) (ss q);unfold bA;rw [if_pos rfl];exact dD p _ m (hd q (by omega))
 ·intro q hq;show aT p (ats q) m*bA p (ats q) m (n+m) (ss q) (aZ (ats q) (ks q)) < 0;rw [hdo q hq];have:=(h q hq).falls;rw [Int.mul_neg];omega
 ·intro q j hq hb hdn he;obtain ⟨l,hl,rfl⟩:=(bD _ _ _).1 hb;have hdl:=lZ p (ats q) m (n+m) (ss q) l (h q hq).right hl (hso q hq);rw [hdl] at hdn he;rw [hdo q hq] at he;rw [Int.mul_neg] at hdn;have O7:=vB p (ats q) m;have e2:(xL p (ats q) m (n+m))[aZ (ats q) (ks q)]?.getD 0*(cu p (ats q) m (ss q))[l]?.getD 0=(xL p (ats q) m (n+m))[aZ (ats q) l]?.getD 0*(cu p (ats q) m (ss q))[ks q]?.getD 0:=by
   generalize (xL p (ats q) m (n+m))[aZ (ats q) (ks q)]?.getD 0=x1 at *;generalize (cu p (ats q) m (ss q))[l]?.getD 0=w1 at *;generalize (xL p (ats q) m (n+m))[aZ (ats q) l]?.getD 0=x2 at *;generalize (cu p (ats q) m (ss q))[ks q]?.getD 0=w2 at *;generalize aT p (ats q) m=g at *;have a1:(g*g)*(x1*w1)=(g*g)*(x2*w2):=by grind
   rw [O7] at a1;omega
  have hkl:=(h q hq).least l hl (by omega) e2;show aZ (ats q) (ks q)<=aZ (ats q) l;by_cases Wi:ks q=l
  ·rw [Wi];exact Nat.le_refl _
  ·have:=jy (ats q) _ m (h q hq).right l hl (ks q) (by omega);omega
 ·intro q j hq hj;have he:=exchange p (ats q) (ats (q+1)) m (n+m) (ss q) (ks q) (h q hq).right (h q hq).qh h1 h4 (h q hq).sN (hso q hq) (h q hq).km (h q hq).Xr (h q hq).E5 j hj;rw [hdo q hq];have O7:=vB p (ats q) m;generalize (xL p (ats (q+1)) m (n+m))[j]?.getD 0=y1 at *;generalize (xL p (ats q) m (n+m))[j]?.getD 0=y2 at *;generalize (xL p (ats q) m (n+m))[aZ (ats q) (ks q)]?.getD 0=y3 at *;generalize (cu p (ats q) m (ss q))[ks q]?.getD 0=w at *;generalize bA p (ats q) m (n+m) (ss q) j=dd at *;generalize aF p (ats q) m=D at *;generalize aF p (ats (q+1)) m=D2 at *;generalize aT p (ats q) m=g at *;generalize aT p (ats (q+1)) m=g2 at *;have a1:g2*y1*(g*D)*(-(g * -w))=g2*(g*g)*(y1*D*w):=by grind
  have a2:g2*D2*(g*y2*(-(g * -w))+g*y3*(g*dd))=g2*(g*g)*(D2*(y2*w+y3*dd)):=by grind
  rw [a1,a2,he]
theorem Pj (p:Lp) (m n:Nat) (au:p.may=true) (hm:m=p.rows.length) (ats:Nat->List Int) (ss ks:Nat->Nat) (K:Nat) (hx:∀q j:Nat,q<=K->0<=aT p (ats q) m*(xL p (ats q) m (n+m))[j]?.getD 0) (hd:∀q,q<=K->aF p (ats q) m≠0)
  (h:∀q,q < K->fe p (ats q) (ats (q+1)) m (n+m) (ss q) (ks q)) (a b:Nat) (hab:a < b) (hb:b<=K) : ats a≠ats b:=by
 intro e;exact (Ph p m n au hm ats ss ks K hx hd h).yD a b hab hb (fun j=>by show gK (ats a) m j=gK (ats b) m j;rw [e]) (fun j _=>by show aT p (ats a) m*_*_=aT p (ats b) m*_*_;rw [e])
theorem Ic (p:Lp) (at' dO:List Int) (m n s k:Nat) (au:p.may=true) (hm:m=p.rows.length) (h:fe p at' dO m (n+m) s k) (hx:∀j:Nat,0<=aT p at' m*(xL p at' m (n+m))[j]?.getD 0)
  (hn:∀l,l < m->0 < aT p at' m*(cu p at' m s)[l]?.getD 0->(aT p at' m*(xL p at' m (n+m))[aZ at' k]?.getD 0)*(aT p at' m*(cu p at' m s)[l]?.getD 0)<=(aT p at' m*(xL p at' m (n+m))[aZ at' l]?.getD 0)*(aT p at' m*(cu p at' m s)[k]?.getD 0)) :
  ∀j:Nat,0<=aT p dO m*(xL p dO m (n+m))[j]?.getD 0:=by
 intro j;have h1:1<=m:=by have:=(p.aj au).2.2.1.1;omega
 have h4:m<=4:=by have:=(p.aj au).2.2.1.2;omega
 have hsb:=h.out au hm;by_cases hj:j < n+m
 ·have he:=exchange p at' dO m (n+m) s k h.right h.qh h1 h4 h.sN hsb h.km h.Xr h.E5 j hj;have O7:=vB p at' m;have hD:=dD p at' m h.den;have hD2:=dD p dO m h.E5;have hw:=h.falls;have hxj:=hx j;have hxo:=hx (aZ at' k);have hR:0<=(aT p at' m*(xL p at' m (n+m))[j]?.getD 0)*(aT p at' m*(cu p at' m s)[k]?.getD 0)+(aT p at' m*(xL p at' m (n+m))[aZ at' k]?.getD 0)*(aT p at' m*bA p at' m (n+m) s j):=by
   cases hb:gK at' m j with
   | false =>
    by_cases hjs:j=s
    ·subst hjs;have:bA p at' m (n+m) j j=aF p at' m:=by unfold bA;rw [if_pos rfl]
     rw [this];have a1:=Int.mul_nonneg hxj (Int.le_of_lt hw);have a2:=Int.mul_nonneg hxo (Int.le_of_lt hD);omega
    ·rw [iD p at' m (n+m) s j hb hjs,Int.mul_zero,Int.mul_zero,Int.add_zero];exact Int.mul_nonneg hxj (Int.le_of_lt hw)
   | true =>
    obtain ⟨l,hl,rfl⟩:=(bD at' m j).1 hb;rw [lZ p at' m (n+m) s l h.right hl hsb,Int.mul_neg,Int.mul_neg];by_cases hwl:0 < aT p at' m*(cu p at' m s)[l]?.getD 0
    ·have:=hn l hl hwl;omega
    ·have a1:=Int.mul_nonneg hxj (Int.le_of_lt hw);have a2:=Int.mul_nonpos_of_nonneg_of_nonpos hxo (Int.not_lt.1 hwl);omega
  generalize (xL p dO m (n+m))[j]?.getD 0=y1 at *;generalize (xL p at' m (n+m))[j]?.getD 0=y2 at *;generalize (xL p at' m (n+m))[aZ at' k]?.getD 0=y3 at he hR;generalize (cu p at' m s)[k]?.getD 0=w at he hR hw;generalize bA p at' m (n+m) s j=dd at *;generalize aF p at' m=D at *;generalize aF p dO m=D2 at *;generalize aT p at' m=g at *;generalize aT p dO m=g2 at *;have e:(g2*y1)*((g*D)*(g*w))=(g2*D2)*((g*y2)*(g*w)+(g*y3)*(g*dd)):=by
   have a1:(g2*y1)*((g*D)*(g*w))=g2*(g*g)*(y1*D*w):=by grind
   have a2:(g2*D2)*((g*y2)*(g*w)+(g*y3)*(g*dd))=g2*(g*g)*(D2*(y2*w+y3*dd)):=by grind
   rw [a1,a2,he]
  have q1:=Int.mul_pos hD hw;have q2:=Int.mul_nonneg (Int.le_of_lt hD2) hR;by_cases hneg:0<=g2*y1
  ·exact hneg
  ·have:=Int.mul_neg_of_neg_of_pos (Int.not_le.1 hneg) q1;omega
 ·rw [List.getElem?_eq_none (by unfold xL;rw [gF];omega)];show 0<=aT p dO m*0;omega
theorem Pk (n:Nat) : ∀f:Nat->Nat,(∀i,i<=n->f i < n)->∃i j,i < j/\j<=n/\f i=f j:=by
 induction n with
 | zero=>intro f h;have:=h 0 (Nat.le_refl _);omega
 | succ n ih =>
  intro f h;by_cases hex:∃i,i<=n/\f i=f (n+1)
  ·obtain ⟨i,hi,he⟩:=hex;exact ⟨i,n+1,by omega,by omega,he⟩
  ·have hne:∀i,i<=n->f i≠f (n+1):=fun i hi he=>hex ⟨i,hi,he⟩;have hl:=h (n+1) (Nat.le_refl _);obtain ⟨i,j,hij,hj,he⟩:=ih (fun i=>if f i=n then f (n+1) else f i) (fun i hi=>by
    have a1:=h i (by omega);have a2:=hne i hi;show (if f i=n then f (n+1) else f i) < n;split<;>omega)
   refine ⟨i,j,hij,by omega,?_⟩;have a1:=hne i (by omega);have a2:=hne j hj;have he':(if f i=n then f (n+1) else f i)=(if f j=n then f (n+1) else f j):=he;split at he'<;>split at he'<;>omega
def yH (at':List Int) : Nat:=aZ at' 0+8*aZ at' 1+64*aZ at' 2+512*aZ at' 3
theorem Pm (at':List Int) (i:Nat) (h:at'.length<=i) : aZ at' i=0:=by unfold aZ;rw [List.getElem?_eq_none h];rfl
theorem qi (at':List Int) (m N:Nat) (hr:aH at' m N=true) (h8:N<=8) (i:Nat) : aZ at' i < 8:=by
 by_cases hi:i < m
 ·have:=kR at' N m hr i hi;omega
 ·have hl:=(bf at' m N hr).1;rw [Pm at' i (by omega)];omega
theorem Kl (at':List Int) (m N:Nat) (hr:aH at' m N=true) (h8:N<=8) : yH at' < 4096:=by have a0:=qi at' m N hr h8 0;have a1:=qi at' m N hr h8 1;have a2:=qi at' m N hr h8 2;have a3:=qi at' m N hr h8 3;unfold yH;omega
theorem E8 (at' dO:List Int) (m N:Nat) (hr:aH at' m N=true) (hr2:aH dO m N=true) (h4:m<=4) (h8:N<=8) (he:yH at'=yH dO) : at'=dO:=by
 have a0:=qi at' m N hr h8 0;have a1:=qi at' m N hr h8 1;have a2:=qi at' m N hr h8 2;have b0:=qi dO m N hr2 h8 0;have b1:=qi dO m N hr2 h8 1;have b2:=qi dO m N hr2 h8 2;unfold yH at he;have hall:∀i,i < m->aZ at' i=aZ dO i:=by
  intro i hi
  match i,(show i < 4 by omega) with
  | 0,_=>omega
  | 1,_=>omega
  | 2,_=>omega
  | 3,_=>omega
 obtain ⟨l1,c1⟩:=bf at' m N hr;obtain ⟨l2,c2⟩:=bf dO m N hr2;apply List.ext_getElem (by omega);intro i g1 g2;have e:=hall i (by omega);have d1:=c1 i (by omega);have d2:=c2 i (by omega);unfold aZ at e;rw [List.getElem?_eq_getElem g1] at e d1;rw [List.getElem?_eq_getElem g2] at e d2;simp only [Option.getD_some] at e d1 d2;omega
theorem Mm (p:Lp) (m n:Nat) (au:p.may=true) (hm:m=p.rows.length) (h8:n+m<=8) (ats:Nat->List Int) (ss ks:Nat->Nat) (K:Nat) (hx:∀q j:Nat,q<=K->0<=aT p (ats q) m*(xL p (ats q) m (n+m))[j]?.getD 0) (hd:∀q,q<=K->aF p (ats q) m≠0) (hr:∀q,q<=K->aH (ats q) m (n+m)=true)
  (h:∀q,q < K->fe p (ats q) (ats (q+1)) m (n+m) (ss q) (ks q)) : K < 4096:=by
 have h4:m<=4:=by have:=(p.aj au).2.2.1.2;omega
 by_cases hK:K < 4096
 ·exact hK
 ·obtain ⟨i,j,hij,hj,he⟩:=Pk 4096 (fun q=>yH (ats q)) fun i hi=>Kl _ m _ (hr i (by omega)) h8;exact absurd (E8 _ _ m _ (hr i (by omega)) (hr j (by omega)) h4 h8 he) (Pj p m n au hm ats ss ks K hx hd h i j hij (by omega))
theorem E9 (at':List Int) (m N:Nat) (hl:at'.length=m) (h:∀k,k < m->jV at' k<=at'[k]?.getD 0/\at'[k]?.getD 0 < N) : aH at' m N=true:=by
 have:∀k,k<=m->NS at' N k=true:=by
  intro k
  induction k with
  | zero=>intro _;rfl
  | succ k ih =>intro hk;rw [tT,ih (by omega)];have:=h k (by omega);simp [this.1,this.2]
 unfold aH;rw [this m (Nat.le_refl _)];simp [hl]
theorem yI (e:Nat->Nat) (s:Nat) : ∀n,(∀i j,i < j->j < n->e i < e j)->(∀i,i < n->e i≠s)->∃k',k'<=n/\(∀i,i < k'->e i < s)/\(∀i,k'<=i->i < n->s < e i):=by
 intro n
 induction n with
 | zero=>intro _ _;exact ⟨0,Nat.le_refl _,fun i hi=>by omega,fun i _ hi=>by omega⟩
 | succ n ih =>
  intro hr hne;obtain ⟨k',h1,h2,h3⟩:=ih (fun i j hij hj=>hr i j hij (by omega)) (fun i hi=>hne i (by omega));have hn:=hne n (by omega);by_cases hk:k'=n
  ·by_cases hs:e n < s
   ·refine ⟨n+1,Nat.le_refl _,fun i hi=>?_,fun i hi hi2=>by omega⟩;by_cases hin:i=n
    ·subst hin;exact hs
    ·exact h2 i (by omega)
   ·refine ⟨n,by omega,fun i hi=>h2 i (by omega),fun i hi hi2=>?_⟩;have:i=n:=by omega
    subst this;omega
  ·refine ⟨k',by omega,h2,fun i hi hi2=>?_⟩;by_cases hin:i=n
   ·subst hin;have a1:=h3 k' (Nat.le_refl _) (by omega);have a2:=hr k' i (by omega) (by omega);omega
   ·exact h3 i hi (by omega)
def gq (at':List Int) (k i:Nat) : Nat:=aZ at' (if i < k then i else i+1)
theorem Km (at':List Int) (k k' s m:Nat) (h:at'.length=m) (hk:k < m) (hk':k' < m) (i:Nat) (hi:i < m) : aZ (eB at' k k' s) i=if i < k' then gq at' k i else if i=k' then s else gq at' k (i - 1):=by
 unfold aZ eB gq aZ;have hle:k'<=(at'.eraseIdx k).length:=by rw [List.length_eraseIdx];split<;>omega
 rw [List.getElem?_insertIdx];by_cases h1:i < k'
 ·rw [if_pos h1,if_pos h1,List.getElem?_eraseIdx];split<;>rfl
 ·rw [if_neg h1,if_neg h1];by_cases h2:i=k'
  ·subst h2;rw [if_pos rfl,if_pos rfl,if_pos hle];rfl
  ·rw [if_neg h2,if_neg h2,List.getElem?_eraseIdx];split<;>rfl
theorem Pn (at':List Int) (k k' s m N:Nat) (hr:aH at' m N=true) (hk:k < m) (hk':k' < m) (i:Nat) (hi:i < m) : (eB at' k k' s)[i]?.getD 0=(aZ (eB at' k k' s) i:Int):=by
 obtain ⟨hl,hv⟩:=bf at' m N hr;have hlen:=yF at' k k' s m hl hk hk';have hnn:0<=(eB at' k k' s)[i]?.getD 0:=by
  have hmem:∀z∈eB at' k k' s,0<=z:=by
   intro z hz;unfold eB at hz;rcases (List.mem_insertIdx (by rw [List.length_eraseIdx];split<;>omega)).1 hz with rfl|hz
   ·omega
   ·have hz':=List.mem_of_mem_eraseIdx hz;obtain ⟨q,hq,rfl⟩:=List.mem_iff_getElem.1 hz';have:=(hv q (by omega)).1;rw [List.getElem?_eq_getElem hq] at this;exact this
  rw [List.getElem?_eq_getElem (by omega)];exact hmem _ (List.getElem_mem _)
 unfold aZ;omega
theorem nM (at':List Int) (k m N:Nat) (hr:aH at' m N=true) (i j:Nat) (hij:i < j) (hj:j+1 < m) : gq at' k i < gq at' k j:=by
 unfold gq;refine jy at' N m hr _ ?_ _ ?_
 ·split<;>omega
 ·split<;>split<;>omega
theorem su (at':List Int) (k k' s m N:Nat) (hr:aH at' m N=true) (hk:k < m) (hk':k' < m) (hs:s < N) (h2:∀i,i < k'->gq at' k i < s) (h3:∀i,k'<=i->i+1 < m->s < gq at' k i) : aH (eB at' k k' s) m N=true:=by
 obtain ⟨hl,hv⟩:=bf at' m N hr;have hv2:=Pn at' k k' s m N hr hk hk';have hat:=Km at' k k' s m hl hk hk';have hrN:∀i,i+1 < m->gq at' k i < N:=by intro i hi;unfold gq;exact kR at' N m hr _ (by split<;>omega)
 have hN:∀i,i < m->aZ (eB at' k k' s) i < N:=by
  intro i hi;rw [hat i hi];by_cases a1:i < k'
  ·rw [if_pos a1];exact hrN i (by omega)
  ·rw [if_neg a1];by_cases a2:i=k'
   ·rw [if_pos a2];exact hs
   ·rw [if_neg a2];exact hrN (i - 1) (by omega)
 have pJ:∀i,i+1 < m->aZ (eB at' k k' s) i < aZ (eB at' k k' s) (i+1):=by
  intro i hi;rw [hat i (by omega),hat (i+1) hi];by_cases a1:i+1 < k'
  ·rw [if_pos (by omega),if_pos a1];exact nM at' k m N hr i (i+1) (by omega) (by omega)
  ·by_cases a2:i+1=k'
   ·rw [if_pos (by omega),if_neg a1,if_pos a2];exact h2 i (by omega)
   ·by_cases a3:i=k'
    ·rw [if_neg (by omega),if_pos a3,if_neg a1,if_neg a2];exact h3 (i+1 - 1) (by omega) (by omega)
    ·rw [if_neg (by omega),if_neg a3,if_neg a1,if_neg a2];exact nM at' k m N hr (i - 1) (i+1 - 1) (by omega) (by omega)
 refine E9 _ m N (yF at' k k' s m hl hk hk') fun i hi=>?_;have b1:=hN i hi;rw [hv2 i hi];refine ⟨?_,by omega⟩;cases i with
 | zero=>show (0:Int)<=_;omega
 | succ i =>show (eB at' k k' s)[i]?.getD 0+1<=_;rw [hv2 i (by omega)];have:=pJ i hi;omega
theorem yJ (at':List Int) (k k' s m N:Nat) (hr:aH at' m N=true) (hk:k < m) (hk':k' < m) (j:Nat) : gK (eB at' k k' s) m j=(if j=s then true else if j=aZ at' k then false else gK at' m j):=by
 obtain ⟨hl,_⟩:=bf at' m N hr;have hat:=Km at' k k' s m hl hk hk';have Fa:∀l,l < m->l≠k->aZ at' l≠aZ at' k:=by
  intro l hlm hne;by_cases hlk:l < k
  ·have:=jy at' N m hr k hk l hlk;omega
  ·have:=jy at' N m hr l hlm k (by omega);omega
 by_cases hjs:j=s
 ·rw [if_pos hjs];refine (bD _ _ _).2 ⟨k',hk',?_⟩;rw [hat k' hk',if_neg (by omega),if_pos rfl,hjs]
 ·rw [if_neg hjs];by_cases hjo:j=aZ at' k
  ·rw [if_pos hjo];refine (fq _ _ _).2 fun i hi=>?_;rw [hat i hi];by_cases a1:i < k'
   ·rw [if_pos a1,hjo];unfold gq;exact Fa _ (by split<;>omega) (by split<;>omega)
   ·rw [if_neg a1];by_cases a2:i=k'
    ·rw [if_pos a2];omega
    ·rw [if_neg a2,hjo];unfold gq;exact Fa _ (by split<;>omega) (by split<;>omega)
  ·rw [if_neg hjo];cases hb:gK at' m j with
   | false =>
    have hb':=(fq _ _ _).1 hb;refine (fq _ _ _).2 fun i hi=>?_;rw [hat i hi];by_cases a1:i < k'
    ·rw [if_pos a1];unfold gq;exact hb' _ (by split<;>omega)
    ·rw [if_neg a1];by_cases a2:i=k'
     ·rw [if_pos a2];omega
     ·rw [if_neg a2];unfold gq;exact hb' _ (by split<;>omega)
   | true =>
    obtain ⟨l,hlm,hlj⟩:=(bD _ _ _).1 hb;have hlk:l≠k:=by intro e;subst e;exact hjo hlj.symm
    obtain ⟨r,hrm,hre⟩ : ∃r,r+1 < m/\(if r < k then r else r+1)=l:=by
     by_cases c1:l < k
     ·exact ⟨l,by omega,if_pos c1⟩
     ·exact ⟨l - 1,by omega,by rw [if_neg (by omega)];omega⟩
    have Xt:gq at' k r=j:=by unfold gq;rw [hre];exact hlj
    by_cases c2:r < k'
    ·refine (bD _ _ _).2 ⟨r,by omega,?_⟩;rw [hat r (by omega),if_pos c2];exact Xt
    ·refine (bD _ _ _).2 ⟨r+1,hrm,?_⟩;rw [hat (r+1) hrm,if_neg (by omega),if_neg (by omega)];exact Xt
theorem Tq (p:Lp) (at':List Int) (m n s k:Nat) (au:p.may=true) (hm:m=p.rows.length) (hr:aH at' m (n+m)=true) (hd:aF p at' m≠0) (hx:∀j:Nat,0<=aT p at' m*(xL p at' m (n+m))[j]?.getD 0)
  (hs:s < n+m) (sg:0 < aT p at' m*(aO p at' m (n+m))[s]?.getD 0) (sl:∀j:Nat,j < s->aT p at' m*(aO p at' m (n+m))[j]?.getD 0<=0)
  (hk:k < m) (falls:0 < aT p at' m*(cu p at' m s)[k]?.getD 0)
  (near:∀l,l < m->0 < aT p at' m*(cu p at' m s)[l]?.getD 0->(aT p at' m*(xL p at' m (n+m))[aZ at' k]?.getD 0)*(aT p at' m*(cu p at' m s)[l]?.getD 0)<=(aT p at' m*(xL p at' m (n+m))[aZ at' l]?.getD 0)*(aT p at' m*(cu p at' m s)[k]?.getD 0)/\
   ((aT p at' m*(xL p at' m (n+m))[aZ at' k]?.getD 0)*(aT p at' m*(cu p at' m s)[l]?.getD 0)=(aT p at' m*(xL p at' m (n+m))[aZ at' l]?.getD 0)*(aT p at' m*(cu p at' m s)[k]?.getD 0)->k<=l)) :
  ∃k',k' < m/\(∀i,i < k'->gq at' k i < s)/\(∀i,k'<=i->i+1 < m->s < gq at' k i)/\fe p at' (eB at' k k' s) m (n+m) s k/\∀j:Nat,0<=aT p (eB at' k k' s) m*(xL p (eB at' k k' s) m (n+m))[j]?.getD 0:=by
 have h1:1<=m:=by have:=(p.aj au).2.2.1.1;omega
 have h4:m<=4:=by have:=(p.aj au).2.2.1.2;omega
 have hsb:gK at' m s=false:=by
  cases hb:gK at' m s with
  | false=>rfl
  | true =>obtain ⟨i,hi,he⟩:=(bD at' m s).1 hb;have:=j5 p at' m n au hm hr i hi;rw [<-he,this] at sg;omega
 obtain ⟨k',a1,a2,a3⟩:=yI (gq at' k) s (m - 1) (fun i j hij hj=>nM at' k m (n+m) hr i j hij (by omega)) (fun i hi=>by
  unfold gq;exact (fq at' m s).1 hsb _ (by split<;>omega))
 have hk':k' < m:=by omega
 have hok:fe p at' (eB at' k k' s) m (n+m) s k:=by
  refine ⟨hr,su at' k k' s m (n+m) hr hk hk' hs a2 (fun i hi hi2=>a3 i hi (by omega)),hd,?_,hs,sg,sl,hk,falls,?_,yJ at' k k' s m (n+m) hr hk hk'⟩
  ·rw [EZ p at' k k' s m (bf at' m _ hr).1 h1 h4 hk hk'];have hw:(cu p at' m s)[k]?.getD 0≠0:=by intro e;rw [e] at falls;omega
   unfold oU;split<;>omega
  ·intro l hl hwl he;refine (near l hl hwl).2 ?_;generalize (xL p at' m (n+m))[aZ at' k]?.getD 0=x1 at *;generalize (cu p at' m s)[l]?.getD 0=w1 at *;generalize (xL p at' m (n+m))[aZ at' l]?.getD 0=x2 at *;generalize (cu p at' m s)[k]?.getD 0=w2 at *;generalize aT p at' m=g at *;grind
 exact ⟨k',hk',a2,fun i hi hi2=>a3 i hi (by omega),hok,Ic p at' _ m n s k au hm hok hx fun l hl hwl=>(near l hl hwl).1⟩
theorem yK:∀(a b:List Int),a.Pairwise (· < ·)->b.Pairwise (· < ·)->(∀x,x∈a<->x∈b)->a=b
 | [],[],_,_,_=>rfl
 | [],y :: b,_,_,h=>by have:=(h y).2 (by simp);simp at this
 | x :: a,[],_,_,h=>by have:=(h x).1 (by simp);simp at this
 | x :: a,y :: b,ha,hb,h=>by
  rw [List.pairwise_cons] at ha hb;have hxy:x=y:=by
   rcases List.mem_cons.1 ((h x).1 (by simp)) with e|e
   ·exact e
   ·rcases List.mem_cons.1 ((h y).2 (by simp)) with e2|e2
    ·exact e2.symm
    ·have:=hb.1 x e;have:=ha.1 y e2;omega
  subst hxy;congr 1;refine yK a b ha.2 hb.2 fun z=>⟨fun hz=>?_,fun hz=>?_⟩
  ·rcases List.mem_cons.1 ((h z).1 (List.mem_cons_of_mem _ hz)) with e|e
   ·subst e;have:=ha.1 z hz;omega
   ·exact e
  ·rcases List.mem_cons.1 ((h z).2 (List.mem_cons_of_mem _ hz)) with e|e
   ·subst e;have:=hb.1 z hz;omega
   ·exact e
theorem ou (at':List Int) (m N:Nat) (hr:aH at' m N=true) : at'.Pairwise (· < ·):=by obtain ⟨hl,hv⟩:=bf at' m N hr;rw [List.pairwise_iff_getElem];intro i j hi hj hij;have h1:=jy at' N m hr j (by omega) i hij;have h2:=hv i (by omega);have h3:=hv j (by omega);unfold aZ at h1;rw [List.getElem?_eq_getElem hi] at h1 h2;rw [List.getElem?_eq_getElem hj] at h1 h3;simp only [Option.getD_some] at h1 h2 h3;omega
theorem qU (at':List Int) (m N:Nat) (hr:aH at' m N=true) (x:Int) : x∈at'<->0<=x/\gK at' m x.toNat=true:=by
 obtain ⟨hl,hv⟩:=bf at' m N hr;constructor
 ·intro hx;obtain ⟨i,hi,rfl⟩:=List.getElem_of_mem hx;have h2:=hv i (by omega);rw [List.getElem?_eq_getElem hi,Option.getD_some] at h2;refine ⟨h2.1,(bD _ _ _).2 ⟨i,by omega,?_⟩⟩;unfold aZ;rw [List.getElem?_eq_getElem hi];rfl
 ·rintro ⟨h0,hb⟩;obtain ⟨i,hi,he⟩:=(bD _ _ _).1 hb;have h2:=hv i hi;unfold aZ at he;rw [List.getElem?_eq_getElem (by omega)] at h2 he;simp only [Option.getD_some] at h2 he;have:x=at'[i]:=by omega
  rw [this];exact List.getElem_mem _
theorem Po (at':List Int) (m N:Nat) (hr:aH at' m N=true) (k:Nat) (hk:k < m) : at'[k]?.getD 0=(aZ at' k:Int):=by have:=(bf at' m N hr).2 k hk;unfold aZ;omega
def fF (at':List Int) (out s:Int) : Nat->List Int×Bool
 | 0=>([],false)
 | k+1=>(if at'[k]?.getD 0=out then (if s < at'[k]?.getD 0/\(fF at' out s k).2=false then (fF at' out s k).1 ++ [s] else (fF at' out s k).1) else (if s < at'[k]?.getD 0/\(fF at' out s k).2=false then (fF at' out s k).1 ++ [s] else (fF at' out s k).1) ++ [at'[k]?.getD 0],
   (fF at' out s k).2 || decide (s < at'[k]?.getD 0))
def rG (at':List Int) (out s:Int) (m:Nat) : List Int:=if (fF at' out s m).2=true then (fF at' out s m).1 else (fF at' out s m).1 ++ [s]
theorem vC (l:List Int) (x:Int) (h:l.Pairwise (· < ·)) (hx:∀y∈l,y < x) : (l ++ [x]).Pairwise (· < ·):=by rw [List.pairwise_append];exact ⟨h,List.pairwise_singleton _ _,fun a ha b hb=>by rw [List.mem_singleton] at hb;subst hb;exact hx a ha⟩
theorem Mo (at':List Int) (out s:Int) (m:Nat) (hl:at'.length=m) (hp:at'.Pairwise (· < ·)) (hs:s∉at') : ∀k,k<=m->
  (fF at' out s k).1.Pairwise (· < ·)/\(∀y,y∈(fF at' out s k).1<->(y=s/\(fF at' out s k).2=true)\/(y≠out/\∃i,i < k/\at'[i]?.getD 0=y))/\((fF at' out s k).2=true<->∃i,i < k/\s < at'[i]?.getD 0):=by
 intro k
 induction k with
 | zero=>intro _;exact ⟨List.Pairwise.nil,fun y=>by simp [fF],by simp [fF]⟩
 | succ k ih =>
  intro hk;obtain ⟨h1,h2,h3⟩:=ih (by omega);have hrise:∀i,i < k->at'[i]?.getD 0 < at'[k]?.getD 0:=by intro i hi;have:=(List.pairwise_iff_getElem.1 hp) i k (by omega) (by omega) hi;rw [List.getElem?_eq_getElem (by omega),List.getElem?_eq_getElem (by omega)];exact this
  have hne:∀i,i < m->at'[i]?.getD 0≠s:=by intro i hi e;apply hs;rw [<-e,List.getElem?_eq_getElem (by omega)];exact List.getElem_mem _
  have hnk:=hne k (by omega);unfold fF;dsimp only;generalize (fF at' out s k).1=l at *;generalize (fF at' out s k).2=d at *;generalize hx:at'[k]?.getD 0=x at *;obtain ⟨q,hq⟩ : ∃q,(if s < x/\d=false then l ++ [s] else l)=q:=⟨_,rfl⟩;have hq1:q.Pairwise (· < ·)/\(∀y,y∈q<->(y=s/\(d || decide (s < x))=true)\/(y≠out/\∃i,i < k/\at'[i]?.getD 0=y))/\∀y∈q,y < x:=by
   by_cases hc:s < x/\d=false
   ·rw [if_pos hc] at hq;have hls:∀y∈l,y < s:=by
     intro y hy;rcases (h2 y).1 hy with ⟨_,hd⟩|⟨_,i,hi,rfl⟩
     ·rw [hc.2] at hd;cases hd
     ·have a1:¬ s < at'[i]?.getD 0:=fun h=>by
       have:=h3.2 ⟨i,hi,h⟩;rw [hc.2] at this;cases this
      have a2:=hne i (by omega);omega
    subst hq;refine ⟨vC l s h1 hls,fun y=>?_,fun y hy=>?_⟩
    ·rw [List.mem_append,List.mem_singleton,h2 y];simp only [hc.2,hc.1,decide_true,Bool.or_true,and_true];simp;constructor
     ·rintro (h|h)
      ·exact Or.inr h
      ·exact Or.inl h
     ·rintro (h|h)
      ·exact Or.inr h
      ·exact Or.inl h
    ·rw [List.mem_append,List.mem_singleton] at hy;rcases hy with hy|rfl
     ·have:=hls y hy;omega
     ·exact hc.1
   ·rw [if_neg hc] at hq;subst hq;have hdd:(d || decide (s < x))=d:=by
     cases d with
     | true=>rfl
     | false =>have:¬ s < x:=fun h=>hc ⟨h,rfl⟩;simp [this]
    rw [hdd];refine ⟨h1,h2,fun y hy=>?_⟩;rcases (h2 y).1 hy with ⟨rfl,hd⟩|⟨_,i,hi,rfl⟩
    ·obtain ⟨i,hi,hlt⟩:=h3.1 hd;have:=hrise i hi;omega
    ·exact hrise i hi
  rw [hq];obtain ⟨q1,q2,q3⟩:=hq1;have hd':(d || decide (s < x))=true<->∃i,i < k+1/\s < at'[i]?.getD 0:=by
   rw [Bool.or_eq_true,h3,decide_eq_true_eq];constructor
   ·rintro (⟨i,hi,h⟩|h)
    ·exact ⟨i,by omega,h⟩
    ·exact ⟨k,by omega,by rw [hx];exact h⟩
   ·rintro ⟨i,hi,h⟩;by_cases hik:i=k
    ·subst hik;rw [hx] at h;exact Or.inr h
    ·exact Or.inl ⟨i,by omega,h⟩
  refine ⟨?_,fun y=>?_,hd'⟩
  ·by_cases hxo:x=out
   ·rw [if_pos hxo];exact q1
   ·rw [if_neg hxo];exact vC q x q1 q3
  ·by_cases hxo:x=out
   ·rw [if_pos hxo,q2 y];constructor
    ·rintro (h|⟨g1,i,hi,g2⟩)
     ·exact Or.inl h
     ·exact Or.inr ⟨g1,i,by omega,g2⟩
    ·rintro (h|⟨g1,i,hi,g2⟩)
     ·exact Or.inl h
     ·refine Or.inr ⟨g1,i,?_,g2⟩;by_cases hik:i=k
      ·subst hik;rw [hx] at g2;exact absurd (g2.symm.trans hxo) g1
      ·omega
   ·rw [if_neg hxo,List.mem_append,List.mem_singleton,q2 y];constructor
    ·rintro ((h|⟨g1,i,hi,g2⟩)|h)
     ·exact Or.inl h
     ·exact Or.inr ⟨g1,i,by omega,g2⟩
     ·subst h;exact Or.inr ⟨hxo,k,by omega,hx⟩
    ·rintro (h|⟨g1,i,hi,g2⟩)
     ·exact Or.inl (Or.inl h)
     ·by_cases hik:i=k
      ·subst hik;rw [hx] at g2;exact Or.inr g2.symm
      ·exact Or.inl (Or.inr ⟨g1,i,by omega,g2⟩)
theorem Pp (at':List Int) (out s:Int) (m:Nat) (hl:at'.length=m) (hp:at'.Pairwise (· < ·)) (hs:s∉at') :
  (rG at' out s m).Pairwise (· < ·)/\∀y,y∈rG at' out s m<->y=s\/(y≠out/\y∈at'):=by
 obtain ⟨h1,h2,h3⟩:=Mo at' out s m hl hp hs m (Nat.le_refl _);have hmem:∀y,(∃i,i < m/\at'[i]?.getD 0=y)<->y∈at':=by
  intro y;constructor
  ·rintro ⟨i,hi,rfl⟩;rw [List.getElem?_eq_getElem (by omega)];exact List.getElem_mem _
  ·intro hy;obtain ⟨i,hi,rfl⟩:=List.getElem_of_mem hy;exact ⟨i,by omega,by rw [List.getElem?_eq_getElem hi];rfl⟩
 have hne:∀i,i < m->at'[i]?.getD 0≠s:=fun i hi e=>hs (by rw [<-e,List.getElem?_eq_getElem (by omega)];exact List.getElem_mem _);unfold rG;generalize (fF at' out s m).1=l at *;generalize (fF at' out s m).2=d at *;cases d with
 | true =>rw [if_pos rfl];refine ⟨h1,fun y=>?_⟩;rw [h2 y,hmem y];simp
 | false =>
  rw [if_neg (by decide)];refine ⟨vC l s h1 fun y hy=>?_,fun y=>?_⟩
  ·rcases (h2 y).1 hy with ⟨_,hd⟩|⟨_,i,hi,rfl⟩
   ·cases hd
   ·have a1:¬ s < at'[i]?.getD 0:=fun h=>by cases h3.2 ⟨i,hi,h⟩
    have a2:=hne i hi;omega
  ·rw [List.mem_append,List.mem_singleton,h2 y,hmem y];simp;constructor
   ·rintro (h|h)
    ·exact Or.inr h
    ·exact Or.inl h
   ·rintro (h|h)
    ·exact Or.inr h
    ·exact Or.inl h
theorem Bq (at':List Int) (k k' s m N:Nat) (hr:aH at' m N=true) (hk:k < m) (hk':k' < m) (hr2:aH (eB at' k k' s) m N=true) (y:Int) : y∈eB at' k k' s<->y=s\/(y≠at'[k]?.getD 0/\y∈at'):=by
 rw [qU _ m N hr2 y,qU at' m N hr y,yJ at' k k' s m N hr hk hk',Po at' m N hr k hk];constructor
 ·rintro ⟨h0,h⟩;by_cases h1:y.toNat=s
  ·exact Or.inl (by omega)
  ·rw [if_neg h1] at h;by_cases h2:y.toNat=aZ at' k
   ·rw [if_pos h2] at h;cases h
   ·rw [if_neg h2] at h;exact Or.inr ⟨by omega,h0,h⟩
 ·rintro (rfl|⟨h1,h0,h⟩)
  ·exact ⟨by omega,by rw [if_pos (by omega)]⟩
  ·refine ⟨h0,?_⟩;by_cases h2:y.toNat=s
   ·rw [if_pos h2]
   ·rw [if_neg h2,if_neg (by omega)];exact h
theorem Fb (at':List Int) (k k' s m N:Nat) (hr:aH at' m N=true) (hk:k < m) (hk':k' < m) (hr2:aH (eB at' k k' s) m N=true) (hsb:gK at' m s=false) : rG at' (at'[k]?.getD 0) s m=eB at' k k' s:=by
 have hs:(s:Int)∉at':=by intro h;have:=((qU at' m N hr s).1 h).2;rw [Int.toNat_natCast,hsb] at this;cases this
 obtain ⟨h1,h2⟩:=Pp at' (at'[k]?.getD 0) s m (bf at' m N hr).1 (ou at' m N hr) hs;refine yK _ _ h1 (ou _ m N hr2) fun y=>?_;rw [h2 y,Bq at' k k' s m N hr hk hk' hr2 y]
theorem Mq (at' r:List Int) (k k' s m N:Nat) (hr:aH at' m N=true) (hk:k < m) (hk':k' < m) (hr2:aH (eB at' k k' s) m N=true) (hsb:gK at' m s=false) (hp:r.Perm (at'.set k s)) (ho:r.Pairwise (·<=·)) : r=eB at' k k' s:=by
 obtain ⟨hl,_⟩:=bf at' m N hr;have hrise:=ou at' m N hr;have hs:(s:Int)∉at':=by intro h;have:=((qU at' m N hr s).1 h).2;rw [Int.toNat_natCast,hsb] at this;cases this
 have Fa:∀i j,i < m->j < m->i≠j->at'[i]?.getD 0≠at'[j]?.getD 0:=by
  intro i j hi hj hij;rw [List.getElem?_eq_getElem (by omega),List.getElem?_eq_getElem (by omega)];simp only [Option.getD_some];by_cases h:i < j
  ·have:=(List.pairwise_iff_getElem.1 hrise) i j (by omega) (by omega) h;omega
  ·have:=(List.pairwise_iff_getElem.1 hrise) j i (by omega) (by omega) (by omega);omega
 have hmem:∀y,y∈at'.set k s<->y=s\/(y≠at'[k]?.getD 0/\y∈at'):=by
  intro y;constructor
  ·intro hy;obtain ⟨i,hi,rfl⟩:=List.getElem_of_mem hy;rw [List.length_set] at hi;rw [List.getElem_set];by_cases hik:k=i
   ·rw [if_pos hik];exact Or.inl rfl
   ·rw [if_neg hik];refine Or.inr ⟨?_,List.getElem_mem _⟩;have:=Fa i k (by omega) hk (fun e=>hik e.symm);rw [List.getElem?_eq_getElem hi,Option.getD_some] at this;exact this
  ·rintro (rfl|⟨h1,hy⟩)
   ·exact List.mem_of_getElem (i:=k) (h:=by rw [List.length_set];omega) (by rw [List.getElem_set,if_pos rfl])
   ·obtain ⟨i,hi,rfl⟩:=List.getElem_of_mem hy;have hik:k≠i:=by intro e;subst e;apply h1;rw [List.getElem?_eq_getElem hi];rfl
    exact List.mem_of_getElem (i:=i) (h:=by rw [List.length_set];omega) (by rw [List.getElem_set,if_neg hik])
 have hnd:(at'.set k s).Pairwise (·≠·):=by
  rw [List.pairwise_iff_getElem];intro i j hi hj hij;rw [List.length_set] at hi hj;rw [List.getElem_set,List.getElem_set];have hi':at'[i]∈at':=List.getElem_mem _;have hj':at'[j]∈at':=List.getElem_mem _;by_cases hki:k=i
  ·rw [if_pos hki,if_neg (by omega)];intro e;rw [<-e] at hj';exact hs hj'
  ·rw [if_neg hki];by_cases hkj:k=j
   ·rw [if_pos hkj];intro e;rw [e] at hi';exact hs hi'
   ·rw [if_neg hkj];have:=Fa i j (by omega) (by omega) (by omega);rw [List.getElem?_eq_getElem hi,List.getElem?_eq_getElem hj] at this;exact this
 have hnr:r.Pairwise (·≠·):=(hp.pairwise_iff (fun h=>Ne.symm h)).2 hnd;refine yK _ _ ?_ (ou _ m N hr2) fun y=>?_
 ·exact (ho.and hnr).imp fun h=>by omega
 ·rw [hp.mem_iff,hmem y,Bq at' k k' s m N hr hk hk' hr2 y]
def dh (p:Lp) (s:Nat) : Lp:=⟨p.costs,(List.range p.rows.length).map fun i=>((p.rows[i]?.getD ([],0)).1,aC p s i)⟩
theorem Dj (p:Lp) (s:Nat) : (dh p s).rows.length=p.rows.length:=by simp [dh]
theorem Br (p:Lp) (s:Nat) : (dh p s).costs=p.costs:=rfl
theorem Kn (p:Lp) (s i:Nat) (hi:i < p.rows.length) : (dh p s).rows[i]?.getD ([],0)=((p.rows[i]?.getD ([],0)).1,aC p s i):=by unfold dh;dsimp only;rw [List.getElem?_map,List.getElem?_range hi];rfl
theorem Tt (p:Lp) (s j i:Nat) (hi:i < p.rows.length) : aC (dh p s) j i=aC p j i:=by unfold aC;rw [Kn p s i hi,Br]
theorem Ko (p:Lp) (s:Nat) (au:p.may=true) : (dh p s).may=true:=by obtain ⟨h1,h2,h3,h4⟩:=p.aj au;unfold Lp.may;rw [Br,Dj];simp only [Bool.and_eq_true,decide_eq_true_eq];refine ⟨⟨⟨⟨⟨h1.1,h1.2⟩,h2⟩,h3.1⟩,h3.2⟩,?_⟩;rw [List.all_eq_true];intro r hr;unfold dh at hr;dsimp only at hr;obtain ⟨i,hi,rfl⟩:=List.mem_map.1 hr;rw [List.mem_range] at hi;obtain ⟨a1,a2,_⟩:=p.row_of au i hi;have a4:=mO p au s i;unfold iL;simp [a1,a2,aW,a4.1,a4.2]
theorem yL (p:Lp) (s:Nat) (at':List Int) (m:Nat) (hm:m=p.rows.length) : aG (dh p s) at' m=aG p at' m:=by unfold aG;refine List.map_congr_left fun k _=>List.map_congr_left fun i hi=>?_;rw [List.mem_range] at hi;exact Tt p s _ i (by omega)
theorem xD (p:Lp) (s:Nat) (at':List Int) (m:Nat) (hm:m=p.rows.length) : aF (dh p s) at' m=aF p at' m:=by unfold aF;rw [yL p s at' m hm]
theorem Kq (p:Lp) (s:Nat) (at':List Int) (m:Nat) (hm:m=p.rows.length) : aT (dh p s) at' m=aT p at' m:=by unfold aT;rw [xD p s at' m hm]
theorem UQ (p:Lp) (s:Nat) (at':List Int) (m N:Nat) (hm:m=p.rows.length) : xL (dh p s) at' m N=spreadN N at' (cu p at' m s) m:=by unfold xL cu;rw [yL p s at' m hm];congr 2;unfold bF o8;refine List.map_congr_left fun i hi=>?_;rw [List.mem_range] at hi;unfold dw;rw [Kn p s i (by omega)]
theorem bK (p:Lp) (at':List Int) (m n:Nat) (au:p.may=true) (hm:m=p.rows.length) (hn:n=p.costs.length) (hr:aH at' m (n+m)=true) (hd:aF p at' m≠0) :
  (look p at').err=0/\(look p at').x.length=n+m/\(look p at').g.length=n+m/\(1<=(look p at').xd/\(look p at').xd<=497664)/\(∀j:Nat,-497664<=(look p at').x[j]?.getD 0/\(look p at').x[j]?.getD 0<=497664)/\
  ∃gx gg:Int,0 < gx/\0 < gg/\(∀j:Nat,aT p at' m*(xL p at' m (n+m))[j]?.getD 0=gx*(look p at').x[j]?.getD 0)/\aT p at' m*aF p at' m=gx*(look p at').xd/\∀j:Nat,aT p at' m*(aO p at' m (n+m))[j]?.getD 0=gg*(look p at').g[j]?.getD 0:=by
 obtain ⟨c0,c1,_,c3,c4,_,c6,_⟩:=yB p at' m n au hm hn hr hd;refine ⟨c0,c1,c3,c4,c6,?_⟩;have h1:1<=m:=by have:=(p.aj au).2.2.1.1;omega
 have h4:m<=4:=by have:=(p.aj au).2.2.1.2;omega
 have NR:n<=4:=by have:=(p.aj au).1.2;omega
 have hden:=jA p at' m au h1 h4;have xb:=We p at' m (n+m) au hm;have gb:=uz p at' m (n+m) au hm;obtain ⟨gx,Di,_,ae2,ZO,O8,ZQ,_,_⟩:=rF (xL p at' m (n+m)) (aF p at' m) hd (by omega) (fun j=>by have:=xb j;omega) (by unfold xL;rw [gF];omega);obtain ⟨gg,Ia,_,ae4,geq,ae9,gd1,_,_⟩:=rF (aO p at' m (n+m)) (aF p at' m) hd (by omega) gb (by unfold aO;simp;omega);have hl:=Bg p at' au (by rw [<-hm,<-hn];exact hr) (by rw [<-hm];exact hd) m (n+m) hm (by rw [<-hm,<-hn]);rw [hl];dsimp only;generalize (pt (xL p at' m (n+m)) (aF p at' m)).1=X at *;generalize (pt (xL p at' m (n+m)) (aF p at' m)).2.1=XD at *;generalize (pt (aO p at' m (n+m)) (aF p at' m)).1=G at *;generalize (pt (aO p at' m (n+m)) (aF p at' m)).2.1=GD at *;have hs:=dD p at' m hd;generalize aT p at' m=σ at *;have key:∀g D:Int,aF p at' m=g*D->1<=D->0 < σ*g:=by
  intro g D he hD;rw [he,<-Int.mul_assoc] at hs;by_cases h:0 < σ*g
  ·exact h
  ·have:=Int.mul_le_mul_of_nonneg_right (Int.not_lt.1 h) (show 0<=D by omega);omega
 exact ⟨σ*gx,σ*gg,key gx XD O8 ZQ,key gg GD ae9 gd1,fun j=>by rw [ZO j,Int.mul_assoc],by rw [O8,Int.mul_assoc],fun j=>by rw [geq j,Int.mul_assoc]⟩
theorem gu (g x:Int) (hg:0 < g) : 0 < g*x<->0 < x:=by
 constructor
 ·intro h;by_cases hx:0 < x
  ·exact hx
  ·have:=Int.mul_nonpos_of_nonneg_of_nonpos (Int.le_of_lt hg) (Int.not_lt.1 hx);omega
 ·intro h;exact Int.mul_pos hg h
theorem bE (g x:Int) (hg:0 < g) : 0<=g*x<->0<=x:=by
 constructor
 ·intro h;by_cases hx:0<=x
  ·exact hx
  ·have:=Int.mul_neg_of_pos_of_neg hg (Int.not_le.1 hx);omega
 ·intro h;exact Int.mul_nonneg (Int.le_of_lt hg) h
def eT (g:List Int) : Nat->Int
 | 0 => -1
 | k+1=>if 0<=eT g k then eT g k else if 0 < g[k]?.getD 0 then k else -1
theorem l5 (g:List Int) : ∀k,(eT g k=-1/\∀j,j < k->g[j]?.getD 0<=0)\/(∃s:Nat,s < k/\eT g k=s/\0 < g[s]?.getD 0/\∀j,j < s->g[j]?.getD 0<=0):=by
 intro k
 induction k with
 | zero=>exact Or.inl ⟨rfl,fun j hj=>by omega⟩
 | succ k ih =>
  rcases ih with ⟨h1,h2⟩|⟨s,h1,h2,h3,h4⟩
  ·unfold eT;rw [h1,if_neg (by omega)];by_cases hk:0 < g[k]?.getD 0
   ·rw [if_pos hk];exact Or.inr ⟨k,by omega,rfl,hk,h2⟩
   ·rw [if_neg hk];refine Or.inl ⟨rfl,fun j hj=>?_⟩;by_cases hjk:j=k
    ·subst hjk;omega
    ·exact h2 j (by omega)
  ·refine Or.inr ⟨s,by omega,?_,h3,h4⟩;unfold eT;rw [if_pos (by omega),h2]
def l6 (at' x v:List Int) : Nat->Int
 | 0 => -1
 | k+1=>if 0 < v[aZ at' k]?.getD 0/\(l6 at' x v k < 0\/x[aZ at' k]?.getD 0*v[aZ at' (l6 at' x v k).toNat]?.getD 0 < x[aZ at' (l6 at' x v k).toNat]?.getD 0*v[aZ at' k]?.getD 0) then k else l6 at' x v k
theorem Fe (xa va xb vb xc vc:Int) (ha:0 < va) (hb:0 < vb) (hc:0 < vc) (h1:xa*vb < xb*va) (h2:xb*vc<=xc*vb) : xa*vc < xc*va:=by
 have e1:xa*vb*vc < xb*va*vc:=Int.mul_lt_mul_of_pos_right h1 hc;have e2:xb*vc*va<=xc*vb*va:=Int.mul_le_mul_of_nonneg_right h2 (Int.le_of_lt ha);have e3:vb*(xa*vc) < vb*(xc*va):=by
  have a1:vb*(xa*vc)=xa*vb*vc:=by grind
  have a2:xb*va*vc=xb*vc*va:=by grind
  have a3:vb*(xc*va)=xc*vb*va:=by grind
  omega
 exact Int.lt_of_mul_lt_mul_left e3 (Int.le_of_lt hb)
theorem vD (at' x v:List Int) : ∀k,(l6 at' x v k=-1/\∀l,l < k->v[aZ at' l]?.getD 0<=0)\/
  (∃o:Nat,o < k/\l6 at' x v k=o/\0 < v[aZ at' o]?.getD 0/\∀l,l < k->0 < v[aZ at' l]?.getD 0->x[aZ at' o]?.getD 0*v[aZ at' l]?.getD 0<=x[aZ at' l]?.getD 0*v[aZ at' o]?.getD 0/\(x[aZ at' o]?.getD 0*v[aZ at' l]?.getD 0=x[aZ at' l]?.getD 0*v[aZ at' o]?.getD 0->o<=l)):=by
 intro k
 induction k with
 | zero=>exact Or.inl ⟨rfl,fun j hj=>by omega⟩
 | succ k ih =>
  rcases ih with ⟨h1,h2⟩|⟨o,h1,h2,h3,h4⟩
  ·unfold l6;rw [h1];by_cases hk:0 < v[aZ at' k]?.getD 0
   ·rw [if_pos ⟨hk,Or.inl (by omega)⟩];refine Or.inr ⟨k,by omega,rfl,hk,fun l hl hlv=>?_⟩;by_cases hlk:l=k
    ·subst hlk;exact ⟨Int.le_refl _,fun _=>Nat.le_refl _⟩
    ·have:=h2 l (by omega);omega
   ·rw [if_neg (fun h=>hk h.1)];refine Or.inl ⟨rfl,fun l hl=>?_⟩;by_cases hlk:l=k
    ·subst hlk;omega
    ·exact h2 l (by omega)
  ·unfold l6;rw [h2,Int.toNat_natCast];by_cases hc:0 < v[aZ at' k]?.getD 0/\((o:Int) < 0\/x[aZ at' k]?.getD 0*v[aZ at' o]?.getD 0 < x[aZ at' o]?.getD 0*v[aZ at' k]?.getD 0)
   ·rw [if_pos hc];obtain ⟨hk,hc2⟩:=hc;have hlt:=hc2.resolve_left (by omega);refine Or.inr ⟨k,by omega,rfl,hk,fun l hl hlv=>?_⟩;by_cases hlk:l=k
    ·subst hlk;exact ⟨Int.le_refl _,fun _=>Nat.le_refl _⟩
    ·have:=Fe _ _ _ _ _ _ hk h3 hlv hlt (h4 l (by omega) hlv).1;exact ⟨by omega,fun e=>by omega⟩
   ·rw [if_neg hc];refine Or.inr ⟨o,by omega,rfl,h3,fun l hl hlv=>?_⟩;by_cases hlk:l=k
    ·subst hlk;have:¬ x[aZ at' l]?.getD 0*v[aZ at' o]?.getD 0 < x[aZ at' o]?.getD 0*v[aZ at' l]?.getD 0:=fun h=>hc ⟨hlv,Or.inr h⟩;exact ⟨by omega,fun _=>by omega⟩
    ·exact h4 l (by omega) hlv
def cz (p:Lp) (at':List Int) : List Int×Int×Int :=
 if (look p at').err≠0 then ([],0,(look p at').err)
 else if bO (look p at').x=true then ([],0,3)
 else if eT (look p at').g (look p at').g.length < 0 then ([],1,0)
 else if l6 at' (look p at').x (look (dh p (eT (look p at').g (look p at').g.length).toNat) at').x at'.length < 0 then ([],2,0)
 else (rG at' (at'[(l6 at' (look p at').x (look (dh p (eT (look p at').g (look p at').g.length).toNat) at').x at'.length).toNat]?.getD 0) (eT (look p at').g (look p at').g.length) at'.length,0,0)
structure Good (p:Lp) (at':List Int) (m n:Nat) : Prop where
 right:aH at' m (n+m)=true
 den:aF p at' m≠0
 x:∀j:Nat,0<=aT p at' m*(xL p at' m (n+m))[j]?.getD 0
theorem ow (l:List Int) : bO l=false<->∀j:Nat,0<=l[j]?.getD 0:=by
 unfold bO;rw [List.any_eq_false];constructor
 ·intro h j;by_cases hj:j < l.length
  ·have:=h (l[j]?.getD 0) (by rw [List.getElem?_eq_getElem hj];exact List.getElem_mem _);simpa using this
  ·rw [List.getElem?_eq_none (by omega)];simp
 ·intro h x hx;obtain ⟨j,hj,rfl⟩:=List.getElem_of_mem hx;have:=h j;rw [List.getElem?_eq_getElem hj] at this;simpa using this
theorem iY (p:Lp) (at':List Int) (m n:Nat) (au:p.may=true) (hm:m=p.rows.length) (hn:n=p.costs.length) : ((look p at').err=0/\bO (look p at').x=false)<->Good p at' m n:=by
 constructor
 ·rintro ⟨h1,h2⟩;cases hr:aH at' m (n+m) with
  | false =>rw [jX p at' au (by rw [<-hm,<-hn];exact hr)] at h1;simp [iH] at h1
  | true =>
   by_cases hd:aF p at' m=0
   ·rw [nJ p at' au (by rw [<-hm,<-hn];exact hr) (by rw [<-hm];exact hd)] at h1;simp [iH] at h1
   ·obtain ⟨_,_,_,_,_,gx,gg,Di,_,hx,_⟩:=bK p at' m n au hm hn hr hd;refine ⟨hr,hd,fun j=>?_⟩;rw [hx j];exact (bE _ _ Di).2 ((ow _).1 h2 j)
 ·rintro ⟨hr,hd,hx0⟩;obtain ⟨h0,_,_,_,_,gx,gg,Di,_,hx,_⟩:=bK p at' m n au hm hn hr hd;refine ⟨h0,(ow _).2 fun j=>?_⟩;have:=hx0 j;rw [hx j] at this;exact (bE _ _ Di).1 this
theorem vE (p:Lp) (at':List Int) (m n:Nat) (au:p.may=true) (hm:m=p.rows.length) (hn:n=p.costs.length) (h:Good p at' m n) : (look p at').g.length=n+m/\at'.length=m/\1<=m/\m<=4/\n+m<=8:=by obtain ⟨_,_,h2,_⟩:=bK p at' m n au hm hn h.right h.den;have h1:=(p.aj au).2.2.1;have h3:=(p.aj au).1;exact ⟨h2,(bf at' m _ h.right).1,by omega,by omega,by omega⟩
theorem Dk (p:Lp) (at':List Int) (m n:Nat) (au:p.may=true) (hm:m=p.rows.length) (hn:n=p.costs.length) (h:Good p at' m n) (s:Nat) (hs:0 < (look p at').g[s]?.getD 0) : gK at' m s=false:=by
 cases hb:gK at' m s with
 | false=>rfl
 | true =>obtain ⟨i,hi,rfl⟩:=(bD at' m s).1 hb;have:=(yB p at' m n au hm hn h.right h.den).2.2.2.2.2.2.2.2.2.1 i hi;omega
theorem lJ (p:Lp) (at':List Int) (m n s:Nat) (au:p.may=true) (hm:m=p.rows.length) (hn:n=p.costs.length) (h:Good p at' m n) :
  (look (dh p s) at').err=0/\(look (dh p s) at').x.length=n+m/\(∀j:Nat,-497664<=(look (dh p s) at').x[j]?.getD 0/\(look (dh p s) at').x[j]?.getD 0<=497664)/\∃gv:Int,0 < gv/\∀k,k < m->aT p at' m*(cu p at' m s)[k]?.getD 0=gv*(look (dh p s) at').x[aZ at' k]?.getD 0:=by
 obtain ⟨h0,h1,_,_,h4,gx,_,Di,_,hx,_⟩:=bK (dh p s) at' m n (Ko p s au) (by rw [Dj];exact hm) hn h.right (by rw [xD p s at' m hm];exact h.den);refine ⟨h0,h1,h4,gx,Di,fun k hk=>?_⟩;rw [<-hx,Kq p s at' m hm,UQ p s at' m (n+m) hm,lI (n+m) at' _ m h.right m (Nat.le_refl _) k hk]
theorem Ie (at':List Int) (k s m N:Nat) (hr:aH at' m N=true) (hk:k < m) (hs:s < N) (hsb:gK at' m s=false) : ∃k',k' < m/\aH (eB at' k k' s) m N=true:=by
 obtain ⟨k',a1,a2,a3⟩:=yI (gq at' k) s (m - 1) (fun i j hij hj=>nM at' k m N hr i j hij (by omega)) (fun i hi=>by
  unfold gq;exact (fq at' m s).1 hsb _ (by split<;>omega))
 exact ⟨k',by omega,su at' k k' s m N hr hk (by omega) hs a2 (fun i hi hi2=>a3 i hi (by omega))⟩
theorem Ig (at' r:List Int) (k s m N:Nat) (hr:aH at' m N=true) (hk:k < m) (hs:s < N) (hsb:gK at' m s=false) (hp:r.Perm (at'.set k s)) (ho:r.Pairwise (·<=·)) : r=rG at' (at'[k]?.getD 0) s m:=by obtain ⟨k',hk',h2⟩:=Ie at' k s m N hr hk hs hsb;rw [Fb at' k k' s m N hr hk hk' h2 hsb];exact Mq at' r k k' s m N hr hk hk' h2 hsb hp ho
theorem jd (p:Lp) (at':List Int) (m n:Nat) (au:p.may=true) (hm:m=p.rows.length) (hn:n=p.costs.length) :
  (∃e,e≠0/\cz p at'=([],0,e)/\¬ Good p at' m n)\/(Good p at' m n/\((∃k,k≠0/\(k=1\/k=2)/\cz p at'=([],k,0))\/∃nx s k,cz p at'=(nx,0,0)/\nx.length=m/\Good p nx m n/\fe p at' nx m (n+m) s k)):=by
 by_cases hg:Good p at' m n
 ·refine Or.inr ⟨hg,?_⟩;obtain ⟨h1,h2⟩:=(iY p at' m n au hm hn).2 hg;obtain ⟨l1,l2,l3,l4,_⟩:=vE p at' m n au hm hn hg;obtain ⟨_,_,_,_,_,gx,gg,Di,Ia,hx,_,hgn⟩:=bK p at' m n au hm hn hg.right hg.den;unfold cz;rw [if_neg (by omega),if_neg (by rw [h2];decide),l1,l2];rcases l5 (look p at').g (n+m) with ⟨f1,f2⟩|⟨s,f1,f2,f3,f4⟩
  ·rw [f1,if_pos (by omega)];exact Or.inl ⟨1,by omega,Or.inl rfl,rfl⟩
  ·rw [f2,if_neg (by omega),Int.toNat_natCast];have hsb:=Dk p at' m n au hm hn hg s f3;obtain ⟨_,_,_,gv,Xu,hv⟩:=lJ p at' m n s au hm hn hg;rcases vD at' (look p at').x (look (dh p s) at').x m with ⟨o1,o2⟩|⟨o,o1,o2,o3,o4⟩
   ·rw [o1,if_pos (by omega)];exact Or.inl ⟨2,by omega,Or.inr rfl,rfl⟩
   ·rw [o2,if_neg (by omega),Int.toNat_natCast];have hvi:∀l,l < m->(0 < aT p at' m*(cu p at' m s)[l]?.getD 0<->0 < (look (dh p s) at').x[aZ at' l]?.getD 0):=fun l hl=>by rw [hv l hl];exact gu _ _ Xu
    obtain ⟨k',a1,a2,a3,a4,a5⟩:=Tq p at' m n s o au hm hg.right hg.den hg.x f1 (by rw [hgn s];exact (gu _ _ Ia).2 f3) (fun j hj=>by
      rw [hgn j];have:=Int.mul_nonpos_of_nonneg_of_nonpos (Int.le_of_lt Ia) (f4 j hj);omega) o1 ((hvi o o1).2 o3) (fun l hl hlv=>by
      obtain ⟨b1,b2⟩:=o4 l hl ((hvi l hl).1 hlv);rw [hx,hx,hv l hl,hv o o1];generalize (look p at').x[aZ at' o]?.getD 0=xo at *;generalize (look p at').x[aZ at' l]?.getD 0=xl at *;generalize (look (dh p s) at').x[aZ at' o]?.getD 0=vo at *;generalize (look (dh p s) at').x[aZ at' l]?.getD 0=vl at *;have e1:gx*xo*(gv*vl)=gx*gv*(xo*vl):=by grind
      have e2:gx*xl*(gv*vo)=gx*gv*(xl*vo):=by grind
      have hp:=Int.mul_pos Di Xu;rw [e1,e2];exact ⟨Int.mul_le_mul_of_nonneg_left b1 (Int.le_of_lt hp),fun e=>b2 (Int.eq_of_mul_eq_mul_left (by omega) e)⟩)
    rw [Fb at' o k' s m (n+m) hg.right o1 a1 a4.qh hsb];exact Or.inr ⟨_,s,o,rfl,(bf _ m _ a4.qh).1,⟨a4.qh,a4.E5,a5⟩,a4⟩
 ·refine Or.inl ?_;have h:=fun h=>hg ((iY p at' m n au hm hn).1 h);unfold cz;by_cases h0:(look p at').err=0
  ·rw [if_neg (by omega)];cases ha:bO (look p at').x with
   | false=>exact absurd ⟨h0,ha⟩ h
   | true=>rw [if_pos rfl];exact ⟨3,by omega,rfl,hg⟩
  ·rw [if_pos h0];exact ⟨_,h0,rfl,hg⟩
def Path (p:Lp) (at':List Int) (l:List (List Int)) (now:List Int) : Prop :=
 (l ++ [now])[0]?.getD []=at'/\∀q,q < l.length->cz p ((l ++ [now])[q]?.getD [])=((l ++ [now])[q+1]?.getD [],0,0)
def oz (p:Lp) (at':List Int) (l:List (List Int)) (kind:Int) : Prop :=
 ∃K,l.length=K+1/\l[0]?.getD []=at'/\(∀q,q < K->cz p (l[q]?.getD [])=(l[q+1]?.getD [],0,0))/\cz p (l[K]?.getD [])=([],kind,0)/\kind≠0
theorem Path.start (p:Lp) (at':List Int) : Path p at' [] at':=⟨rfl,fun _ hq=>absurd hq (Nat.not_lt_zero _)⟩
theorem Path.push {p:Lp} {at':List Int} {l:List (List Int)} {now nx:List Int} (h:Path p at' l now) (hn:cz p now=(nx,0,0)) : Path p at' (l ++ [now]) nx:=by
 obtain ⟨h1,h2⟩:=h;refine ⟨?_,fun q hq=>?_⟩
 ·rw [List.getElem?_append_left (by simp)];exact h1
 ·rw [List.length_append,List.length_singleton] at hq;rw [List.getElem?_append_left (by simp;omega)];by_cases hql:q < l.length
  ·rw [h2 q hql,List.getElem?_append_left (l₁:=l ++ [now]) (l₂:=[nx]) (by simp;omega)]
  ·have:q=l.length:=by omega
   subst this;rw [List.getElem?_append_right (by omega),Nat.sub_self,List.getElem?_append_right (l₁:=l ++ [now]) (by simp)];simpa using hn
theorem Path.ends {p:Lp} {at':List Int} {l:List (List Int)} {now:List Int} {kind:Int} (h:Path p at' l now) (hn:cz p now=([],kind,0)) (hk:kind≠0) : oz p at' (l ++ [now]) kind:=by refine ⟨l.length,by simp,h.1,h.2,?_,hk⟩;rw [List.getElem?_append_right (by omega),Nat.sub_self];simpa using hn
theorem Ff {p:Lp} {at':List Int} {l1 l2:List (List Int)} {k1 k2:Int} (h1:oz p at' l1 k1) (h2:oz p at' l2 k2) : l1=l2/\k1=k2:=by
 obtain ⟨K1,a1,a2,a3,a4,a5⟩:=h1;obtain ⟨K2,b1,b2,b3,b4,b5⟩:=h2;have hall:∀q,q<=K1->q<=K2->l1[q]?.getD []=l2[q]?.getD []:=by
  intro q
  induction q with
  | zero=>intro _ _;rw [a2,b2]
  | succ q ih =>intro h1 h2;have e:=ih (by omega) (by omega);have e1:=a3 q (by omega);have e2:=b3 q (by omega);rw [e,e2] at e1;simp only [Prod.mk.injEq,and_true] at e1;exact e1.symm
 have hK:K1=K2:=by
  by_cases hlt:K1 < K2
  ·have e:=hall K1 (Nat.le_refl _) (by omega);have e2:=b3 K1 hlt;rw [<-e,a4] at e2;simp only [Prod.mk.injEq] at e2;exact absurd e2.2.1 a5
  ·by_cases hgt:K2 < K1
   ·have e:=hall K2 (by omega) (Nat.le_refl _);have e2:=a3 K2 hgt;rw [e,b4] at e2;simp only [Prod.mk.injEq] at e2;exact absurd e2.2.1 b5
   ·omega
 subst hK;refine ⟨?_,?_⟩
 ·apply List.ext_getElem (by omega);intro i g1 g2;have:=hall i (by omega) (by omega);rw [List.getElem?_eq_getElem g1,List.getElem?_eq_getElem g2] at this;exact this
 ·have e:=hall K1 (Nat.le_refl _) (Nat.le_refl _);rw [e,b4] at a4;simp only [Prod.mk.injEq,and_true,true_and] at a4;exact a4.symm
theorem sw (p:Lp) (m n:Nat) (au:p.may=true) (hm:m=p.rows.length) (hn:n=p.costs.length) (ats:Nat->List Int) (K:Nat) (h:∀q,q < K->cz p (ats q)=(ats (q+1),0,0)) :
  ∃ss ks:Nat->Nat,(∀q,q < K->fe p (ats q) (ats (q+1)) m (n+m) (ss q) (ks q))/\(∀q,q < K->Good p (ats q) m n/\Good p (ats (q+1)) m n):=by
 have key:∀q,q < K->(∃s k,fe p (ats q) (ats (q+1)) m (n+m) s k)/\Good p (ats q) m n/\Good p (ats (q+1)) m n:=by
  intro q hq;have hq':=h q hq;rcases jd p (ats q) m n au hm hn with ⟨e,he,h1,_⟩|⟨hg,⟨k,hk,_,h1⟩|⟨nx,s,k,h1,_,h3,h4⟩⟩
  ·rw [h1] at hq';simp only [Prod.mk.injEq] at hq';omega
  ·rw [h1] at hq';simp only [Prod.mk.injEq] at hq';omega
  ·rw [h1] at hq';simp only [Prod.mk.injEq,and_true] at hq';subst hq';exact ⟨⟨s,k,h4⟩,hg,h3⟩
 refine ⟨fun q=>if hq:q < K then Classical.choose (key q hq).1 else 0,fun q=>if hq:q < K then Classical.choose (Classical.choose_spec (key q hq).1) else 0,fun q hq=>?_,fun q hq=>(key q hq).2⟩;simp only [hq,dite_true];exact Classical.choose_spec (Classical.choose_spec (key q hq).1)
theorem Bt (p:Lp) (m n:Nat) (au:p.may=true) (hm:m=p.rows.length) (hn:n=p.costs.length) (ats:Nat->List Int) (K:Nat) (hK:0 < K) (h:∀q,q < K->cz p (ats q)=(ats (q+1),0,0)) (q:Nat) (hq:q<=K) : Good p (ats q) m n:=by
 obtain ⟨ss,ks,_,h2⟩:=sw p m n au hm hn ats K h;by_cases hqK:q < K
 ·exact (h2 q hqK).1
 ·have:q=K - 1+1:=by omega
  rw [this];exact (h2 (K - 1) (by omega)).2
theorem sD {p:Lp} {at':List Int} {l:List (List Int)} {now:List Int} (m n:Nat) (au:p.may=true) (hm:m=p.rows.length) (hn:n=p.costs.length) (h:Path p at' l now) : l.length < 4096:=by
 by_cases h0:l.length=0
 ·omega
 ·obtain ⟨ss,ks,h1,h2⟩:=sw p m n au hm hn (fun q=>(l ++ [now])[q]?.getD []) l.length h.2;have hg:=Bt p m n au hm hn (fun q=>(l ++ [now])[q]?.getD []) l.length (by omega) h.2;have a1:=(p.aj au).1.2;have a2:=(p.aj au).2.2.1.2;exact Mm p m n au hm (by omega) (fun q=>(l ++ [now])[q]?.getD []) ss ks l.length (fun q j hq=>(hg q hq).x j) (fun q hq=>(hg q hq).den) (fun q hq=>(hg q hq).right) h1
theorem Pq {p:Lp} {at':List Int} {l:List (List Int)} {now:List Int} (m n:Nat) (au:p.may=true) (hm:m=p.rows.length) (hn:n=p.costs.length) (h:Path p at' l now) (hl:l≠[]) : Good p now m n:=by have h0:0 < l.length:=List.length_pos_iff.2 hl;have:=Bt p m n au hm hn (fun q=>(l ++ [now])[q]?.getD []) l.length h0 h.2 l.length (Nat.le_refl _);simpa using this
def sumL (f:Nat->Int) : List Nat->Int
 | []=>0
 | j :: t=>f j+sumL f t
theorem fG (f g:Nat->Int) : ∀l:List Nat,(∀j∈l,f j=g j)->sumL f l=sumL g l
 | [],_=>rfl
 | j :: t,h=>by
  show f j+sumL f t=g j+sumL g t;rw [h j (by simp),fG f g t fun i hi=>h i (List.mem_cons_of_mem _ hi)]
theorem qV:∀l:List Nat,sumL (fun _=>0) l=0
 | []=>rfl
 | _ :: t=>by show 0+sumL (fun _=>0) t=0;rw [qV t];rfl
theorem Fg (f g:Nat->Int) : ∀l:List Nat,sumL (fun j=>f j+g j) l=sumL f l+sumL g l
 | []=>rfl
 | j :: t=>by
  show f j+g j+sumL (fun j=>f j+g j) t=f j+sumL f t+(g j+sumL g t);rw [Fg f g t];omega
theorem l7 (c:Int) (f:Nat->Int) : ∀l:List Nat,sumL (fun j=>c*f j) l=c*sumL f l
 | []=>by simp [sumL]
 | j :: t=>by
  show c*f j+sumL (fun j=>c*f j) t=c*(f j+sumL f t);rw [l7 c f t,Int.mul_add]
theorem sF (f:Nat->Int) (c:Nat) : ∀l:List Nat,c∈l->sumL f l=f c+sumL f (l.erase c)
 | [],h=>by simp at h
 | j :: t,h=>by
  by_cases hj:j=c
  ·subst hj;simp [sumL]
  ·rw [List.erase_cons_tail (by simpa using hj)];show f j+sumL f t=f c+(f j+sumL f (t.erase c));have ht:c∈t:=by
    rcases List.mem_cons.1 h with h|h
    ·exact absurd h.symm hj
    ·exact h
   rw [sF f c t ht];omega
theorem sG (f:Nat->Int) (n:Nat) : sumL f (List.range n)=sumN f n:=by
 induction n with
 | zero=>rfl
 | succ n ih =>
  have hap:∀(a b:List Nat),sumL f (a ++ b)=sumL f a+sumL f b:=by
   intro a b
   induction a with
   | nil=>simp [sumL]
   | cons x t ih=>show f x+sumL f (t ++ b)=f x+sumL f t+sumL f b;rw [ih];omega
  rw [List.range_succ,hap,ih];show sumN f n+(f n+0)=sumN f n+f n;omega
theorem ker (rows:List (Nat->Int)) : ∀(kE:List Nat),kE.Nodup->rows.length < kE.length->∃u:Nat->Int,(∃j∈kE,u j≠0)/\∀r∈rows,sumL (fun j=>r j*u j) kE=0:=by
 suffices H:∀(n:Nat) (rows:List (Nat->Int)),rows.length=n->∀(kE:List Nat),kE.Nodup->rows.length < kE.length->∃u:Nat->Int,(∃j∈kE,u j≠0)/\∀r∈rows,sumL (fun j=>r j*u j) kE=0 from H rows.length rows rfl
 intro n
 induction n with
 | zero =>
  intro rows hl kE _ h
  match rows,kE,hl,h with
  | [],j :: t,_,_=>exact ⟨fun _=>1,⟨j,by simp,by show (1:Int)≠0;decide⟩,fun r hr=>by simp at hr⟩
 | succ n ih =>
  intro rows hl kE hn h
  match rows,hl with
  | r :: rs,hl =>
   have hrs:rs.length=n:=by simpa using hl
   have hlt:n+1 < kE.length:=by simp at h;omega
   by_cases hz:∀j∈kE,r j=0
   ·obtain ⟨u,hu,hr⟩:=ih rs hrs kE hn (by omega);refine ⟨u,hu,fun r' hr'=>?_⟩;rcases List.mem_cons.1 hr' with rfl|hr'
    ·rw [fG _ (fun _=>0) kE fun j hj=>by rw [hz j hj];omega,qV]
    ·exact hr r' hr'
   ·have hc:∃c∈kE,r c≠0:=by apply Classical.byContradiction;intro hno;exact hz fun j hj=>Classical.byContradiction fun hne=>hno ⟨j,hj,hne⟩
    obtain ⟨c,hcm,hc0⟩:=hc;obtain ⟨u,⟨j0,hj0,hu0⟩,hr⟩:=ih (rs.map fun r' j=>r c*r' j - r' c*r j) (by rw [List.length_map];exact hrs) (kE.erase c) (hn.erase c) (by rw [List.length_map,List.length_erase_of_mem hcm];omega);have hne:∀j∈kE.erase c,j≠c:=fun j hj=>by rw [hn.mem_erase_iff] at hj;exact hj.1
    obtain ⟨S,hS⟩ : ∃S,S=sumL (fun j=>r j*u j) (kE.erase c):=⟨_,rfl⟩;have key:∀q:Nat->Int,sumL (fun j=>q j*(if j=c then -S else r c*u j)) kE=q c * -S+r c*sumL (fun j=>q j*u j) (kE.erase c):=by intro q;rw [sF _ c kE hcm,<-l7];show q c*(if c=c then -S else r c*u c)+_=_;rw [if_pos rfl];congr 1;refine fG _ _ _ fun j hj=>?_;show q j*(if j=c then -S else r c*u j)=r c*(q j*u j);rw [if_neg (hne j hj)];grind
    refine ⟨fun j=>if j=c then -S else r c*u j,⟨j0,List.mem_of_mem_erase hj0,?_⟩,fun r' hr'=>?_⟩
    ·show (if j0=c then -S else r c*u j0)≠0;rw [if_neg (hne j0 hj0)];exact Int.mul_ne_zero hc0 hu0
    ·rw [key r'];rcases List.mem_cons.1 hr' with rfl|hr'
     ·rw [<-hS,Int.mul_neg];omega
     ·have h1:=hr _ (List.mem_map_of_mem hr');have h2:sumL (fun j=>(r c*r' j - r' c*r j)*u j) (kE.erase c)=r c*sumL (fun j=>r' j*u j) (kE.erase c)+(-(r' c))*sumL (fun j=>r j*u j) (kE.erase c):=by rw [<-l7,<-l7,<-Fg];exact fG _ _ _ fun j _=>by grind
      rw [h2,<-hS] at h1;rw [Int.mul_neg,<-Int.neg_mul];omega
def Ps (n:Nat) (ls:List (List Int)) : Prop:=∀v:Nat->Int,(∀i,i < n->sumN (fun l=>v l*at2 ls l i) n=0)->∀l,l < n->v l=0
def dJ (n q:Nat) : List Int:=(List.range n).map fun i=>if i=q then 1 else 0
theorem yM (n q i:Nat) (hi:i < n) : (dJ n q)[i]?.getD 0=if i=q then 1 else 0:=by unfold dJ;rw [aA,if_pos hi]
theorem Tu (ls:List (List Int)) (k:Nat) (a:List Int) (l i:Nat) (hk:k < ls.length) : at2 (ls.set k a) l i=if l=k then a[i]?.getD 0 else at2 ls l i:=by
 unfold at2;rw [List.getElem?_set];by_cases h:k=l
 ·subst h;rw [if_pos rfl,if_pos hk,if_pos rfl];rfl
 ·rw [if_neg h,if_neg (fun e=>h e.symm)]
theorem Pt (n:Nat) (ls:List (List Int)) (h:Sq n ls) (h1:1<=n) (h4:n<=4) (hi:Ps n ls) (hv:vol ls aI=0) (k:Nat) (hk:k < n) : ∃q,q < n/\Sq n (ls.set k (dJ n q))/\Ps n (ls.set k (dJ n q))/\vol (ls.set k (dJ n q)) aI=0:=by
 have hl:ls.length=n:=h.1;obtain ⟨u,⟨q,hq,hu⟩,hr⟩:=ker (((List.range n).filter (·≠k)).map fun l i=>at2 ls l i) (List.range n) List.nodup_range (by
  rw [List.length_map,List.length_range];have h1:List.Sublist ((List.range n).filter (·≠k)) (List.range n):=List.filter_sublist;have h2:=h1.length_le;rw [List.length_range] at h2;rcases Nat.lt_or_ge ((List.range n).filter (·≠k)).length n with h3|h3
  ·exact h3
  ·have h5:=h1.eq_of_length (by rw [List.length_range];omega);have h6:k∈(List.range n).filter (·≠k):=by rw [h5];exact List.mem_range.2 hk
   simp at h6)
 rw [List.mem_range] at hq;have Kr:∀l,l < n->l≠k->sumN (fun i=>at2 ls l i*u i) n=0:=by intro l hln hlk;have:=hr (fun i=>at2 ls l i) (List.mem_map.2 ⟨l,by simp [List.mem_range,hln,hlk],rfl⟩);rw [sG] at this;exact this
 refine ⟨q,hq,⟨by rw [List.length_set];exact hl,fun r hr=>?_⟩,fun v hv2 l hln=>?_,?_⟩
 ·rcases List.mem_or_eq_of_mem_set hr with h2|rfl
  ·exact h.2 r h2
  ·unfold dJ;simp
 ·have hat:∀l i,i < n->at2 (ls.set k (dJ n q)) l i=if l=k then (if i=q then 1 else 0) else at2 ls l i:=by intro l i hi;rw [Tu ls k _ l i (by omega),yM n q i hi]
  have e1:sumN (fun i=>u i*sumN (fun l=>v l*at2 (ls.set k (dJ n q)) l i) n) n=0:=by
   have:sumN (fun i=>u i*sumN (fun l=>v l*at2 (ls.set k (dJ n q)) l i) n) n=sumN (fun _=>0) n:=ah _ _ _ fun i hi=>by rw [hv2 i hi];omega
   rw [this,bM]
  have e2:sumN (fun i=>u i*sumN (fun l=>v l*at2 (ls.set k (dJ n q)) l i) n) n=sumN (fun l=>v l*sumN (fun i=>at2 (ls.set k (dJ n q)) l i*u i) n) n:=by
   have a1:sumN (fun i=>u i*sumN (fun l=>v l*at2 (ls.set k (dJ n q)) l i) n) n=sumN (fun i=>sumN (fun l=>v l*(at2 (ls.set k (dJ n q)) l i*u i)) n) n:=by refine ah _ _ _ fun i _=>?_;rw [<-az];exact ah _ _ _ fun l _=>by grind
   rw [a1,jh];exact ah _ _ _ fun l _=>by rw [az]
  have e3:sumN (fun l=>v l*sumN (fun i=>at2 (ls.set k (dJ n q)) l i*u i) n) n=v k*u q:=by
   rw [dY _ k n hk fun l hln hlk=>by
    have:sumN (fun i=>at2 (ls.set k (dJ n q)) l i*u i) n=0:=by rw [<-Kr l hln hlk];exact ah _ _ _ fun i hi=>by rw [hat l i hi,if_neg hlk]
    show v l*_=0;rw [this];omega]
   show v k*sumN (fun i=>at2 (ls.set k (dJ n q)) k i*u i) n=v k*u q;have:sumN (fun i=>at2 (ls.set k (dJ n q)) k i*u i) n=u q:=by rw [dY _ q n hq fun i hi hiq=>by show at2 _ k i*u i=0;rw [hat k i hi,if_pos rfl,if_neg hiq];omega];show at2 _ k q*u q=u q;rw [hat k q hq,if_pos rfl,if_pos rfl];omega
   rw [this]
  have hvk:v k=0:=by
   rw [e2,e3] at e1;rcases Int.mul_eq_zero.1 e1 with h|h
   ·exact h
   ·exact absurd h hu
  refine hi v (fun i hin=>?_) l hln;rw [<-hv2 i hin];refine ah _ _ _ fun l' _=>?_;rw [hat l' i hin];by_cases hlk:l'=k
  ·subst hlk;rw [if_pos rfl,hvk];omega
  ·rw [if_neg hlk]
 ·have hs:∀l,l < n->(aL ls (dJ n q) n)[l]?.getD 0=0:=by refine hi (fun l=>(aL ls (dJ n q) n)[l]?.getD 0) (fun i hin=>?_);have hc:=qc n ls (dJ n q) h (by unfold dJ;simp) h1 h4 i hin;unfold xe at hc;rw [aX,hv,Int.zero_mul] at hc;rw [<-hc];refine ah _ _ _ fun l hln=>?_;rw [aA,if_pos hln];grind
  have:=hs k hk;unfold aL at this;rw [aA,if_pos hk] at this;exact this
theorem Ye:∀a:Fin 1,vol [dJ 1 a] aI≠0:=by decide +kernel
theorem Yf:∀a b:Fin 2,a≠b->vol [dJ 2 a,dJ 2 b] aI≠0:=by decide +kernel
theorem Yg:∀a b c:Fin 3,a≠b->a≠c->b≠c->vol [dJ 3 a,dJ 3 b,dJ 3 c] aI≠0:=by decide +kernel
theorem Yh:∀a b c d:Fin 4,a≠b->a≠c->a≠d->b≠c->b≠d->c≠d->vol [dJ 4 a,dJ 4 b,dJ 4 c,dJ 4 d] aI≠0:=by decide +kernel
theorem Mr (n:Nat) (h1:1<=n) (h4:n<=4) (q:Nat->Nat) (hq:∀l,l < n->q l < n) (hinj:∀l l',l < n->l' < n->l≠l'->q l≠q l') : vol ((List.range n).map fun l=>dJ n (q l)) aI≠0:=by
 match n,h1,h4 with
 | 1,_,_=>exact Ye ⟨q 0,hq 0 (by omega)⟩
 | 2,_,_=>exact Yf ⟨q 0,hq 0 (by omega)⟩ ⟨q 1,hq 1 (by omega)⟩ (fun e=>hinj 0 1 (by omega) (by omega) (by omega) (by injection e))
 | 3,_,_=>exact Yg ⟨q 0,hq 0 (by omega)⟩ ⟨q 1,hq 1 (by omega)⟩ ⟨q 2,hq 2 (by omega)⟩ (fun e=>hinj 0 1 (by omega) (by omega) (by omega) (by injection e)) (fun e=>hinj 0 2 (by omega) (by omega) (by omega) (by injection e)) (fun e=>hinj 1 2 (by omega) (by omega) (by omega) (by injection e))
 | 4,_,_=>exact Yh ⟨q 0,hq 0 (by omega)⟩ ⟨q 1,hq 1 (by omega)⟩ ⟨q 2,hq 2 (by omega)⟩ ⟨q 3,hq 3 (by omega)⟩ (fun e=>hinj 0 1 (by omega) (by omega) (by omega) (by injection e)) (fun e=>hinj 0 2 (by omega) (by omega) (by omega) (by injection e)) (fun e=>hinj 0 3 (by omega) (by omega) (by omega) (by injection e)) (fun e=>hinj 1 2 (by omega) (by omega) (by omega) (by injection e)) (fun e=>hinj 1 3 (by omega) (by omega) (by omega) (by injection e)) (fun e=>hinj 2 3 (by omega) (by omega) (by omega) (by injection e))
theorem Ms (n:Nat) (ls:List (List Int)) (h:Sq n ls) (h1:1<=n) (h4:n<=4) (hi:Ps n ls) (hv:vol ls aI=0) : ∀k,k<=n->∃(ls':List (List Int)) (q:Nat->Nat),Sq n ls'/\Ps n ls'/\vol ls' aI=0/\∀l,l < k->ls'[l]? = some (dJ n (q l))/\q l < n:=by
 intro k
 induction k with
 | zero=>intro _;exact ⟨ls,fun _=>0,h,hi,hv,fun l hl=>by omega⟩
 | succ k ih =>
  intro hk;obtain ⟨ls',q,g1,g2,g3,g4⟩:=ih (by omega);obtain ⟨c,hc,f1,f2,f3⟩:=Pt n ls' g1 h1 h4 g2 g3 k (by omega);refine ⟨ls'.set k (dJ n c),fun l=>if l=k then c else q l,f1,f2,f3,fun l hl=>?_⟩;by_cases hlk:l=k
  ·subst hlk;rw [List.getElem?_set_self (by have:=g1.1;omega)];simp [hc]
  ·rw [List.getElem?_set_ne (fun e=>hlk e.symm)];simp only [hlk,if_false];exact g4 l (by omega)
theorem Tv (n:Nat) (ls:List (List Int)) (h:Sq n ls) (h1:1<=n) (h4:n<=4) (hi:Ps n ls) : vol ls aI≠0:=by
 intro hv;obtain ⟨ls',q,g1,g2,g3,g4⟩:=Ms n ls h h1 h4 hi hv n (Nat.le_refl _);have he:ls'=(List.range n).map fun l=>dJ n (q l):=by
  apply List.ext_getElem?;intro l;by_cases hl:l < n
  ·rw [(g4 l hl).1,List.getElem?_map,List.getElem?_range hl];rfl
  ·rw [List.getElem?_eq_none (by have:=g1.1;omega),List.getElem?_eq_none (by simp;omega)]
 have hat:∀l i,l < n->i < n->at2 ls' l i=if i=q l then 1 else 0:=by intro l i hl hin;unfold at2;rw [(g4 l hl).1,Option.getD_some,yM n (q l) i hin]
 refine Mr n h1 h4 q (fun l hl=>(g4 l hl).2) (fun l l' hl hl' hne e=>?_) (by rw [<-he];exact g3);have h0:=g2 (fun x=>(if x=l then 1 else 0)+(-1)*(if x=l' then 1 else 0)) (fun i hin=>by
  have e1:sumN (fun x=>((if x=l then 1 else 0)+(-1)*(if x=l' then 1 else 0))*at2 ls' x i) n=sumN (fun x=>(if x=l then 1 else 0)*at2 ls' x i+(-1)*((if x=l' then 1 else 0)*at2 ls' x i)) n:=ah _ _ _ fun x _=>by grind
  rw [e1,dA,az,uw (fun x=>at2 ls' x i) l n hl,uw (fun x=>at2 ls' x i) l' n hl',hat l i hl hin,hat l' i hl' hin,e];omega) l hl
 simp [hne] at h0
theorem Mt (f:Nat->Int) {a b:List Nat} (h:a.Perm b) : sumL f a=sumL f b:=by
 induction h with
 | nil=>rfl
 | cons x _ ih=>show f x+_=f x+_;rw [ih]
 | swap x y t=>show f y+(f x+sumL f t)=f x+(f y+sumL f t);omega
 | trans _ _ h1 h2=>rw [h1,h2]
theorem wK (f:Nat->Int) (P:Nat->Bool) : ∀l:List Nat,(∀j∈l,P j=false->f j=0)->sumL f (l.filter P)=sumL f l
 | [],_=>rfl
 | j :: t,h=>by
  have ih:=wK f P t fun i hi=>h i (List.mem_cons_of_mem _ hi);cases hp:P j with
  | true=>rw [List.filter_cons_of_pos hp];show f j+_=f j+_;rw [ih]
  | false=>rw [List.filter_cons_of_neg (by simp [hp]),ih];show _=f j+_;rw [h j (by simp) hp];omega
theorem Fh (f:Nat->Int) (N:Nat) (S:List Nat) (hn:S.Nodup) (hN:∀j∈S,j < N) (hz:∀j,j < N->j∉S->f j=0) : sumN f N=sumL f S:=by rw [<-sG,<-wK f (fun j=>decide (j∈S)) (List.range N) fun j hj hp=>hz j (List.mem_range.1 hj) (by simpa using hp)];refine Mt f ((List.perm_ext_iff_of_nodup (List.Pairwise.filter _ List.nodup_range) hn).2 fun j=>?_);simp only [List.mem_filter,List.mem_range,decide_eq_true_eq];exact ⟨fun h=>h.2,fun h=>⟨hN j h,h⟩⟩
def Ih (p:Lp) (m:Nat) (S:List Nat) : Prop:=∀v:Nat->Int,(∀i,i < m->sumL (fun j=>aC p j i*v j) S=0)->∀j∈S,v j=0
theorem vF (f:Nat->Nat->Int) (m:Nat) : ∀S:List Nat,sumN (fun i=>sumL (fun j=>f j i) S) m=sumL (fun j=>sumN (fun i=>f j i) m) S
 | []=>by show sumN (fun _=>0) m=0;exact bM m
 | j :: t=>by
  show sumN (fun i=>f j i+sumL (fun j=>f j i) t) m=sumN (fun i=>f j i) m+sumL (fun j=>sumN (fun i=>f j i) m) t;rw [dA,vF f m t]
theorem fQ (p:Lp) (n q i:Nat) (hn:n=p.costs.length) : aC p (n+q) i=if i=q then 1 else 0:=by
 unfold aC;rw [if_neg (by omega)];by_cases h:i=q
 ·rw [if_pos (by omega),if_pos h]
 ·rw [if_neg (by omega),if_neg h]
theorem Pv (p:Lp) (m n:Nat) (hn:n=p.costs.length) (S:List Nat) (hS:Ih p m S) (hlt:S.length < m) : ∃q,q < m/\n+q∉S/\Ih p m ((n+q) :: S):=by
 obtain ⟨u,⟨q,hq,hu⟩,hr⟩:=ker (S.map fun j i=>aC p j i) (List.range m) List.nodup_range (by rw [List.length_map,List.length_range];exact hlt);rw [List.mem_range] at hq;have Kr:∀j∈S,sumN (fun i=>aC p j i*u i) m=0:=by intro j hj;have:=hr (fun i=>aC p j i) (List.mem_map.2 ⟨j,hj,rfl⟩);rw [sG] at this;exact this
 have hc:sumN (fun i=>aC p (n+q) i*u i) m=u q:=by rw [dY _ q m hq fun i hi hiq=>by show aC p (n+q) i*u i=0;rw [fQ p n q i hn,if_neg hiq];omega];show aC p (n+q) q*u q=u q;rw [fQ p n q q hn,if_pos rfl];omega
 refine ⟨q,hq,fun hm=>hu (by rw [<-hc];exact Kr _ hm),fun v hv j hj=>?_⟩;have hv':∀i,i < m->aC p (n+q) i*v (n+q)+sumL (fun j=>aC p j i*v j) S=0:=hv;have e1:sumN (fun i=>u i*(aC p (n+q) i*v (n+q)+sumL (fun j=>aC p j i*v j) S)) m=0:=by
  have:sumN (fun i=>u i*(aC p (n+q) i*v (n+q)+sumL (fun j=>aC p j i*v j) S)) m=sumN (fun _=>0) m:=ah _ _ _ fun i hi=>by rw [hv' i hi];omega
  rw [this,bM]
 have e2:sumN (fun i=>u i*(aC p (n+q) i*v (n+q)+sumL (fun j=>aC p j i*v j) S)) m=v (n+q)*u q:=by
  have a1:sumN (fun i=>u i*(aC p (n+q) i*v (n+q)+sumL (fun j=>aC p j i*v j) S)) m=sumN (fun i=>v (n+q)*(aC p (n+q) i*u i)+sumL (fun j=>v j*(aC p j i*u i)) S) m:=by
   refine ah _ _ _ fun i _=>?_;rw [Int.mul_add,<-l7];have:sumL (fun j=>u i*(aC p j i*v j)) S=sumL (fun j=>v j*(aC p j i*u i)) S:=fG _ _ _ fun j _=>by grind
   rw [this];grind
  rw [a1,dA,az,hc,vF (fun j i=>v j*(aC p j i*u i)) m S];have:sumL (fun j=>sumN (fun i=>v j*(aC p j i*u i)) m) S=sumL (fun _=>0) S:=fG _ _ _ fun j hj=>by rw [az,Kr j hj];omega
  rw [this,qV];omega
 have h0:v (n+q)=0:=by
  rw [e2] at e1;rcases Int.mul_eq_zero.1 e1 with h|h
  ·exact h
  ·exact absurd h hu
 rcases List.mem_cons.1 hj with rfl|hj
 ·exact h0
 ·refine hS v (fun i hi=>?_) j hj;have:=hv' i hi;rw [h0] at this;omega
theorem Fj (p:Lp) (m n:Nat) (hn:n=p.costs.length) : ∀(d:Nat) (S:List Nat),Ih p m S->S.Nodup->(∀j∈S,j < n+m)->S.length+d=m->∃T:List Nat,Ih p m T/\T.Nodup/\(∀j∈T,j < n+m)/\T.length=m/\∀j∈S,j∈T:=by
 intro d
 induction d with
 | zero=>intro S h1 h2 h3 h4;exact ⟨S,h1,h2,h3,by omega,fun j hj=>hj⟩
 | succ d ih =>
  intro S h1 h2 h3 h4;obtain ⟨q,hq,hqS,hqi⟩:=Pv p m n hn S h1 (by omega);obtain ⟨T,t1,t2,t3,t4,t5⟩:=ih ((n+q) :: S) hqi (List.nodup_cons.2 ⟨hqS,h2⟩) (fun j hj=>by
   rcases List.mem_cons.1 hj with rfl|hj
   ·omega
   ·exact h3 j hj) (by simp;omega)
  exact ⟨T,t1,t2,t3,t4,fun j hj=>t5 j (List.mem_cons_of_mem _ hj)⟩
def uA (N:Nat) (S:List Nat) : List Int:=((List.range N).filter fun j=>decide (j∈S)).map fun (j:Nat)=>(j:Int)
theorem xE (m N:Nat) (S:List Nat) (hn:S.Nodup) (hN:∀j∈S,j < N) (hl:S.length=m) : aH (uA N S) m N=true/\∀j,gK (uA N S) m j=decide (j∈S):=by
 have hperm:((List.range N).filter fun j=>decide (j∈S)).Perm S:=(List.perm_ext_iff_of_nodup (List.Pairwise.filter _ List.nodup_range) hn).2 fun j=>by
  simp only [List.mem_filter,List.mem_range,decide_eq_true_eq];exact ⟨fun h=>h.2,fun h=>⟨hN j h,h⟩⟩
 have hrise:((List.range N).filter fun j=>decide (j∈S)).Pairwise (· < ·):=List.Pairwise.filter _ List.pairwise_lt_range;have hmem:∀j∈((List.range N).filter fun j=>decide (j∈S)),j < N:=fun j hj=>by simp only [List.mem_filter,List.mem_range] at hj;exact hj.1
 have hlen:=hperm.length_eq;have hin:∀j,j∈((List.range N).filter fun j=>decide (j∈S))<->j∈S:=fun j=>hperm.mem_iff;unfold uA;generalize (List.range N).filter (fun j=>decide (j∈S))=R at *;have hval:∀k,k < m->(R.map fun (j:Nat)=>(j:Int))[k]?.getD 0=(R[k]?.getD 0:Nat):=by intro k hk;rw [List.getElem?_map,List.getElem?_eq_getElem (by omega)];rfl
 have hr:aH (R.map fun (j:Nat)=>(j:Int)) m N=true:=by
  refine E9 _ m N (by rw [List.length_map];omega) fun k hk=>?_;rw [hval k hk];have hkN:R[k]?.getD 0 < N:=by rw [List.getElem?_eq_getElem (by omega)];exact hmem _ (List.getElem_mem _)
  refine ⟨?_,by omega⟩;cases k with
  | zero=>show (0:Int)<=_;omega
  | succ k =>show (R.map fun (j:Nat)=>(j:Int))[k]?.getD 0+1<=_;rw [hval k (by omega)];have:=(List.pairwise_iff_getElem.1 hrise) k (k+1) (by omega) (by omega) (by omega);rw [List.getElem?_eq_getElem (by omega),List.getElem?_eq_getElem (by omega)];simp only [Option.getD_some];omega
 refine ⟨hr,fun j=>?_⟩;have Yi:∀k,k < m->aZ (R.map fun (j:Nat)=>(j:Int)) k=R[k]?.getD 0:=by intro k hk;unfold aZ;rw [hval k hk];simp
 by_cases hj:j∈S
 ·rw [decide_eq_true hj];obtain ⟨k,hk,he⟩:=List.getElem_of_mem ((hin j).2 hj);refine (bD _ _ _).2 ⟨k,by omega,?_⟩;rw [Yi k (by omega),List.getElem?_eq_getElem hk];exact he
 ·rw [decide_eq_false hj];refine (fq _ _ _).2 fun k hk e=>hj ?_;rw [Yi k hk,List.getElem?_eq_getElem (by omega)] at e;rw [<-e];exact (hin _).1 (List.getElem_mem _)
theorem Dl (p:Lp) (m n:Nat) (h1:1<=m) (h4:m<=4) (S:List Nat) (hS:Ih p m S) (hn:S.Nodup) (hN:∀j∈S,j < n+m) (hl:S.length=m) : aF p (uA (n+m) S) m≠0:=by
 obtain ⟨hr,hin⟩:=xE m (n+m) S hn hN hl;generalize uA (n+m) S=at' at *;refine Tv m (aG p at' m) (cZ p at' m) h1 h4 fun v hv l hlm=>?_;have hsp:=lI (n+m) at' ((List.range m).map v) m hr m (Nat.le_refl _) l hlm;rw [aA,if_pos hlm] at hsp;rw [<-hsp];have hout:∀j,j∉S->(spreadN (n+m) at' ((List.range m).map v) m)[j]?.getD 0=0:=by intro j hj;refine jZ _ _ _ _ _ ((fq at' m j).1 ?_);rw [hin j];exact decide_eq_false hj
 refine hS (fun j=>(spreadN (n+m) at' ((List.range m).map v) m)[j]?.getD 0) (fun i hi=>?_) _ ?_
 ·rw [<-Fh (fun j=>aC p j i*(spreadN (n+m) at' ((List.range m).map v) m)[j]?.getD 0) (n+m) S hn hN fun j _ hj=>by show aC p j i*_=0;rw [hout j hj];omega];rw [j3 (fun j=>aC p j i) (n+m) at' _ m hr m (Nat.le_refl _)];refine Eq.trans ?_ (hv i hi);refine ah _ _ _ fun k hk=>?_;rw [aA,if_pos hk,nL p at' m k i hk hi];grind
 ·have:=(bD at' m (aZ at' l)).2 ⟨l,hlm,rfl⟩;rw [hin] at this;simpa using this
theorem Pw (xa va xb vb xc vc:Int) (ha:0 < va) (hb:0 < vb) (hc:0 < vc) (h1:xa*vb<=xb*va) (h2:xb*vc<=xc*vb) : xa*vc<=xc*va:=by
 have e1:xa*vb*vc<=xb*va*vc:=Int.mul_le_mul_of_nonneg_right h1 (Int.le_of_lt hc);have e2:xb*vc*va<=xc*vb*va:=Int.mul_le_mul_of_nonneg_right h2 (Int.le_of_lt ha);have e3:vb*(xa*vc)<=vb*(xc*va):=by
  have a1:vb*(xa*vc)=xa*vb*vc:=by grind
  have a2:xb*va*vc=xb*vc*va:=by grind
  have a3:vb*(xc*va)=xc*vb*va:=by grind
  omega
 exact Int.le_of_mul_le_mul_left e3 hb
theorem nearest (z v:Nat->Int) : ∀l:List Nat,l≠[]->(∀j∈l,0 < v j)->∃j0∈l,∀j∈l,z j0*v j<=z j*v j0
 | [],h,_=>absurd rfl h
 | j :: t,_,hv=>by
  by_cases ht:t=[]
  ·subst ht;refine ⟨j,by simp,fun i hi=>?_⟩;have:i=j:=by simpa using hi
   subst this;exact Int.le_refl _
  ·obtain ⟨k,hk,hmin⟩:=nearest z v t ht fun i hi=>hv i (List.mem_cons_of_mem _ hi);have UR:=hv j (by simp);have hvk:=hv k (List.mem_cons_of_mem _ hk);by_cases hc:z j*v k<=z k*v j
   ·refine ⟨j,by simp,fun i hi=>?_⟩;rcases List.mem_cons.1 hi with rfl|hi
    ·exact Int.le_refl _
    ·exact Pw _ _ _ _ _ _ UR hvk (hv i (List.mem_cons_of_mem _ hi)) hc (hmin i hi)
   ·refine ⟨k,List.mem_cons_of_mem _ hk,fun i hi=>?_⟩;rcases List.mem_cons.1 hi with rfl|hi
    ·omega
    ·exact hmin i hi
theorem Bu:∀(a b:List Nat),a.Nodup->(∀x∈a,x∈b)->a.length<=b.length
 | [],_,_,_=>by simp
 | x :: t,b,hn,h=>by
  rw [List.nodup_cons] at hn;have hx:=h x (by simp);have:=Bu t (b.erase x) hn.2 fun y hy=>(List.mem_erase_of_ne (fun e=>hn.1 (by rw [<-e];exact hy))).2 (h y (List.mem_cons_of_mem _ hy));rw [List.length_erase_of_mem hx] at this;have:=List.length_pos_of_mem hx;simp only [List.length_cons];omega
def eU (z:Nat->Int) (N:Nat) : List Nat:=(List.range N).filter fun j=>decide (z j≠0)
theorem l8 (z:Nat->Int) (N j:Nat) : j∈eU z N<->j < N/\z j≠0:=by unfold eU;simp only [List.mem_filter,List.mem_range,decide_eq_true_eq]
theorem l9 (z:Nat->Int) (N:Nat) : (eU z N).Nodup:=List.Pairwise.filter _ List.nodup_range
theorem qj (p:Lp) (m n:Nat) (au:p.may=true) (hm:m=p.rows.length) (hn:n=p.costs.length) : ∀(c:Nat) (z:Nat->Int) (D:Int),0 < D->(∀j,j < n+m->0<=z j)->(∀i,i < m->sumN (fun j=>aC p j i*z j) (n+m)=D*dw p i)->(eU z (n+m)).length<=c->∃at',Good p at' m n:=by
 have h1:1<=m:=by have:=(p.aj au).2.2.1.1;omega
 have h4:m<=4:=by have:=(p.aj au).2.2.1.2;omega
 intro c
 induction c with
 | zero =>
  intro z D hD hz hs hc;have hS:eU z (n+m)=[]:=List.length_eq_zero_iff.1 (by omega);have hz0:∀j,j < n+m->z j=0:=fun j hj=>Classical.byContradiction fun hne=>by
   have:=(l8 z (n+m) j).2 ⟨hj,hne⟩;rw [hS] at this;simp at this
  obtain ⟨T,t1,t2,t3,t4,_⟩:=Fj p m n hn m [] (fun v _ j hj=>by simp at hj) List.nodup_nil (fun j hj=>by simp at hj) (by simp);obtain ⟨hr,hin⟩:=xE m (n+m) T t2 t3 t4;have hd:=Dl p m n h1 h4 T t1 t2 t3 t4;refine ⟨_,hr,hd,fun j=>?_⟩;generalize uA (n+m) T=at' at *;by_cases hj:j < n+m
  ·have h0:=qg p at' m (n+m) hr h1 h4 hd (fun j=>(xL p at' m (n+m))[j]?.getD 0) (fun j _ hb=>yG p at' m (n+m) j hb) (fun i hi=>by
    rw [mQ p at' m (n+m) hr h1 h4 i hi];have:=hs i hi;have hz':sumN (fun j=>aC p j i*z j) (n+m)=sumN (fun _=>0) (n+m):=ah _ _ _ fun j hj=>by rw [hz0 j hj];omega
    rw [hz',bM] at this;have hm0:dw p i=0:=by
     rcases Int.mul_eq_zero.1 this.symm with h|h
     ·omega
     ·exact h
    rw [hm0];omega) j hj
   have h0':(xL p at' m (n+m))[j]?.getD 0=0:=h0;rw [h0'];omega
  ·rw [List.getElem?_eq_none (by unfold xL;rw [gF];omega)];show 0<=aT p at' m*0;omega
 | succ c ih =>
  intro z D hD hz hs hc;by_cases Px:Ih p m (eU z (n+m))
  ·have hle:(eU z (n+m)).length<=m:=by
    rcases Nat.lt_or_ge m (eU z (n+m)).length with h|h
    ·obtain ⟨u,⟨j,hj,hu⟩,hr⟩:=ker ((List.range m).map fun i j=>aC p j i) (eU z (n+m)) (l9 z (n+m)) (by rw [List.length_map,List.length_range];exact h);exact absurd (Px u (fun i hi=>hr (fun j=>aC p j i) (List.mem_map.2 ⟨i,List.mem_range.2 hi,rfl⟩)) j hj) hu
    ·exact h
   obtain ⟨T,t1,t2,t3,t4,t5⟩:=Fj p m n hn (m - (eU z (n+m)).length) (eU z (n+m)) Px (l9 z (n+m)) (fun j hj=>((l8 z (n+m) j).1 hj).1) (by omega);obtain ⟨hr,hin⟩:=xE m (n+m) T t2 t3 t4;have hd:=Dl p m n h1 h4 T t1 t2 t3 t4;refine ⟨_,hr,hd,fun j=>?_⟩;have Yj:∀j,j < n+m->gK (uA (n+m) T) m j=false->z j=0:=by intro j hj hb;apply Classical.byContradiction;intro hne;rw [hin j] at hb;have:=t5 j ((l8 z (n+m) j).2 ⟨hj,hne⟩);simp [this] at hb
   generalize uA (n+m) T=at' at *;by_cases hj:j < n+m
   ·have h0:=qg p at' m (n+m) hr h1 h4 hd (fun j=>(xL p at' m (n+m))[j]?.getD 0*D - aF p at' m*z j) (fun j hj hb=>by
      show (xL p at' m (n+m))[j]?.getD 0*D - aF p at' m*z j=0;rw [yG p at' m (n+m) j hb,Yj j hj hb];omega) (fun i hi=>by
      have e:sumN (fun j=>aC p j i*((xL p at' m (n+m))[j]?.getD 0*D - aF p at' m*z j)) (n+m)=sumN (fun j=>D*(aC p j i*(xL p at' m (n+m))[j]?.getD 0)+(-(aF p at' m))*(aC p j i*z j)) (n+m):=ah _ _ _ fun j _=>by grind
      rw [e,dA,az,az,mQ p at' m (n+m) hr h1 h4 i hi,hs i hi];grind) j hj
    have h0':(xL p at' m (n+m))[j]?.getD 0*D - aF p at' m*z j=0:=h0;have hs1:=dD p at' m hd;have hzj:=hz j hj;generalize (xL p at' m (n+m))[j]?.getD 0=x at *;generalize aF p at' m=dd at *;generalize aT p at' m=g at *;have e:D*(g*x)=(g*dd)*z j:=by
     have a1:x*D=dd*z j:=by omega
     have a2:D*(g*x)=g*(x*D):=by grind
     have a3:(g*dd)*z j=g*(dd*z j):=by grind
     rw [a2,a3,a1]
    have hp:=Int.mul_nonneg (Int.le_of_lt hs1) hzj;rw [<-e] at hp;exact (bE D (g*x) hD).1 hp
   ·rw [List.getElem?_eq_none (by unfold xL;rw [gF];omega)];show 0<=aT p at' m*0;omega
  ·
   obtain ⟨v,hv,j1,hj1,hv1⟩ : ∃v:Nat->Int,(∀i,i < m->sumL (fun j=>aC p j i*v j) (eU z (n+m))=0)/\∃j∈eU z (n+m),0 < v j:=by
    have:∃v:Nat->Int,(∀i,i < m->sumL (fun j=>aC p j i*v j) (eU z (n+m))=0)/\∃j∈eU z (n+m),v j≠0:=by apply Classical.byContradiction;intro hno;exact Px fun v hv j hj=>Classical.byContradiction fun hne=>hno ⟨v,hv,j,hj,hne⟩
    obtain ⟨v,hv,j,hj,hne⟩:=this;by_cases hp:0 < v j
    ·exact ⟨v,hv,j,hj,hp⟩
    ·refine ⟨fun j => -(v j),fun i hi=>?_,j,hj,by show 0 < -(v j);omega⟩;have:sumL (fun j=>aC p j i * -(v j)) (eU z (n+m))=(-1)*sumL (fun j=>aC p j i*v j) (eU z (n+m)):=by rw [<-l7];exact fG _ _ _ fun j _=>by grind
     rw [this,hv i hi];omega
   obtain ⟨j0,hj0,hmin⟩:=nearest z v ((eU z (n+m)).filter fun j=>decide (0 < v j)) (List.ne_nil_of_mem (List.mem_filter.2 ⟨hj1,decide_eq_true hv1⟩)) (fun j hj=>by simpa using (List.mem_filter.1 hj).2);have hv0:0 < v j0:=by simpa using (List.mem_filter.1 hj0).2
   have Wj:=(List.mem_filter.1 hj0).1;have af2:=((l8 z (n+m) j0).1 Wj).1;have hz0:=hz j0 af2;obtain ⟨z2,hz2⟩ : ∃z2:Nat->Int,z2=fun j=>v j0*z j - z j0*(if j∈eU z (n+m) then v j else 0):=⟨_,rfl⟩;have Wl:∀j,z2 j=v j0*z j - z j0*(if j∈eU z (n+m) then v j else 0):=fun j=>by rw [hz2]
   refine ih z2 (v j0*D) (Int.mul_pos hv0 hD) (fun j hj=>?_) (fun i hi=>?_) ?_
   ·rw [Wl j];have hzj:=hz j hj;by_cases Xv:j∈eU z (n+m)
    ·rw [if_pos Xv];by_cases UR:0 < v j
     ·have:=hmin j (List.mem_filter.2 ⟨Xv,decide_eq_true UR⟩);have e:v j0*z j=z j*v j0:=Int.mul_comm _ _;omega
     ·have a1:=Int.mul_nonneg (Int.le_of_lt hv0) hzj;have a2:=Int.mul_nonpos_of_nonneg_of_nonpos hz0 (Int.not_lt.1 UR);omega
    ·rw [if_neg Xv];have a1:=Int.mul_nonneg (Int.le_of_lt hv0) hzj;omega
   ·have e1:sumN (fun j=>aC p j i*z2 j) (n+m)=sumN (fun j=>v j0*(aC p j i*z j)+(-(z j0))*(aC p j i*(if j∈eU z (n+m) then v j else 0))) (n+m):=ah _ _ _ fun j _=>by rw [Wl j];grind
    have e2:sumN (fun j=>aC p j i*(if j∈eU z (n+m) then v j else 0)) (n+m)=0:=by rw [Fh (fun j=>aC p j i*(if j∈eU z (n+m) then v j else 0)) (n+m) (eU z (n+m)) (l9 z (n+m)) (fun j hj=>((l8 z (n+m) j).1 hj).1) fun j _ hj=>by show aC p j i*(if j∈eU z (n+m) then v j else 0)=0;rw [if_neg hj];omega];rw [<-hv i hi];exact fG _ _ _ fun j hj=>by rw [if_pos hj]
    rw [e1,dA,az,az,e2,hs i hi];grind
   ·have hsub:∀j,j∈eU z2 (n+m)->j∈(eU z (n+m)).erase j0:=by
     intro j hj;obtain ⟨CU,hne⟩:=(l8 z2 (n+m) j).1 hj;rw [Wl j] at hne;rw [(l9 z (n+m)).mem_erase_iff];refine ⟨fun e=>hne ?_,?_⟩
     ·subst e;rw [if_pos Wj];grind
     ·apply Classical.byContradiction;intro Xv;rw [if_neg Xv] at hne;have hzj:z j=0:=Classical.byContradiction fun h=>Xv ((l8 z (n+m) j).2 ⟨CU,h⟩);rw [hzj] at hne;omega
    have hlen:=Bu _ _ (l9 z2 (n+m)) hsub;rw [List.length_erase_of_mem Wj] at hlen;omega
theorem ql {p:Lp} {at':List Int} {l:List (List Int)} {k:Int} (au:p.may=true) (h:oz p at' l k) : (∀i,i < l.length->Good p (l[i]?.getD []) p.rows.length p.costs.length)/\(k=1\/k=2)/\1<=l.length:=by
 obtain ⟨K,a1,a2,a3,a4,a5⟩:=h;have hlast:Good p (l[K]?.getD []) p.rows.length p.costs.length/\(k=1\/k=2):=by
  rcases jd p (l[K]?.getD []) p.rows.length p.costs.length au rfl rfl with ⟨e,he,h1,_⟩|⟨hg,⟨k',hk,hk2,h1⟩|⟨nx,s,k',h1,_⟩⟩
  ·rw [a4] at h1;simp only [Prod.mk.injEq] at h1;exact absurd h1.2.2.symm he
  ·rw [a4] at h1;simp only [Prod.mk.injEq,true_and,and_true] at h1;exact ⟨hg,by rw [h1];exact hk2⟩
  ·rw [a4] at h1;simp only [Prod.mk.injEq] at h1;exact absurd h1.2.1 a5
 refine ⟨fun i hi=>?_,hlast.2,by omega⟩;by_cases hiK:i < K
 ·obtain ⟨_,_,_,h2⟩:=sw p p.rows.length p.costs.length au rfl rfl (fun q=>l[q]?.getD []) K a3;exact (h2 i hiK).1
 ·have:i=K:=by omega
  subst this;exact hlast.1
theorem qW (p:Lp) (at':List Int) (m n:Nat) (au:p.may=true) (hm:m=p.rows.length) (hn:n=p.costs.length) (hg:Good p at' m n) :
  (cz p at'=([],1,0)/\∀j:Nat,j < n+m->aT p at' m*(aO p at' m (n+m))[j]?.getD 0<=0)\/
  (cz p at'=([],2,0)/\∃s,s < n+m/\gK at' m s=false/\0 < aT p at' m*(aO p at' m (n+m))[s]?.getD 0/\∀k,k < m->aT p at' m*(cu p at' m s)[k]?.getD 0<=0)\/
  ∃nx,cz p at'=(nx,0,0)/\Good p nx m n:=by
 rcases jd p at' m n au hm hn with ⟨e,he,h1,h2⟩|⟨_,⟨k,hk,hk2,h1⟩|⟨nx,s,k,h1,_,h3,_⟩⟩
 ·exact absurd hg h2
 ·obtain ⟨e1,e2⟩:=(iY p at' m n au hm hn).2 hg;obtain ⟨l1,l2,l3,l4,_⟩:=vE p at' m n au hm hn hg;obtain ⟨_,_,_,_,_,gx,gg,Di,Ia,hx,_,hgn⟩:=bK p at' m n au hm hn hg.right hg.den;rw [h1];unfold cz at h1;rw [if_neg (by omega),if_neg (by rw [e2];decide),l1,l2] at h1;rcases l5 (look p at').g (n+m) with ⟨f1,f2⟩|⟨s,f1,f2,f3,f4⟩
  ·rw [f1,if_pos (by omega)] at h1;simp only [Prod.mk.injEq,true_and,and_true] at h1;refine Or.inl ⟨by rw [h1],fun j hj=>?_⟩;rw [hgn j];exact Int.mul_nonpos_of_nonneg_of_nonpos (Int.le_of_lt Ia) (f2 j hj)
  ·rw [f2,if_neg (by omega),Int.toNat_natCast] at h1;have hsb:=Dk p at' m n au hm hn hg s f3;obtain ⟨_,_,_,gv,Xu,hv⟩:=lJ p at' m n s au hm hn hg;rcases vD at' (look p at').x (look (dh p s) at').x m with ⟨o1,o2⟩|⟨o,o1,o2,o3,o4⟩
   ·rw [o1,if_pos (by omega)] at h1;simp only [Prod.mk.injEq,true_and,and_true] at h1;refine Or.inr (Or.inl ⟨by rw [h1],s,f1,hsb,?_,fun k hk=>?_⟩)
    ·rw [hgn s];exact (gu _ _ Ia).2 f3
    ·rw [hv k hk];exact Int.mul_nonpos_of_nonneg_of_nonpos (Int.le_of_lt Xu) (o2 k hk)
   ·rw [o2,if_neg (by omega)] at h1;simp only [Prod.mk.injEq] at h1;omega
 ·exact Or.inr (Or.inr ⟨nx,h1,h3⟩)
theorem Kt (p:Lp) (at':List Int) (m n:Nat) (au:p.may=true) (hm:m=p.rows.length) (hn:n=p.costs.length) (hg:Good p at' m n) : ∃l k,oz p at' l k:=by
 have key:∀d (l:List (List Int)) (now:List Int),Path p at' l now->Good p now m n->4096<=l.length+d->∃l k,oz p at' l k:=by
  intro d
  induction d with
  | zero =>intro l now h _ hl;have:=sD m n au hm hn h;omega
  | succ d ih =>
   intro l now h hgn hl;rcases qW p now m n au hm hn hgn with ⟨h1,_⟩|⟨h1,_⟩|⟨nx,h1,h2⟩
   ·exact ⟨_,_,h.ends h1 (by omega)⟩
   ·exact ⟨_,_,h.ends h1 (by omega)⟩
   ·exact ih _ _ (h.push h1) h2 (by simp;omega)
 exact key 4096 [] at' (Path.start p at') hg (by simp)
structure Ii (p:Lp) (at':List Int) (m n:Nat) : Prop extends Good p at' m n where
 gain:∀j:Nat,j < n+m->aT p at' m*(aO p at' m (n+m))[j]?.getD 0<=0
structure Tw (p:Lp) (m n:Nat) (r:Nat->Int) : Prop where
 up:∀j,j < n+m->0<=r j
 level:∀i,i < m->sumN (fun j=>aC p j i*r j) (n+m)=0
 rise:0 < sumN (fun j=>p.costs[j]?.getD 0*r j) (n+m)
theorem lu (p:Lp) (at':List Int) (m N j:Nat) (hm:m=p.rows.length) (hj:j < N) : (aO p at' m N)[j]?.getD 0=p.costs[j]?.getD 0*aF p at' m - sumN (fun i=>aC p j i*(av p at' m)[i]?.getD 0) m:=by unfold aO;rw [aA,if_pos hj];unfold bV;rw [<-hm,aX];congr 1;exact ah _ _ _ fun i hi=>by rw [aA,if_pos hi]
theorem Py (p:Lp) (at':List Int) (m n s:Nat) (au:p.may=true) (hm:m=p.rows.length) (hr:aH at' m (n+m)=true) (hd:aF p at' m≠0) (hs:s < n+m) (hsb:gK at' m s=false) :
  sumN (fun j=>p.costs[j]?.getD 0*bA p at' m (n+m) s j) (n+m)=(aO p at' m (n+m))[s]?.getD 0:=by
 have h1:1<=m:=by have:=(p.aj au).2.2.1.1;omega
 have h4:m<=4:=by have:=(p.aj au).2.2.1.2;omega
 have e0:sumN (fun j=>(aO p at' m (n+m))[j]?.getD 0*bA p at' m (n+m) s j) (n+m)=(aO p at' m (n+m))[s]?.getD 0*aF p at' m:=by
  rw [dY _ s _ hs]
  ·show _*bA p at' m (n+m) s s=_;unfold bA;rw [if_pos rfl]
  ·intro j _ hjs;show _*bA p at' m (n+m) s j=0;cases hb:gK at' m j with
   | false=>rw [iD p at' m (n+m) s j hb hjs];omega
   | true =>obtain ⟨i,hi,rfl⟩:=(bD at' m j).1 hb;rw [j5 p at' m n au hm hr i hi];omega
 have e1:sumN (fun j=>(aO p at' m (n+m))[j]?.getD 0*bA p at' m (n+m) s j) (n+m)=sumN (fun j=>aF p at' m*(p.costs[j]?.getD 0*bA p at' m (n+m) s j)+(-1)*sumN (fun i=>aC p j i*(av p at' m)[i]?.getD 0*bA p at' m (n+m) s j) m) (n+m):=by
  refine ah _ _ _ fun j hj=>?_;rw [lu p at' m (n+m) j hm hj];have:sumN (fun i=>aC p j i*(av p at' m)[i]?.getD 0*bA p at' m (n+m) s j) m=bA p at' m (n+m) s j*sumN (fun i=>aC p j i*(av p at' m)[i]?.getD 0) m:=by rw [<-az];exact ah _ _ _ fun i _=>by grind
  rw [this];grind
 have e2:sumN (fun j=>sumN (fun i=>aC p j i*(av p at' m)[i]?.getD 0*bA p at' m (n+m) s j) m) (n+m)=0:=by
  rw [jh];refine (ah _ (fun _=>0) _ fun i hi=>?_).trans (bM m);have:sumN (fun j=>aC p j i*(av p at' m)[i]?.getD 0*bA p at' m (n+m) s j) (n+m)=(av p at' m)[i]?.getD 0*sumN (fun j=>aC p j i*bA p at' m (n+m) s j) (n+m):=by rw [<-az];exact ah _ _ _ fun j _=>by grind
  rw [this,ji p at' m (n+m) s hr h1 h4 hs hsb i hi];omega
 rw [e1,dA,az,az,e2] at e0;have e3:aF p at' m*sumN (fun j=>p.costs[j]?.getD 0*bA p at' m (n+m) s j) (n+m)=aF p at' m*(aO p at' m (n+m))[s]?.getD 0:=by rw [Int.mul_comm (aF p at' m) ((aO p at' m (n+m))[s]?.getD 0)];omega
 exact Int.eq_of_mul_eq_mul_left hd e3
theorem Dm (p:Lp) (at':List Int) (m n s:Nat) (au:p.may=true) (hm:m=p.rows.length) (hg:Good p at' m n) (hs:s < n+m) (hsb:gK at' m s=false) (h0:0 < aT p at' m*(aO p at' m (n+m))[s]?.getD 0) (hw:∀k,k < m->aT p at' m*(cu p at' m s)[k]?.getD 0<=0) :
  Tw p m n (fun j=>aT p at' m*bA p at' m (n+m) s j):=by
 have h1:1<=m:=by have:=(p.aj au).2.2.1.1;omega
 have h4:m<=4:=by have:=(p.aj au).2.2.1.2;omega
 refine ⟨fun j hj=>?_,fun i hi=>?_,?_⟩
 ·show 0<=aT p at' m*bA p at' m (n+m) s j;by_cases hjs:j=s
  ·subst hjs;unfold bA;rw [if_pos rfl];exact Int.le_of_lt (dD p at' m hg.den)
  ·cases hb:gK at' m j with
   | false=>rw [iD p at' m (n+m) s j hb hjs];omega
   | true =>obtain ⟨k,hk,rfl⟩:=(bD at' m j).1 hb;rw [lZ p at' m (n+m) s k hg.right hk hsb,Int.mul_neg];have:=hw k hk;omega
 ·have e:sumN (fun j=>aC p j i*(aT p at' m*bA p at' m (n+m) s j)) (n+m)=aT p at' m*sumN (fun j=>aC p j i*bA p at' m (n+m) s j) (n+m):=by rw [<-az];exact ah _ _ _ fun j _=>by grind
  show sumN (fun j=>aC p j i*(aT p at' m*bA p at' m (n+m) s j)) (n+m)=0;rw [e,ji p at' m (n+m) s hg.right h1 h4 hs hsb i hi];omega
 ·have e:sumN (fun j=>p.costs[j]?.getD 0*(aT p at' m*bA p at' m (n+m) s j)) (n+m)=aT p at' m*sumN (fun j=>p.costs[j]?.getD 0*bA p at' m (n+m) s j) (n+m):=by rw [<-az];exact ah _ _ _ fun j _=>by grind
  show 0 < sumN (fun j=>p.costs[j]?.getD 0*(aT p at' m*bA p at' m (n+m) s j)) (n+m);rw [e,Py p at' m n s au hm hg.right hg.den hs hsb];exact h0
theorem Wm (p:Lp) (at':List Int) (m:Nat) (x:Int) (h : -497664<=x/\x<=497664) : -497664<=aT p at' m*x/\aT p at' m*x<=497664:=by unfold aT;split<;>omega
theorem Wn (p:Lp) (at':List Int) (m n s:Nat) (au:p.may=true) (hm:m=p.rows.length) (hr:aH at' m (n+m)=true) (hsb:gK at' m s=false) (j:Nat) : -497664<=bA p at' m (n+m) s j/\bA p at' m (n+m) s j<=497664:=by
 have h1:1<=m:=by have:=(p.aj au).2.2.1.1;omega
 have h4:m<=4:=by have:=(p.aj au).2.2.1.2;omega
 by_cases hjs:j=s
 ·subst hjs;unfold bA;rw [if_pos rfl];exact jA p at' m au h1 h4
 ·cases hb:gK at' m j with
  | false=>rw [iD p at' m (n+m) s j hb hjs];omega
  | true =>obtain ⟨k,hk,rfl⟩:=(bD at' m j).1 hb;rw [lZ p at' m (n+m) s k hr hk hsb];have:=qf m (aG p at' m) (o8 p m s) (cZ p at' m) (by simp [o8]) h1 h4 (mP p at' m au) (EY p au m s) k;unfold cu;omega
theorem Ij (p:Lp) (at':List Int) (m n:Nat) (au:p.may=true) (hm:m=p.rows.length) (hn:n=p.costs.length) (hg:Good p at' m n) : (∃t,Ii p t m n)\/∃r,Tw p m n r/\∀j:Nat,r j<=497664:=by
 obtain ⟨l,k,hw⟩:=Kt p at' m n au hm hn hg;have hgs:=(ql au hw).1;obtain ⟨K,a1,a2,a3,a4,a5⟩:=hw;have Tx:=hgs K (by omega);rw [<-hm,<-hn] at Tx;rcases qW p _ m n au hm hn Tx with ⟨_,h2⟩|⟨_,s,s1,s2,s3,s4⟩|⟨nx,h1,_⟩
 ·exact Or.inl ⟨_,Tx,h2⟩
 ·exact Or.inr ⟨_,Dm p _ m n s au hm Tx s1 s2 s3 s4,fun j=>(Wm p _ m _ (Wn p _ m n s au hm Tx.right s2 j)).2⟩
 ·rw [a4] at h1;simp only [Prod.mk.injEq] at h1;exact absurd h1.2.1 a5
theorem sH (p:Lp) (at':List Int) (m n:Nat) (hm:m=p.rows.length) (hn:n=p.costs.length) (h:Ii p at' m n) :
  (∀i,i < m->0<=aT p at' m*(av p at' m)[i]?.getD 0)/\∀j,j < n+m->p.costs[j]?.getD 0*(aT p at' m*aF p at' m)<=sumN (fun i=>aC p j i*(aT p at' m*(av p at' m)[i]?.getD 0)) m:=by
 have key:∀j,j < n+m->p.costs[j]?.getD 0*(aT p at' m*aF p at' m)<=sumN (fun i=>aC p j i*(aT p at' m*(av p at' m)[i]?.getD 0)) m:=by
  intro j hj;have:=h.gain j hj;rw [lu p at' m (n+m) j hm hj,Int.mul_sub,<-az] at this;have e:sumN (fun i=>aT p at' m*(aC p j i*(av p at' m)[i]?.getD 0)) m=sumN (fun i=>aC p j i*(aT p at' m*(av p at' m)[i]?.getD 0)) m:=ah _ _ _ fun i _=>by grind
  rw [e] at this;have e2:aT p at' m*(p.costs[j]?.getD 0*aF p at' m)=p.costs[j]?.getD 0*(aT p at' m*aF p at' m):=by grind
  omega
 refine ⟨fun i hi=>?_,key⟩;have:=key (n+i) (by omega);rw [List.getElem?_eq_none (by omega)] at this;rw [dY _ i m hi (fun q _ hq=>by show aC p (n+i) q*_=0;rw [fQ p n i q hn,if_neg hq];omega)] at this;rw [fQ p n i i hn,if_pos rfl] at this;simpa using this
theorem pairs (h:Nat->Nat->Int) (y r:Nat->Int) (m N:Nat) : sumN (fun j=>sumN (fun i=>h j i*y i) m*r j) N=sumN (fun i=>y i*sumN (fun j=>h j i*r j) N) m:=by
 have e1:sumN (fun j=>sumN (fun i=>h j i*y i) m*r j) N=sumN (fun j=>sumN (fun i=>r j*(h j i*y i)) m) N:=ah _ _ _ fun j _=>by rw [az,Int.mul_comm]
 have e2:sumN (fun i=>y i*sumN (fun j=>h j i*r j) N) m=sumN (fun i=>sumN (fun j=>r j*(h j i*y i)) N) m:=ah _ _ _ fun i _=>by
  rw [<-az];exact ah _ _ _ fun j _=>by grind
 rw [e1,e2,jh]
theorem xG (p:Lp) (n j i:Nat) (hn:n=p.costs.length) (hj:j < n) : aC p j i=(p.rows[i]?.getD ([],0)).1[j]?.getD 0:=by unfold aC;rw [if_pos (by omega)]
theorem vG (p:Lp) (m n i:Nat) (hn:n=p.costs.length) (hi:i < m) (z:Nat->Int) : sumN (fun j=>aC p j i*z j) (n+m)=sumN (fun j=>(p.rows[i]?.getD ([],0)).1[j]?.getD 0*z j) n+z (n+i):=by
 rw [ic];congr 1
 ·exact ah _ _ _ fun j hj=>by rw [xG p n j i hn hj]
 ·rw [dY _ i m hi (fun q _ hq=>by show aC p (n+q) i*_=0;rw [fQ p n q i hn,if_neg (by omega)];omega)];show aC p (n+i) i*_=_;rw [fQ p n i i hn,if_pos rfl];omega
theorem wL (p:Lp) (m n q:Nat) (hn:n=p.costs.length) (hq:q < m) (y:Nat->Int) : sumN (fun i=>aC p (n+q) i*y i) m=y q:=by rw [dY _ q m hq (fun i _ hi=>by show aC p (n+q) i*_=0;rw [fQ p n q i hn,if_neg hi];omega)];show aC p (n+q) q*_=_;rw [fQ p n q q hn,if_pos rfl];omega
def uB (n:Nat) (x:List Int) (f:Nat->Int) (j:Nat) : Int:=if j < n then x[j]?.getD 0 else f (j - n)
theorem xH (n:Nat) (x:List Int) (f:Nat->Int) (j:Nat) (hj:j < n) : uB n x f j=x[j]?.getD 0:=by unfold uB;rw [if_pos hj]
theorem yN (n:Nat) (x:List Int) (f:Nat->Int) (i:Nat) : uB n x f (n+i)=f i:=by unfold uB;rw [if_neg (by omega),Nat.add_sub_cancel_left]
theorem Fp (p:Lp) (m n i:Nat) (hn:n=p.costs.length) (hi:i < m) (x:List Int) (f:Nat->Int) : sumN (fun j=>aC p j i*uB n x f j) (n+m)=dotN (p.rows[i]?.getD ([],0)).1 x n+f i:=by rw [vG p m n i hn hi,yN,aX];congr 1;exact ah _ _ _ fun j hj=>by rw [xH n x f j hj]
theorem Bv (p:Lp) (m n:Nat) (au:p.may=true) (hm:m=p.rows.length) (hn:n=p.costs.length) (x:List Int) (xd:Int) (h:p.goes x xd=true) : ∃at',Good p at' m n:=by
 obtain ⟨_,_,hd,_,hx,_⟩:=nK p x xd h;refine qj p m n au hm hn (n+m) (uB n x fun i=>dw p i*xd - dotN (p.rows[i]?.getD ([],0)).1 x n) xd (by omega) (fun j hj=>?_) (fun i hi=>?_) ?_
 ·by_cases hjn:j < n
  ·rw [xH _ _ _ _ hjn];exact not_neg x hx j
  ·obtain ⟨i,rfl⟩ : ∃i,j=n+i:=⟨j - n,by omega⟩;rw [yN];have:=vz p x xd h i (by omega);rw [<-hn] at this;unfold dw;omega
 ·rw [Fp p m n i hn hi];grind
 ·unfold eU;refine Nat.le_trans (List.length_filter_le _ _) (by simp)
theorem Pz (p:Lp) (m n:Nat) (r:Nat->Int) (h:Tw p m n r) (y:Nat->Int) (D:Int) (hD:0 < D) (hc:∀j,j < n+m->p.costs[j]?.getD 0*D<=sumN (fun i=>aC p j i*y i) m) : False:=by
 have e1:=pairs (aC p) y r m (n+m);have e2:sumN (fun i=>y i*sumN (fun j=>aC p j i*r j) (n+m)) m=0:=(ah _ (fun _=>0) _ fun i hi=>by rw [h.level i hi];omega).trans (bM m);have e3:sumN (fun j=>D*(p.costs[j]?.getD 0*r j)) (n+m)<=sumN (fun j=>sumN (fun i=>aC p j i*y i) m*r j) (n+m):=uu _ _ _ fun j hj=>by
  have:=Int.mul_le_mul_of_nonneg_right (hc j hj) (h.up j hj);have e:D*(p.costs[j]?.getD 0*r j)=p.costs[j]?.getD 0*D*r j:=by grind
  rw [e];exact this
 rw [az,e1,e2] at e3;have:=Int.mul_pos hD h.rise;omega
theorem PD (p:Lp) (m n:Nat) (hn:n=p.costs.length) (y:List Int) (yd:Int) (c:List Int) (hc:c.length=n) (h:dU p m y yd c=true) : ∀j,j < n+m->c[j]?.getD 0*yd<=sumN (fun i=>aC p j i*y[i]?.getD 0) m:=by
 obtain ⟨k1,k2⟩:=lH _ _ _ _ _ h;obtain ⟨_,_,_,hy,_⟩:=kD _ _ _ k1;intro j hj;by_cases hjn:j < n
 ·have:=k2 j (by omega);rw [aX] at this;have e:sumN (fun i=>(lX p m j)[i]?.getD 0*y[i]?.getD 0) m=sumN (fun i=>aC p j i*y[i]?.getD 0) m:=ah _ _ _ fun i hi=>by unfold lX;rw [aA,if_pos hi]
  rw [e] at this;exact this
 ·obtain ⟨q,rfl⟩ : ∃q,j=n+q:=⟨j - n,by omega⟩;rw [wL p m n q hn (by omega),List.getElem?_eq_none (by omega)];have:=not_neg y hy q;simp;omega
def Dn (p:Lp) (m n:Nat) (k:Int) : Prop:=(k=1/\∃t,Ii p t m n)\/(k=2/\(¬ ∃t,Ii p t m n)/\∃g,Good p g m n)\/(k=3/\¬ ∃g,Good p g m n)
theorem Fq (p:Lp) (m n:Nat) (hm:m=p.rows.length) (hn:n=p.costs.length) (a:pK) (h:kC p a=true) : Tw p m n (uB n a.r fun i => -dotN (p.rows[i]?.getD ([],0)).1 a.r n):=by
 obtain ⟨_,_,_,_,hr,_,_,_,hl,h0⟩:=yz p a h;refine ⟨fun j hj=>?_,fun i hi=>?_,?_⟩
 ·by_cases hjn:j < n
  ·rw [xH _ _ _ _ hjn];exact hr j
  ·obtain ⟨i,rfl⟩ : ∃i,j=n+i:=⟨j - n,by omega⟩;rw [yN];have:=hl i (by omega);rw [<-hn] at this;omega
 ·rw [Fp p m n i hn hi];omega
 ·rw [ic];have e1:sumN (fun j=>p.costs[j]?.getD 0*uB n a.r (fun i => -dotN (p.rows[i]?.getD ([],0)).1 a.r n) j) n=dotN p.costs a.r n:=by rw [aX];exact ah _ _ _ fun j hj=>by rw [xH _ _ _ _ hj]
  have e2:sumN (fun i=>p.costs[n+i]?.getD 0*uB n a.r (fun i => -dotN (p.rows[i]?.getD ([],0)).1 a.r n) (n+i)) m=0:=(ah _ (fun _=>0) _ fun i hi=>by rw [List.getElem?_eq_none (by omega)];simp).trans (bM m);rw [<-hn] at h0;omega
theorem Ik (p:Lp) (a:pK) (m n:Nat) (hm:m=p.rows.length) (hn:n=p.costs.length) (h:holds p a=true) : Dn p m n a.kind:=by
 cases au:p.may with
 | false=>rw [qb p a au] at h;exact absurd h (by decide)
 | true =>
 by_cases k1:a.kind=1
 ·rw [lY p a au k1] at h;simp only [Bool.and_eq_true] at h;have hb:=h.2;unfold uo at hb;simp only [Bool.and_eq_true] at hb;obtain ⟨⟨⟨b1,b2⟩,_⟩,_⟩:=hb;obtain ⟨g,hg⟩:=Bv p m n au hm hn _ _ b1;rw [<-hm] at b2;rcases Ij p g m n au hm hn hg with ht|⟨r,hr,_⟩
  ·exact Or.inl ⟨k1,ht⟩
  ·obtain ⟨c1,_⟩:=lH _ _ _ _ _ b2;obtain ⟨_,Yb,_⟩:=kD _ _ _ c1;exact (Pz p m n r hr _ a.yd (by omega) (PD p m n hn _ _ _ hn.symm b2)).elim
 ·by_cases k2:a.kind=2
  ·rw [rE p a au k2] at h;simp only [Bool.and_eq_true] at h;have hr:=Fq p m n hm hn a h.2;have hb:=h.2;unfold kC at hb;simp only [Bool.and_eq_true] at hb;refine Or.inr (Or.inl ⟨k2,?_,Bv p m n au hm hn _ _ hb.1.1.1.1⟩);rintro ⟨t,ht⟩;exact Pz p m n _ hr _ _ (dD p t m ht.den) (sH p t m n hm hn ht).2
  ·by_cases k3:a.kind=3
   ·rw [nu p a au k3] at h;simp only [Bool.and_eq_true] at h;have hb:=h.2;unfold dI at hb;simp only [Bool.and_eq_true,decide_eq_true_eq] at hb;obtain ⟨⟨_,b2⟩,b3⟩:=hb;rw [<-hm,<-hn] at b2;rw [<-hm] at b3;refine Or.inr (Or.inr ⟨k3,?_⟩);rintro ⟨g,hg⟩;have h1:1<=m:=by have:=(p.aj au).2.2.1.1;omega
    have h4:m<=4:=by have:=(p.aj au).2.2.1.2;omega
    have hc:=PD p m n hn _ _ _ (by simp) b2;have e1:=pairs (aC p) (fun i=>a.y[i]?.getD 0) (fun j=>aT p g m*(xL p g m (n+m))[j]?.getD 0) m (n+m);have e2:0<=sumN (fun j=>sumN (fun i=>aC p j i*a.y[i]?.getD 0) m*(aT p g m*(xL p g m (n+m))[j]?.getD 0)) (n+m):=by
     refine Int.le_trans (Int.le_of_eq (bM (n+m)).symm) (uu _ _ _ fun j hj=>Int.mul_nonneg ?_ (hg.x j));have:=hc j hj;have e0:(List.replicate n (0:Int))[j]?.getD 0=0:=by rw [List.getElem?_replicate];split<;>rfl
     rw [e0] at this;omega
    have e3:sumN (fun i=>a.y[i]?.getD 0*sumN (fun j=>aC p j i*(aT p g m*(xL p g m (n+m))[j]?.getD 0)) (n+m)) m=(aT p g m*aF p g m)*dV p m a.y:=by
     unfold dV;rw [aX,<-az];refine ah _ _ _ fun i hi=>?_;have e:sumN (fun j=>aC p j i*(aT p g m*(xL p g m (n+m))[j]?.getD 0)) (n+m)=aT p g m*sumN (fun j=>aC p j i*(xL p g m (n+m))[j]?.getD 0) (n+m):=by rw [<-az];exact ah _ _ _ fun j _=>by grind
     rw [e,mQ p g m (n+m) hg.right h1 h4 i hi];unfold bF;rw [aA,if_pos hi];grind
    rw [e1,e3] at e2;have:=Int.mul_neg_of_pos_of_neg (dD p g m hg.den) b3;omega
   ·rw [holds_none p a k1 k2 k3] at h;exact absurd h (by decide)
theorem PE (p:Lp) (m n:Nat) (k l:Int) (h1:Dn p m n k) (h2:Dn p m n l) : k=l:=by
 rcases h1 with ⟨a,ha⟩|⟨a,ha,hb⟩|⟨a,ha⟩<;>rcases h2 with ⟨b,hc⟩|⟨b,hc,hd⟩|⟨b,hc⟩
 ·omega
 ·exact absurd ha hc
 ·obtain ⟨t,ht⟩:=ha;exact absurd ⟨t,ht.toGood⟩ hc
 ·exact absurd hc ha
 ·omega
 ·exact absurd hb hc
 ·obtain ⟨t,ht⟩:=hc;exact absurd ⟨t,ht.toGood⟩ ha
 ·exact absurd hd ha
 ·omega
def aP (p:Lp) : Lp:=⟨(List.range p.rows.length).map fun i => -dw p i,(List.range p.costs.length).map fun j=>((List.range p.rows.length).map fun i => -aC p j i,0)⟩
theorem mf (p:Lp) : (aP p).costs.length=p.rows.length:=by simp [aP]
theorem vH (p:Lp) : (aP p).rows.length=p.costs.length:=by simp [aP]
theorem Fs (p:Lp) (j:Nat) (hj:j < p.costs.length) : (aP p).rows[j]?.getD ([],0)=((List.range p.rows.length).map fun i => -aC p j i,0):=by unfold aP;dsimp only;rw [List.getElem?_map,List.getElem?_range hj];rfl
theorem Ty (p:Lp) (au:p.may=true) (i:Nat) : -12<=dw p i/\dw p i<=12:=by
 unfold dw;by_cases hi:i < p.rows.length
 ·exact (p.row_of au i hi).2.2
 ·rw [List.getElem?_eq_none (l:=p.rows) (by omega)];simp
theorem PG (p:Lp) (au:p.may=true) : (aP p).may=true:=by
 obtain ⟨h1,h2,h3,h4⟩:=p.aj au;unfold Lp.may;rw [mf,vH];simp only [Bool.and_eq_true,decide_eq_true_eq];refine ⟨⟨⟨⟨⟨h3.1,h3.2⟩,?_⟩,h1.1⟩,h1.2⟩,?_⟩
 ·unfold aB aP;rw [List.all_eq_true];intro x hx;obtain ⟨i,_,rfl⟩:=List.mem_map.1 hx;have:=Ty p au i;simp only [Bool.and_eq_true,decide_eq_true_eq];omega
 ·rw [List.all_eq_true];intro r hr;unfold aP at hr;dsimp only at hr;obtain ⟨j,hj,rfl⟩:=List.mem_map.1 hr;unfold iL;have hw:aB 12 ((List.range p.rows.length).map fun i => -aC p j i)=true:=by unfold aB;rw [List.all_eq_true];intro x hx;obtain ⟨i,_,rfl⟩:=List.mem_map.1 hx;have:=mO p au j i;simp only [Bool.and_eq_true,decide_eq_true_eq];omega
  simp [hw,aW]
theorem Fu (p:Lp) (i j:Nat) (hi:i < p.rows.length) (hj:j < p.costs.length) : aC (aP p) i j=-aC p j i:=by rw [xG (aP p) p.rows.length i j (mf p).symm hi,Fs p j hj,aA,if_pos hi]
theorem Mw (p:Lp) (j:Nat) (hj:j < p.costs.length) : dw (aP p) j=0:=by unfold dw;rw [Fs p j hj]
theorem Bw (p:Lp) (i:Nat) (hi:i < p.rows.length) : (aP p).costs[i]?.getD 0=-dw p i:=by unfold aP;dsimp only;rw [aA,if_pos hi]
theorem xI (n1 d1 n2 d2:Int) (h:n1*d2=n2*d1) (h1:d1≠0) (h2:d2≠0) (b1 : -4611686018427387904<=d1/\d1<=4611686018427387904) (b2 : -4611686018427387904<=d2/\d2<=4611686018427387904) (c1 : -4611686018427387904<=n1/\n1<=4611686018427387904) (c2 : -4611686018427387904<=n2/\n2<=4611686018427387904) : mk n1 d1=mk n2 d2:=by
 rw [AQ d1 n1 h1 b1 c1,AQ d2 n2 h2 b2 c2];have e1:=AP 1073741824 d2 d1 [n1] h2 h1;have e2:=AP 1073741824 d1 d2 [n2] h1 h2;have g1:=xP d2 d1 [n1] h2 h1;have g2:=xP d1 d2 [n2] h1 h2;simp only [List.map_cons,List.map_nil] at e1 e2 g1 g2;have hn:d2*n1=d1*n2:=by rw [Int.mul_comm d2,h,Int.mul_comm]
 have hd:d2*d1=d1*d2:=Int.mul_comm _ _;rw [hn,hd] at e1 g1;rw [<-e1,<-e2,<-gM d2 n1 _ h2,<-gM d2 d1 _ h2,<-g1,<-gM d1 n2 _ h1,<-gM d1 d2 _ h1,<-g2,hn,hd]
theorem Dp (x:List Int) (h:∀j,j < x.length->0<=x[j]?.getD 0) : bO x=false:=by
 rw [ow];intro j;by_cases hj:j < x.length
 ·exact h j hj
 ·rw [List.getElem?_eq_none (by omega)];simp
theorem Bz (p:Lp) (at':List Int) (m n:Nat) (au:p.may=true) (hm:m=p.rows.length) (hn:n=p.costs.length) (hg:Good p at' m n) (x:List Int) (xd:Int) (hl:x.length=n) (hx:dn xd x=true) (he:∀j,j < n->(xL p at' m (n+m))[j]?.getD 0*xd=x[j]?.getD 0*aF p at' m) : p.goes x xd=true:=by
 have hD:=dD p at' m hg.den;have hx2:=hx;unfold dn at hx2;simp only [Bool.and_eq_true] at hx2;obtain ⟨ZQ,_⟩:=fw _ _ hx2.1;unfold Lp.goes Lp.fits;simp only [Bool.and_eq_true,Bool.not_eq_true',beq_iff_eq];refine ⟨⟨⟨⟨au,by omega⟩,hx⟩,Dp x fun j hj=>?_⟩,?_⟩
 ·have h1:=Int.mul_nonneg (hg.x j) (show 0<=xd by omega);rw [Int.mul_assoc,he j (by omega)] at h1;have h2:0<=aT p at' m*aF p at' m*x[j]?.getD 0:=by
   have:aT p at' m*aF p at' m*x[j]?.getD 0=aT p at' m*(x[j]?.getD 0*aF p at' m):=by grind
   omega
  exact (bE _ _ hD).1 h2
 ·rw [List.all_eq_true];intro r hr;obtain ⟨i,hi,rfl⟩:=List.getElem_of_mem hr;unfold xz;rw [decide_eq_true_eq,hl];have hrow:=Bp p at' m n au hm hn hg.right i (by omega);rw [List.getElem?_eq_getElem hi,Option.getD_some] at hrow;have Yk:dw p i=p.rows[i].2:=by unfold dw;rw [List.getElem?_eq_getElem hi,Option.getD_some]
  rw [Yk] at hrow;have e:dotN p.rows[i].1 (xL p at' m (n+m)) n*xd=dotN p.rows[i].1 x n*aF p at' m:=by rw [aX,aX,Int.mul_comm,<-az,Int.mul_comm (sumN _ n),<-az];refine ah _ _ _ fun j hj=>?_;have:=he j hj;grind
  have hs:=Int.mul_nonneg (hg.x (n+i)) (show 0<=xd by omega);generalize dotN p.rows[i].1 x n=A at *;generalize dotN p.rows[i].1 (xL p at' m (n+m)) n=B at *;generalize (xL p at' m (n+m))[n+i]?.getD 0=s at *;generalize aT p at' m=σ at *;generalize aF p at' m=D at *;have e2:σ*D*A+σ*s*xd=σ*D*(p.rows[i].2*xd):=by
   have:σ*((B+s)*xd)=σ*(p.rows[i].2*D*xd):=by rw [hrow]
   have a1:σ*((B+s)*xd)=σ*(B*xd)+σ*s*xd:=by grind
   rw [a1,e] at this;grind
  exact Int.le_of_mul_le_mul_left (show σ*D*A<=σ*D*(p.rows[i].2*xd) by omega) hD
theorem Im (p:Lp) (at':List Int) (m n:Nat) (hm:m=p.rows.length) (hn:n=p.costs.length) (ht:Ii p at' m n) (y:List Int) (yd:Int) (hl:y.length=m) (hy:dn yd y=true) (he:∀i,i < m->(av p at' m)[i]?.getD 0*yd=y[i]?.getD 0*aF p at' m) : dU p m y yd p.costs=true:=by
 have hD:=dD p at' m ht.den;have hy2:=hy;unfold dn at hy2;simp only [Bool.and_eq_true] at hy2;obtain ⟨yd1,_⟩:=fw _ _ hy2.1;obtain ⟨t1,t2⟩:=sH p at' m n hm hn ht;have key:∀i,i < m->aT p at' m*(av p at' m)[i]?.getD 0*yd=aT p at' m*aF p at' m*y[i]?.getD 0:=fun i hi=>by
  have:=he i hi;grind
 unfold dU iI;simp only [Bool.and_eq_true,Bool.not_eq_true',beq_iff_eq,List.all_eq_true];refine ⟨⟨⟨hl,hy⟩,Dp y fun i hi=>?_⟩,fun j hj=>?_⟩
 ·have h1:=Int.mul_nonneg (t1 i (by omega)) (show 0<=yd by omega);rw [key i (by omega)] at h1;exact (bE _ _ hD).1 h1
 ·rw [List.mem_range] at hj;unfold wI;rw [decide_eq_true_eq];have h1:=Int.mul_le_mul_of_nonneg_right (t2 j (by omega)) (show 0<=yd by omega);have e:sumN (fun i=>aC p j i*(aT p at' m*(av p at' m)[i]?.getD 0)) m*yd=aT p at' m*aF p at' m*dotN (lX p m j) y m:=by rw [aX,Int.mul_comm,<-az,<-az];refine ah _ _ _ fun i hi=>?_;unfold lX;rw [aA,if_pos hi];have:=key i hi;grind
  rw [e] at h1;have e2:p.costs[j]?.getD 0*(aT p at' m*aF p at' m)*yd=aT p at' m*aF p at' m*(p.costs[j]?.getD 0*yd):=by grind
  rw [e2] at h1;exact Int.le_of_mul_le_mul_left h1 hD
theorem uC (p:Lp) (at':List Int) (m n:Nat) (au:p.may=true) (hm:m=p.rows.length) (hn:n=p.costs.length) (hr:aH at' m (n+m)=true) (hd:aF p at' m≠0) (x y:List Int) (xd yd:Int)
  (hx:∀j,j < n->(xL p at' m (n+m))[j]?.getD 0*xd=x[j]?.getD 0*aF p at' m) (hy:∀i,i < m->(av p at' m)[i]?.getD 0*yd=y[i]?.getD 0*aF p at' m) :
  dotN p.costs x n*aF p at' m=dotN p.costs (xL p at' m (n+m)) n*xd/\dotN p.costs x n*yd=dV p m y*xd:=by
 have e1:dotN p.costs x n*aF p at' m=dotN p.costs (xL p at' m (n+m)) n*xd:=by rw [aX,aX,Int.mul_comm,<-az,Int.mul_comm (sumN _ n),<-az];refine ah _ _ _ fun j hj=>?_;have:=hx j hj;grind
 have e2:dV p m y*aF p at' m=dotN (bF p m) (av p at' m) m*yd:=by unfold dV;rw [aX,aX,Int.mul_comm,<-az,Int.mul_comm (sumN _ m),<-az];refine ah _ _ _ fun i hi=>?_;have:=hy i hi;grind
 have e3:=wJ p at' m n au hm hn hr;refine ⟨e1,Int.eq_of_mul_eq_mul_left hd ?_⟩;have a1:aF p at' m*(dotN p.costs x n*yd)=dotN p.costs x n*aF p at' m*yd:=by grind
 have a2:aF p at' m*(dV p m y*xd)=dV p m y*aF p at' m*xd:=by grind
 rw [a1,a2,e1,e2,e3];grind
theorem PH (p:Lp) (at':List Int) (m n:Nat) (au:p.may=true) (hm:m=p.rows.length) (hn:n=p.costs.length) (ht:Ii p at' m n) (a:pK) (hxl:a.x.length=n) (hx:dn a.xd a.x=true) (hxe:∀j,j < n->(xL p at' m (n+m))[j]?.getD 0*a.xd=a.x[j]?.getD 0*aF p at' m)
  (hyl:a.y.length=m) (hy:dn a.yd a.y=true) (hye:∀i,i < m->(av p at' m)[i]?.getD 0*a.yd=a.y[i]?.getD 0*aF p at' m) (hw:mk (dotN p.costs a.x n) a.xd=(a.wn,a.wd,0)) : uo p a=true:=by
 have hg:=Bz p at' m n au hm hn ht.toGood a.x a.xd hxl hx hxe;have hc:=Im p at' m n hm hn ht a.y a.yd hyl hy hye;obtain ⟨_,hww⟩:=uC p at' m n au hm hn ht.right ht.den a.x a.y a.xd a.yd hxe hye;obtain ⟨_,_,hxd,Xq,_⟩:=nK p _ _ hg;obtain ⟨_,Yb,Wo,_⟩:=kD _ _ _ (lH _ _ _ _ _ hc).1;have NR:=(p.aj au).1.2;have h4:=(p.aj au).2.2.1.2;have b1:=jq p.costs a.x 400 1073741824 (aJ _ _ (p.aj au).2.1 (by omega)) (aJ _ _ Xq (by omega)) n;have b2:=jq (bF p m) a.y 400 1073741824 (EK p au m) (aJ _ _ Wo (by omega)) m;unfold uo;rw [<-hm,<-hn,hg,hc,hw];have hs:=xI (dotN p.costs a.x n) a.xd (dV p m a.y) a.yd hww (by omega) (by omega) (by omega) (by omega) (by omega) (by unfold dV;omega);rw [<-hs,hw];simp
theorem Wp (l:List Int) : gl 1 l=1:=by
 have h:=lM 1 l;unfold bX at h;rw [if_neg (by omega)] at h;have:((gl 1 l:Nat) : Int) ∣ ((1:Nat) : Int):=by simpa using h
 have:=Int.natCast_dvd_natCast.1 this;exact Nat.dvd_one.1 this
theorem BA (b:Int) (l:List Int) (h:∀j,j < l.length->-b<=l[j]?.getD 0/\l[j]?.getD 0<=b) : aB b l=true:=by unfold aB;rw [List.all_eq_true];intro x hx;obtain ⟨j,hj,rfl⟩:=List.getElem_of_mem hx;have:=h j hj;rw [List.getElem?_eq_getElem hj,Option.getD_some] at this;simpa using this
theorem Ku (l:List Int) (h8:l.length<=8) (h:∀j,j < l.length->-1073741824<=l[j]?.getD 0/\l[j]?.getD 0<=1073741824) : dn 1 l=true:=by unfold dn;rw [Ck 1 l (by omega) (by rw [aW];rfl) (BA _ l h),Wp];simp [h8]
theorem Fw (p:Lp) (m n:Nat) (au:p.may=true) (hm:m=p.rows.length) (hn:n=p.costs.length) (R:Nat->Int) (hR:Tw p m n R) (a:pK) (hg:p.goes a.x a.xd=true) (hd:a.rd=1) (hl:a.r.length=n) (hb:∀j,j < n->a.r[j]?.getD 0<=1073741824)
  (e h:Int) (he:0 < e) (hh:0 < h) (hr:∀j,j < n->R j*e=a.r[j]?.getD 0*h) : kC p a=true:=by
 have NR:=(p.aj au).1.2;have h0:∀j,j < n->0<=a.r[j]?.getD 0:=fun j hj=>by
  have:=Int.mul_nonneg (hR.up j (by omega)) (Int.le_of_lt he);rw [hr j hj,Int.mul_comm] at this;exact (bE _ _ hh).1 this
 have key:∀c:Nat->Int,sumN (fun j=>c j*a.r[j]?.getD 0) n*h=sumN (fun j=>c j*R j) n*e:=fun c=>by
  rw [Int.mul_comm,<-az,Int.mul_comm (sumN _ n),<-az];refine ah _ _ _ fun j hj=>?_;have:=hr j hj;grind
 unfold kC iI;rw [hg,hd,<-hn];simp only [Bool.and_eq_true,Bool.not_eq_true',beq_iff_eq,decide_eq_true_eq,true_and,List.all_eq_true];refine ⟨⟨⟨⟨hl,Ku a.r (by omega) fun j hj=>?_⟩,Dp _ fun j hj=>h0 j (by omega)⟩,fun q hq=>?_⟩,?_⟩
 ·have:=h0 j (by omega);have:=hb j (by omega);omega
 ·obtain ⟨i,hi,rfl⟩:=List.getElem_of_mem hq;unfold yx;rw [decide_eq_true_eq,aX];have h1:=hR.level i (by omega);rw [vG p m n i hn (by omega),List.getElem?_eq_getElem hi,Option.getD_some] at h1;have h2:=key fun j=>p.rows[i].1[j]?.getD 0;have h3:=hR.up (n+i) (by omega);have h4:sumN (fun j=>p.rows[i].1[j]?.getD 0*R j) n=-(R (n+i)):=by omega
  rw [h4] at h2;have h5:=Int.mul_nonneg h3 (Int.le_of_lt he);rw [Int.neg_mul] at h2;generalize sumN (fun j=>p.rows[i].1[j]?.getD 0*a.r[j]?.getD 0) n=z at *;refine Int.not_lt.1 fun hz=>?_;have:=Int.mul_pos hz hh;omega
 ·rw [aX];have h1:=hR.rise;rw [ic] at h1;have e2:sumN (fun i=>p.costs[n+i]?.getD 0*R (n+i)) m=0:=(ah _ (fun _=>0) _ fun i hi=>by rw [List.getElem?_eq_none (by omega)];simp).trans (bM m);have h2:=key fun j=>p.costs[j]?.getD 0;have h3:=Int.mul_pos (show 0 < sumN (fun j=>p.costs[j]?.getD 0*R j) n by omega) he;rw [<-h2,Int.mul_comm] at h3;exact (gu _ _ hh).1 h3
structure PI (p:Lp) (m n:Nat) (y:Nat->Int) : Prop where
 up:∀i,i < m->0<=y i
 cover:∀j,j < n->0<=sumN (fun i=>aC p j i*y i) m
 falls:sumN (fun i=>dw p i*y i) m < 0
theorem Ap (p:Lp) (m n:Nat) (au:p.may=true) (hm:m=p.rows.length) (hn:n=p.costs.length) (Y:Nat->Int) (hY:PI p m n Y) (a:pK) (hd:a.yd=1) (hl:a.y.length=m) (hb:∀i,i < m->a.y[i]?.getD 0<=1073741824)
  (e h:Int) (he:0 < e) (hh:0 < h) (hy:∀i,i < m->Y i*e=a.y[i]?.getD 0*h) : dI p a=true:=by
 have h4:=(p.aj au).2.2.1.2;have h0:∀i,i < m->0<=a.y[i]?.getD 0:=fun i hi=>by
  have:=Int.mul_nonneg (hY.up i hi) (Int.le_of_lt he);rw [hy i hi,Int.mul_comm] at this;exact (bE _ _ hh).1 this
 have key:∀c:Nat->Int,sumN (fun i=>c i*a.y[i]?.getD 0) m*h=sumN (fun i=>c i*Y i) m*e:=fun c=>by
  rw [Int.mul_comm,<-az,Int.mul_comm (sumN _ m),<-az];refine ah _ _ _ fun i hi=>?_;have:=hy i hi;grind
 unfold dI dU iI;rw [hd,<-hm,<-hn];simp only [Bool.and_eq_true,Bool.not_eq_true',beq_iff_eq,decide_eq_true_eq,List.all_eq_true];refine ⟨⟨by decide,⟨⟨hl,Ku a.y (by omega) fun i hi=>?_⟩,Dp _ fun i hi=>h0 i (by omega)⟩,fun j hj=>?_⟩,?_⟩
 ·have:=h0 i (by omega);have:=hb i (by omega);omega
 ·simp only [List.length_replicate,List.mem_range] at hj;unfold wI;rw [decide_eq_true_eq,aX];have e0:(List.replicate n (0:Int))[j]?.getD 0=0:=by rw [List.getElem?_replicate];split<;>rfl
  have e1:sumN (fun i=>(lX p m j)[i]?.getD 0*a.y[i]?.getD 0) m=sumN (fun i=>aC p j i*a.y[i]?.getD 0) m:=ah _ _ _ fun i hi=>by unfold lX;rw [aA,if_pos hi]
  rw [e0,e1];have h2:=key fun i=>aC p j i;have h3:=Int.mul_nonneg (hY.cover j hj) (Int.le_of_lt he);rw [<-h2,Int.mul_comm] at h3;have:=(bE _ _ hh).1 h3;omega
 ·unfold dV;rw [aX];have e1:sumN (fun i=>(bF p m)[i]?.getD 0*a.y[i]?.getD 0) m=sumN (fun i=>dw p i*a.y[i]?.getD 0) m:=ah _ _ _ fun i hi=>by unfold bF;rw [aA,if_pos hi]
  rw [e1];have h2:=key fun i=>dw p i;have h3:=Int.mul_neg_of_neg_of_pos hY.falls he;rw [<-h2] at h3;refine Int.not_le.1 fun hz=>?_;have:=Int.mul_nonneg hz (Int.le_of_lt hh);omega
theorem Io (l:List Int) (d:Int) (hd:d≠0) (Rz : -1073741824<=d/\d<=1073741824) (hl:∀j:Nat,-1073741824<=l[j]?.getD 0/\l[j]?.getD 0<=1073741824) (h8:l.length<=8) :
  ∃x xd,pt l d=(x,xd,0)/\x.length=l.length/\dn xd x=true/\∀j:Nat,l[j]?.getD 0*xd=x[j]?.getD 0*d:=by
 obtain ⟨g,g0,h1,h2,h3,h4,h5,_⟩:=rF l d hd Rz hl h8;have hw:aB 4611686018427387904 l=true:=BA _ l fun j _=>by have:=hl j;omega
 have hw2:aB 4611686018427387904 [d]=true:=by rw [aW];simp;omega
 have hp:=UC l d hd hw hw2;refine ⟨(pt l d).1,(pt l d).2.1,by rw [<-h1],h2,?_,fun j=>?_⟩
 ·cases hmp:dn (d.tdiv (bX d l)) (l.map fun n=>n.tdiv (bX d l)) with
  | false =>rw [hmp] at hp;rw [hp] at h1;simp at h1
  | true =>rw [hmp] at hp;rw [hp];simpa using hmp
 ·rw [h3 j];generalize (pt l d).1[j]?.getD 0=x at *;generalize (pt l d).2.1=xd at *;rw [h4];grind
theorem Aq (p:Lp) (m n:Nat) (au:p.may=true) (hm:m=p.rows.length) (hn:n=p.costs.length) (t:List Int) (ht:Ii (aP p) t n m) : ∃g,Good p g m n:=by
 have dc:m=(aP p).costs.length:=by rw [mf];exact hm
 have dr:n=(aP p).rows.length:=by rw [vH];exact hn
 obtain ⟨t1,t2⟩:=sH (aP p) t n m dr dc ht;have hD:=dD (aP p) t n ht.den;generalize aT (aP p) t n*aF (aP p) t n=D at *;refine qj p m n au hm hn (n+m) (fun j=>if j < n then aT (aP p) t n*(av (aP p) t n)[j]?.getD 0 else dw p (j - n)*D - sumN (fun q=>aC p q (j - n)*(aT (aP p) t n*(av (aP p) t n)[q]?.getD 0)) n) D hD (fun j hj=>?_) (fun i hi=>?_) ?_
 ·show 0<=(if j < n then _ else _);by_cases hjn:j < n
  ·rw [if_pos hjn];exact t1 j hjn
  ·rw [if_neg hjn];have:=t2 (j - n) (by omega);rw [Bw p (j - n) (by omega)] at this;have e:sumN (fun q=>aC (aP p) (j - n) q*(aT (aP p) t n*(av (aP p) t n)[q]?.getD 0)) n=-1*sumN (fun q=>aC p q (j - n)*(aT (aP p) t n*(av (aP p) t n)[q]?.getD 0)) n:=by rw [<-az];exact ah _ _ _ fun q hq=>by rw [Fu p (j - n) q (by omega) (by omega)];grind
   rw [e,Int.neg_mul] at this;omega
 ·rw [vG p m n i hn hi];have e:sumN (fun j=>(p.rows[i]?.getD ([],0)).1[j]?.getD 0*(if j < n then aT (aP p) t n*(av (aP p) t n)[j]?.getD 0 else dw p (j - n)*D - sumN (fun q=>aC p q (j - n)*(aT (aP p) t n*(av (aP p) t n)[q]?.getD 0)) n)) n=sumN (fun q=>aC p q i*(aT (aP p) t n*(av (aP p) t n)[q]?.getD 0)) n :=
   ah _ _ _ fun j hj=>by rw [if_pos hj,xG p n j i hn hj]
  rw [e,if_neg (by omega),Nat.add_sub_cancel_left,Int.mul_comm D];omega
 ·unfold eU;exact Nat.le_trans (List.length_filter_le _ _) (by simp)
def phi (m n q:Nat) : Nat:=if q < m then n+q else q - m
def UT (m n j:Nat) : Nat:=if j < n then m+j else j - n
theorem oC (m n q:Nat) (h:q < m+n) : UT m n (phi m n q)=q:=by
 unfold UT phi;split
 ·rw [if_neg (by omega)];omega
 ·rw [if_pos (by omega)];omega
theorem Dq (m n q:Nat) (h:q < m+n) : phi m n q < n+m:=by unfold phi;split<;>omega
theorem Fx (p:Lp) (m n:Nat) (hm:m=p.rows.length) (hn:n=p.costs.length) (z:Nat->Int) (hz:∀j,j < n->sumN (fun q=>aC (aP p) q j*z q) (m+n)=0) (j:Nat) (hj:j < n+m) : sumN (fun i=>aC p j i*z i) m=z (UT m n j):=by
 have dc:m=(aP p).costs.length:=by rw [mf];exact hm
 by_cases hjn:j < n
 ·unfold UT;rw [if_pos hjn];have:=hz j hjn;rw [ic] at this;have e1:sumN (fun i=>aC (aP p) i j*z i) m=-1*sumN (fun i=>aC p j i*z i) m:=by rw [<-az];exact ah _ _ _ fun i hi=>by rw [Fu p i j (by omega) (by omega)];grind
  have e2:sumN (fun q=>aC (aP p) (m+q) j*z (m+q)) n=z (m+j):=by rw [dY _ j n hjn (fun q _ hq=>by show aC (aP p) (m+q) j*_=0;rw [fQ (aP p) m q j dc,if_neg (by omega)];omega)];show aC (aP p) (m+j) j*_=_;rw [fQ (aP p) m j j dc,if_pos rfl];omega
  rw [e1,e2] at this;omega
 ·obtain ⟨q,rfl⟩ : ∃q,j=n+q:=⟨j - n,by omega⟩;unfold UT;rw [if_neg hjn,wL p m n q hn (by omega),Nat.add_sub_cancel_left]
theorem Mx (f:Nat->Int) (c:Nat) (l:List Nat) (hn:l.Nodup) (hc:c∈l) (h:∀j∈l,j≠c->f j=0) : sumL f l=f c:=by
 rw [sF f c l hc,fG f (fun _=>0) (l.erase c) fun j hj=>?_,qV]
 ·omega
 ·rw [hn.mem_erase_iff] at hj;exact h j hj.2 hj.1
def kV (m n:Nat) (g:List Int) : List Nat:=((List.range (m+n)).filter fun q => !gK g n q).map (phi m n)
theorem qm (m n:Nat) (g:List Int) (j:Nat) : j∈kV m n g<->∃q,q < m+n/\gK g n q=false/\phi m n q=j:=by unfold kV;simp only [List.mem_map,List.mem_filter,List.mem_range,Bool.not_eq_true'];exact ⟨fun ⟨q,⟨h1,h2⟩,h3⟩=>⟨q,h1,h2,h3⟩,fun ⟨q,h1,h2,h3⟩=>⟨q,⟨h1,h2⟩,h3⟩⟩
theorem yO (m n:Nat) (g:List Int) : (kV m n g).Nodup:=by unfold kV;have h:((List.range (m+n)).filter fun q => !gK g n q).Nodup:=List.Pairwise.filter _ List.nodup_range;refine List.pairwise_map.2 (List.Pairwise.imp_of_mem (fun {a b} ha hb hab e=>hab ?_) h);have ha':=List.mem_range.1 (List.mem_filter.1 ha).1;have hb':=List.mem_range.1 (List.mem_filter.1 hb).1;rw [<-oC m n a ha',e,oC m n b hb']
theorem PK (m n:Nat) (g:List Int) (hr:aH g n (m+n)=true) : (kV m n g).length=m:=by
 unfold kV;rw [List.length_map];have hnd:((List.range n).map (aZ g)).Nodup:=by refine List.pairwise_map.2 (List.Pairwise.imp_of_mem (fun {a b} ha hb hab=>?_) List.pairwise_lt_range);have:=jy g (m+n) n hr b (List.mem_range.1 hb) a hab;omega
 have hp:((List.range (m+n)).filter fun q=>gK g n q).Perm ((List.range n).map (aZ g)):=(List.perm_ext_iff_of_nodup (List.Pairwise.filter _ List.nodup_range) hnd).2 fun q=>by
  simp only [List.mem_filter,List.mem_range,List.mem_map];rw [bD];exact ⟨fun h=>h.2,fun ⟨i,hi,he⟩=>⟨by rw [<-he];exact kR g (m+n) n hr i hi,i,hi,he⟩⟩
 have hl:=hp.length_eq;rw [List.length_map,List.length_range] at hl;have hc:=List.length_eq_countP_add_countP (fun q=>gK g n q) (l:=List.range (m+n));rw [List.length_range,List.countP_eq_length_filter,List.countP_eq_length_filter] at hc;have he:((List.range (m+n)).filter fun q=>decide ¬(gK g n q)=true)=(List.range (m+n)).filter fun q => !gK g n q:=by congr 1;funext q;cases gK g n q<;>rfl
 rw [he] at hc;omega
theorem PL (p:Lp) (m n:Nat) (au:p.may=true) (hm:m=p.rows.length) (hn:n=p.costs.length) (g:List Int) (hr:aH g n (m+n)=true) (hd:aF (aP p) g n≠0) : Ih p m (kV m n g):=by
 have h1:1<=n:=by have:=(p.aj au).1.1;omega
 have h4:n<=4:=by have:=(p.aj au).1.2;omega
 intro v hv j hj;obtain ⟨s,hs,hsb,rfl⟩:=(qm m n g j).1 hj;have e1:sumN (fun i=>bA (aP p) g n (m+n) s i*sumL (fun j=>aC p j i*v j) (kV m n g)) m=0:=(ah _ (fun _=>0) _ fun i hi=>by rw [hv i hi];omega).trans (bM m);have e2:sumN (fun i=>bA (aP p) g n (m+n) s i*sumL (fun j=>aC p j i*v j) (kV m n g)) m=sumN (fun i=>sumL (fun j=>v j*(aC p j i*bA (aP p) g n (m+n) s i)) (kV m n g)) m:=ah _ _ _ fun i _=>by
  rw [<-l7];exact fG _ _ _ fun j _=>by grind
 rw [e2,vF] at e1;have e3:∀j,j < n+m->sumN (fun i=>v j*(aC p j i*bA (aP p) g n (m+n) s i)) m=v j*bA (aP p) g n (m+n) s (UT m n j):=fun j hj=>by
  rw [az,Fx p m n hm hn (bA (aP p) g n (m+n) s) (fun j hj=>ji (aP p) g n (m+n) s hr h1 h4 hs hsb j hj) j hj]
 rw [Mx _ (phi m n s) (kV m n g) (yO m n g) hj fun j hj hne=>?_] at e1
 ·rw [e3 _ (Dq m n s hs),oC m n s hs] at e1;unfold bA at e1;rw [if_pos rfl] at e1;rcases Int.mul_eq_zero.1 e1 with h|h
  ·exact h
  ·exact absurd h hd
 ·obtain ⟨q,hq,hqb,rfl⟩:=(qm m n g j).1 hj;show sumN (fun i=>v (phi m n q)*(aC p (phi m n q) i*bA (aP p) g n (m+n) s i)) m=0;rw [e3 _ (Dq m n q hq),oC m n q hq,iD (aP p) g n (m+n) s q hqb (fun e=>hne (by rw [e]))];omega
structure Kv (p:Lp) (at':List Int) (m n c:Nat) (y:Nat->Int) (D:Int) : Prop where
 right:aH at' m (n+m)=true
 den:aF p at' m≠0
 col:gK at' m c=true
 below:aT p at' m*(xL p at' m (n+m))[c]?.getD 0 < 0
 never:PI p m n y
 pos:0 < D
 own:∀j,gK at' m j=true->sumN (fun i=>aC p j i*y i) m=if j=c then D else 0
theorem xg (p:Lp) (m n:Nat) (au:p.may=true) (hm:m=p.rows.length) (hn:n=p.costs.length) : (∃g,Good p g m n)\/∃at' c y D,Kv p at' m n c y D:=by
 have dm:=PG p au;have dc:m=(aP p).costs.length:=by rw [mf];exact hm
 have dr:n=(aP p).rows.length:=by rw [vH];exact hn
 have h1:1<=m:=by have:=(p.aj au).2.2.1.1;omega
 have h4:m<=4:=by have:=(p.aj au).2.2.1.2;omega
 obtain ⟨g0,hg0⟩ : ∃g,Good (aP p) g n m:=qj (aP p) n m dm dr dc (m+n) (fun _=>0) 1 (by omega) (fun _ _=>Int.le_refl _) (fun j hj=>by
  rw [Mw p j (by omega)];exact (ah _ (fun _=>0) _ fun _ _=>by omega).trans (bM _)) (by unfold eU;exact Nat.le_trans (List.length_filter_le _ _) (by simp))
 obtain ⟨l,k,hw⟩:=Kt (aP p) g0 n m dm dr dc hg0;have hgs:=(ql dm hw).1;obtain ⟨K,a1,a2,a3,a4,a5⟩:=hw;have hg:=hgs K (by omega);rw [<-dr,<-dc] at hg;generalize l[K]?.getD []=g at *;rcases qW (aP p) g n m dm dr dc hg with ⟨_,h2⟩|⟨_,s,s1,s2,s3,s4⟩|⟨nx,hx,_⟩
 ·exact Or.inl (Aq p m n au hm hn g ⟨hg,h2⟩)
 ·refine Or.inr ?_;have hR:=Dm (aP p) g n m s dm dr hg s1 s2 s3 s4;have Px:=PL p m n au hm hn g hg.right hg.den;have hnd:=yO m n g;have hlen:=PK m n g hg.right;have Wq:∀j∈kV m n g,j < n+m:=fun j hj=>by
   obtain ⟨q,hq,_,rfl⟩:=(qm m n g j).1 hj;exact Dq m n q hq
  obtain ⟨hr,hin⟩:=xE m (n+m) (kV m n g) hnd Wq hlen;have hd:=Dl p m n h1 h4 (kV m n g) Px hnd Wq hlen;generalize uA (n+m) (kV m n g)=at' at *;have hD:=dD (aP p) g n hg.den;have Yl:∀j,j < n+m->sumN (fun i=>aC p j i*(aT (aP p) g n*bA (aP p) g n (m+n) s i)) m=aT (aP p) g n*bA (aP p) g n (m+n) s (UT m n j):=fun j hj=>Fx p m n hm hn (fun i=>aT (aP p) g n*bA (aP p) g n (m+n) s i) (fun j hj=>hR.level j hj) j hj;have hcS:phi m n s∈kV m n g:=(qm m n g _).2 ⟨s,s1,s2,rfl⟩;have Ym:PI p m n (fun i=>aT (aP p) g n*bA (aP p) g n (m+n) s i):=by
   refine ⟨fun i hi=>hR.up i (by omega),fun j hj=>?_,?_⟩
   ·rw [Yl j (by omega)];exact hR.up _ (by unfold UT;rw [if_pos hj];omega)
   ·have:=hR.rise;rw [ic] at this;have e1:sumN (fun i=>(aP p).costs[i]?.getD 0*(aT (aP p) g n*bA (aP p) g n (m+n) s i)) m=-1*sumN (fun i=>dw p i*(aT (aP p) g n*bA (aP p) g n (m+n) s i)) m:=by rw [<-az];exact ah _ _ _ fun i hi=>by rw [Bw p i (by omega)];grind
    have e2:sumN (fun q=>(aP p).costs[m+q]?.getD 0*(aT (aP p) g n*bA (aP p) g n (m+n) s (m+q))) n=0:=(ah _ (fun _=>0) _ fun i hi=>by rw [List.getElem?_eq_none (by omega)];simp).trans (bM n);rw [e1,e2] at this;omega
  have hown:∀j,gK at' m j=true->sumN (fun i=>aC p j i*(aT (aP p) g n*bA (aP p) g n (m+n) s i)) m=if j=phi m n s then aT (aP p) g n*aF (aP p) g n else 0:=by
   intro j hj;rw [hin j,decide_eq_true_eq] at hj;rw [Yl j (Wq j hj)];obtain ⟨q,hq,hqb,rfl⟩:=(qm m n g j).1 hj;rw [oC m n q hq];by_cases Eb:q=s
   ·subst Eb;rw [if_pos rfl];unfold bA;rw [if_pos rfl]
   ·rw [if_neg (fun e=>Eb (by rw [<-oC m n q hq,e,oC m n s s1])),iD (aP p) g n (m+n) s q hqb Eb];omega
  refine ⟨at',phi m n s,fun i=>aT (aP p) g n*bA (aP p) g n (m+n) s i,aT (aP p) g n*aF (aP p) g n,hr,hd,by rw [hin,decide_eq_true_eq];exact hcS,?_,Ym,hD,hown⟩;have hf:=Ym.falls;have e1:=pairs (aC p) (fun i=>aT (aP p) g n*bA (aP p) g n (m+n) s i) (fun j=>(xL p at' m (n+m))[j]?.getD 0) m (n+m);generalize hy:(fun i=>aT (aP p) g n*bA (aP p) g n (m+n) s i)=y at *;have hyv:∀i,aT (aP p) g n*bA (aP p) g n (m+n) s i=y i:=fun i=>by rw [<-hy]
  simp only [hyv] at e1 hf hown;have e2:sumN (fun i=>y i*sumN (fun j=>aC p j i*(xL p at' m (n+m))[j]?.getD 0) (n+m)) m=aF p at' m*sumN (fun i=>dw p i*y i) m:=by rw [<-az];exact ah _ _ _ fun i hi=>by rw [mQ p at' m (n+m) hr h1 h4 i hi];grind
  have e3:sumN (fun j=>sumN (fun i=>aC p j i*y i) m*(xL p at' m (n+m))[j]?.getD 0) (n+m)=aT (aP p) g n*aF (aP p) g n*(xL p at' m (n+m))[phi m n s]?.getD 0:=by
   rw [dY _ (phi m n s) (n+m) (Dq m n s s1) fun j _ hne=>?_]
   ·show sumN (fun i=>aC p (phi m n s) i*y i) m*_=_;rw [hown _ (by rw [hin,decide_eq_true_eq];exact hcS),if_pos rfl]
   ·show sumN (fun i=>aC p j i*y i) m*(xL p at' m (n+m))[j]?.getD 0=0;cases hb:gK at' m j with
    | false=>rw [yG p at' m (n+m) j hb];omega
    | true=>rw [hown j hb,if_neg hne];omega
  rw [e3,e2] at e1;have hDp:=dD p at' m hd;generalize sumN (fun i=>dw p i*y i) m=Fv at *;generalize (xL p at' m (n+m))[phi m n s]?.getD 0=x at *;generalize aT (aP p) g n*aF (aP p) g n=D at *;have h5:aT p at' m*x*D=aT p at' m*aF p at' m*Fv:=by
   have:aT p at' m*(D*x)=aT p at' m*(aF p at' m*Fv):=by rw [e1]
   grind
  have h6:=Int.mul_neg_of_pos_of_neg hDp hf;rw [<-h5] at h6;refine Int.not_le.1 fun h7=>?_;have:=Int.mul_nonneg h7 (Int.le_of_lt hD);omega
 ·rw [a4] at hx;simp only [Prod.mk.injEq] at hx;exact absurd hx.2.1 a5
theorem BB (p:Lp) (at':List Int) (m:Nat) (h1:1<=m) (h4:m<=4) (hd:aF p at' m≠0) (z:Nat->Int) (hz:∀k,k < m->sumN (fun i=>aC p (aZ at' k) i*z i) m=0) (q:Nat) (hq:q < m) : z q=0:=by
 have hc:∀i,i < m->sumN (fun k=>aC p (aZ at' k) i*(aL (aG p at' m) (dJ m q) m)[k]?.getD 0) m=aF p at' m*(if i=q then 1 else 0):=by intro i hi;have:=qc m (aG p at' m) (dJ m q) (cZ p at' m) (by unfold dJ;simp) h1 h4 i hi;unfold xe at this;rw [aX,yM m q i hi] at this;rw [show vol (aG p at' m) aI=aF p at' m from rfl] at this;rw [<-this];exact ah _ _ _ fun k hk=>by rw [aA,if_pos hk,nL p at' m k i hk hi,Int.mul_comm]
 generalize (aL (aG p at' m) (dJ m q) m)=u at *;have e1:sumN (fun i=>z i*sumN (fun k=>aC p (aZ at' k) i*u[k]?.getD 0) m) m=aF p at' m*z q:=by rw [dY _ q m hq fun i hi hne=>by show z i*_=0;rw [hc i hi,if_neg hne];omega];show z q*sumN _ m=_;rw [hc q hq,if_pos rfl];grind
 have e2:sumN (fun i=>z i*sumN (fun k=>aC p (aZ at' k) i*u[k]?.getD 0) m) m=sumN (fun k=>u[k]?.getD 0*sumN (fun i=>aC p (aZ at' k) i*z i) m) m:=by
  have a1:sumN (fun i=>z i*sumN (fun k=>aC p (aZ at' k) i*u[k]?.getD 0) m) m=sumN (fun i=>sumN (fun k=>u[k]?.getD 0*(aC p (aZ at' k) i*z i)) m) m:=ah _ _ _ fun i _=>by
   rw [<-az];exact ah _ _ _ fun k _=>by grind
  rw [a1,jh];exact ah _ _ _ fun k _=>by rw [az]
 have e3:sumN (fun k=>u[k]?.getD 0*sumN (fun i=>aC p (aZ at' k) i*z i) m) m=0:=(ah _ (fun _=>0) _ fun k hk=>by rw [hz k hk];omega).trans (bM m);rw [e2,e3] at e1;rcases Int.mul_eq_zero.1 e1.symm with h|h
 ·exact absurd h hd
 ·exact h
def bR (p:Lp) (c:Nat) : Lp:=⟨(List.range p.costs.length).map fun k=>if c < p.costs.length then (if k=c then 1 else 0) else -((p.rows[c - p.costs.length]?.getD ([],0)).1[k]?.getD 0),p.rows⟩
def dZ (p:Lp) (at':List Int) (c:Nat) : List Int :=
 if c < p.costs.length then (look (bR p c) at').y
 else (look (bR p c) at').y.set (c - p.costs.length) ((look (bR p c) at').y[c - p.costs.length]?.getD 0+(look (bR p c) at').yd)
theorem qX (p:Lp) (c:Nat) : (bR p c).costs.length=p.costs.length:=by simp [bR]
theorem Kw (p:Lp) (c j i:Nat) : aC (bR p c) j i=aC p j i:=by unfold aC;rw [qX];rfl
theorem Fy (p:Lp) (n c j:Nat) (hn:n=p.costs.length) : (bR p c).costs[j]?.getD 0=if c < n then (if j=c then 1 else 0) else (if j < n then -aC p j (c - n) else 0):=by
 show ((List.range p.costs.length).map _)[j]?.getD 0=_;rw [aA,<-hn];by_cases hj:j < n
 ·rw [if_pos hj];split
  ·rfl
  ·rw [xG p n j (c - n) hn hj]
 ·rw [if_neg hj];split
  ·rw [if_neg (by omega)]
  ·rfl
theorem Ky (p:Lp) (c:Nat) (au:p.may=true) : (bR p c).may=true:=by
 obtain ⟨h1,h2,h3,h4⟩:=p.aj au;unfold Lp.may at au ⊢;rw [qX];simp only [Bool.and_eq_true,decide_eq_true_eq] at au ⊢;refine ⟨⟨⟨⟨⟨h1.1,h1.2⟩,?_⟩,h3.1⟩,h3.2⟩,au.2⟩;unfold aB bR;rw [List.all_eq_true];intro x hx;obtain ⟨k,hk,rfl⟩:=List.mem_map.1 hx;have hk':=List.mem_range.1 hk;simp only [Bool.and_eq_true,decide_eq_true_eq];split
 ·split<;>omega
 ·have hb : -12<=(p.rows[c - p.costs.length]?.getD ([],0)).1[k]?.getD 0/\(p.rows[c - p.costs.length]?.getD ([],0)).1[k]?.getD 0<=12:=by
   by_cases hq:c - p.costs.length < p.rows.length
   ·exact aJ _ _ (p.row_of (by unfold Lp.may;simp only [Bool.and_eq_true,decide_eq_true_eq];exact au) _ hq).2.1 (by omega) k
   ·rw [List.getElem?_eq_none (l:=p.rows) (by omega)];simp
  omega
theorem Ip (p:Lp) (c:Nat) (at':List Int) (m:Nat) : aG (bR p c) at' m=aG p at' m:=by unfold aG;refine List.map_congr_left fun k _=>?_;exact List.map_congr_left fun i _=>Kw p c _ i
theorem Kz (p:Lp) (c:Nat) (at':List Int) (m:Nat) : aF (bR p c) at' m=aF p at' m:=by unfold aF;rw [Ip]
theorem MB (p:Lp) (at':List Int) (m n c:Nat) (au:p.may=true) (hm:m=p.rows.length) (hn:n=p.costs.length) (hr:aH at' m (n+m)=true) (hd:aF p at' m≠0) (hc:c < n+m) :
  (dZ p at' c).length=m/\(∀i:Nat,(dZ p at' c)[i]?.getD 0<=1073741824)/\∃e:Int,0 < e/\∀k,k < m->sumN (fun i=>aC p (aZ at' k) i*(dZ p at' c)[i]?.getD 0) m=if aZ at' k=c then e else 0:=by
 have h1:1<=m:=by have:=(p.aj au).2.2.1.1;omega
 have h4:m<=4:=by have:=(p.aj au).2.2.1.2;omega
 have vm:=Ky p c au;have vr:m=(bR p c).rows.length:=hm;have vn:n=(bR p c).costs.length:=by rw [qX];exact hn
 have hd':aF (bR p c) at' m≠0:=by rw [Kz];exact hd
 have hb:=jA (bR p c) at' m vm h1 h4;have pb:=qR (bR p c) at' m vm vr;obtain ⟨g,g0,q1,q2,q3,q4,q5,q6,q7⟩:=rF (av (bR p c) at' m) (aF (bR p c) at' m) hd' (by omega) (fun j=>by have:=pb j;omega) (by unfold av aL;simp;omega);have hy:(look (bR p c) at').y=(pt (av (bR p c) at' m) (aF (bR p c) at' m)).1/\(look (bR p c) at').yd=(pt (av (bR p c) at' m) (aF (bR p c) at' m)).2.1:=by unfold look;rw [if_neg (by simp [vm]),if_neg (by rw [<-vr,<-vn,hr];decide),if_neg (by rw [<-vr];exact hd'),<-vr];exact ⟨rfl,rfl⟩
 have hyl:(look (bR p c) at').y.length=m:=by rw [hy.1,q2];unfold av aL;simp
 have Yb:1<=(look (bR p c) at').yd/\(look (bR p c) at').yd<=497664:=by rw [hy.2];omega
 have hyb:∀i:Nat,(look (bR p c) at').y[i]?.getD 0<=796262400:=fun i=>by
  rw [hy.1];have:=q7 i;have:=pb i;omega
 have UU:∀k,k < m->sumN (fun i=>aC p (aZ at' k) i*(look (bR p c) at').y[i]?.getD 0) m=(bR p c).costs[aZ at' k]?.getD 0*(look (bR p c) at').yd:=by
  intro k hk;have hg:=j5 (bR p c) at' m n vm vr hr k hk;rw [lu (bR p c) at' m (n+m) _ vr (kR at' (n+m) m hr k hk)] at hg;refine Int.eq_of_mul_eq_mul_left g0 ?_;rw [<-az];have e1:sumN (fun i=>g*(aC p (aZ at' k) i*(look (bR p c) at').y[i]?.getD 0)) m=sumN (fun i=>aC (bR p c) (aZ at' k) i*(av (bR p c) at' m)[i]?.getD 0) m:=ah _ _ _ fun i _=>by
   rw [Kw,q3 i,hy.1];grind
  rw [e1];have e2:g*((bR p c).costs[aZ at' k]?.getD 0*(look (bR p c) at').yd)=(bR p c).costs[aZ at' k]?.getD 0*aF (bR p c) at' m:=by rw [q4,hy.2];grind
  omega
 have hpn:dZ p at' c=if c < n then (look (bR p c) at').y else (look (bR p c) at').y.set (c - n) ((look (bR p c) at').y[c - n]?.getD 0+(look (bR p c) at').yd):=by unfold dZ;rw [<-hn]
 rw [hpn];clear hpn hy q1 q2 q3 q4 q5 q6 q7;generalize (look (bR p c) at').y=y at *;generalize (look (bR p c) at').yd=yd at *;by_cases hcn:c < n
 ·rw [if_pos hcn];refine ⟨hyl,fun i=>by have:=hyb i;omega,yd,by omega,fun k hk=>?_⟩;rw [UU k hk,Fy p n c _ hn,if_pos hcn];split<;>omega
 ·rw [if_neg hcn];have hset:∀i:Nat,i < m->(y.set (c - n) (y[c - n]?.getD 0+yd))[i]?.getD 0=y[i]?.getD 0+(if i=c - n then yd else 0):=by
   intro i hi;rw [List.getElem?_set];by_cases hic:c - n=i
   ·subst hic;rw [if_pos rfl,if_pos (by omega),if_pos rfl];rfl
   ·rw [if_neg hic,if_neg (fun e=>hic e.symm)];omega
  refine ⟨by rw [List.length_set];exact hyl,fun i=>?_,yd,by omega,fun k hk=>?_⟩
  ·by_cases hi:i < m
   ·rw [hset i hi];have:=hyb i;split<;>omega
   ·rw [List.getElem?_eq_none (by rw [List.length_set];omega)];simp
  ·have e1:sumN (fun i=>aC p (aZ at' k) i*(y.set (c - n) (y[c - n]?.getD 0+yd))[i]?.getD 0) m=sumN (fun i=>aC p (aZ at' k) i*y[i]?.getD 0+aC p (aZ at' k) i*(if i=c - n then yd else 0)) m:=ah _ _ _ fun i hi=>by rw [hset i hi];grind
   have e2:sumN (fun i=>aC p (aZ at' k) i*(if i=c - n then yd else 0)) m=aC p (aZ at' k) (c - n)*yd:=by rw [dY _ (c - n) m (by omega) fun i _ hne=>by show aC p (aZ at' k) i*(if i=c - n then yd else 0)=0;rw [if_neg hne];omega];show aC p (aZ at' k) (c - n)*(if c - n=c - n then yd else 0)=_;rw [if_pos rfl]
   rw [e1,dA,e2,UU k hk,Fy p n c _ hn,if_neg hcn];generalize aZ at' k=j;by_cases hj:j < n
   ·rw [if_pos hj,if_neg (by omega)];grind
   ·obtain ⟨q,rfl⟩ : ∃q,j=n+q:=⟨j - n,by omega⟩;rw [if_neg hj,fQ p n q (c - n) hn];by_cases hq:n+q=c
    ·rw [if_pos hq,if_pos (by omega)];omega
    ·rw [if_neg hq,if_neg (by omega)];omega
def qo (p:Lp) (at':List Int) (c:Nat) : pK:=⟨3,[],0,dZ p at' c,1,[],0,0,0⟩
theorem Ar (p:Lp) (at':List Int) (m n c:Nat) (y:Nat->Int) (D:Int) (au:p.may=true) (hm:m=p.rows.length) (hn:n=p.costs.length) (h:Kv p at' m n c y D) : holds p (qo p at' c)=true:=by
 have h1:1<=m:=by have:=(p.aj au).2.2.1.1;omega
 have h4:m<=4:=by have:=(p.aj au).2.2.1.2;omega
 obtain ⟨k0,hk0,hkc⟩:=(bD at' m c).1 h.col;have hcN:c < n+m:=by rw [<-hkc];exact kR at' (n+m) m h.right k0 hk0
 obtain ⟨p1,p2,e,he,p3⟩:=MB p at' m n c au hm hn h.right h.den hcN;have Yn:∀i,i < m->y i*e=(dZ p at' c)[i]?.getD 0*D:=by
  intro i hi;have:=BB p at' m h1 h4 h.den (fun i=>y i*e - (dZ p at' c)[i]?.getD 0*D) (fun k hk=>by
   have a1:sumN (fun i=>aC p (aZ at' k) i*(y i*e - (dZ p at' c)[i]?.getD 0*D)) m=sumN (fun i=>e*(aC p (aZ at' k) i*y i)+(-D)*(aC p (aZ at' k) i*(dZ p at' c)[i]?.getD 0)) m:=ah _ _ _ fun i _=>by grind
   rw [a1,dA,az,az,p3 k hk,h.own _ ((bD at' m _).2 ⟨k,hk,rfl⟩)];split<;>grind) i hi
  have aq3:y i*e - (dZ p at' c)[i]?.getD 0*D=0:=this;omega
 rw [nu p _ au rfl];simp only [Bool.and_eq_true];refine ⟨?_,Ap p m n au hm hn y h.never (qo p at' c) rfl p1 (fun i _=>p2 i) e D he h.pos Yn⟩;exact ⟨⟨rfl,rfl⟩,rfl⟩
end Num
end Go.Proofs.YtipcbhodlgoflabGreatDoor
