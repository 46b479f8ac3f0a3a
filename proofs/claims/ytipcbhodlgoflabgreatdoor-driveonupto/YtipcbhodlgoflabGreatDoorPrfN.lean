/- What proves an answer, in plain numbers. -/
import Derived.Test.YtipcbhodlgoflabGreatDoorCornW
namespace Go.Proofs.YtipcbhodlgoflabGreatDoor
namespace Num
structure pK where
 kind:Int
 x:List Int
 xd:Int
 y:List Int
 yd:Int
 r:List Int
 rd:Int
 wn:Int
 wd:Int
def bS (l:List Int) (d:Int) : Bool:=decide (0 < l.length) || (d != 0)
def oP (wn wd:Int) : Bool:=(wn == 0) && (wd == 0)
def iI (m:Nat) (y:List Int) (yd:Int) : Bool:=(y.length == m) && dn yd y && !bO y
def lX (p:Lp) (m j:Nat) : List Int:=(List.range m).map (aC p j)
def wI (p:Lp) (m:Nat) (y:List Int) (yd:Int) (c:List Int) (j:Nat) : Bool:=decide (c[j]?.getD 0*yd<=dotN (lX p m j) y m)
def dU (p:Lp) (m:Nat) (y:List Int) (yd:Int) (c:List Int) : Bool:=iI m y yd && (List.range c.length).all (wI p m y yd c)
def dV (p:Lp) (m:Nat) (y:List Int) : Int:=dotN (bF p m) y m
def uo (p:Lp) (a:pK) : Bool:=p.goes a.x a.xd && dU p p.rows.length a.y a.yd p.costs && decide (mk (dotN p.costs a.x p.costs.length) a.xd=(a.wn,a.wd,0)) && decide (mk (dV p p.rows.length a.y) a.yd=(a.wn,a.wd,0))
def yx (r:List Int) (n:Nat) (q:List Int×Int) : Bool:=decide (dotN q.1 r n<=0)
def kC (p:Lp) (a:pK) : Bool:=p.goes a.x a.xd && (a.rd == 1) && iI p.costs.length a.r a.rd && p.rows.all (yx a.r p.costs.length) && decide (0 < dotN p.costs a.r p.costs.length)
def dI (p:Lp) (a:pK) : Bool:=(a.yd == 1) && dU p p.rows.length a.y a.yd (List.replicate p.costs.length 0) && decide (dV p p.rows.length a.y < 0)
def holds (p:Lp) (a:pK) : Bool :=
 p.may && (if a.kind=1 then !bS a.r a.rd && uo p a else if a.kind=2 then !bS a.y a.yd && oP a.wn a.wd && kC p a else if a.kind=3 then !bS a.x a.xd && !bS a.r a.rd && oP a.wn a.wd && dI p a else false)
theorem qb (p:Lp) (a:pK) (h:p.may=false) : holds p a=false:=by unfold holds;rw [h];rfl
theorem lY (p:Lp) (a:pK) (h:p.may=true) (hk:a.kind=1) : holds p a=(!bS a.r a.rd && uo p a):=by unfold holds;rw [h,if_pos hk];rfl
theorem rE (p:Lp) (a:pK) (h:p.may=true) (hk:a.kind=2) : holds p a=(!bS a.y a.yd && oP a.wn a.wd && kC p a):=by unfold holds;rw [h,if_neg (by omega),if_pos hk];rfl
theorem nu (p:Lp) (a:pK) (h:p.may=true) (hk:a.kind=3) : holds p a=(!bS a.x a.xd && !bS a.r a.rd && oP a.wn a.wd && dI p a):=by unfold holds;rw [h,if_neg (by omega),if_neg (by omega),if_pos hk];rfl
theorem holds_none (p:Lp) (a:pK) (h1:a.kind≠1) (h2:a.kind≠2) (h3:a.kind≠3) : holds p a=false:=by unfold holds;rw [if_neg h1,if_neg h2,if_neg h3];simp
theorem EU (l:List Int) (d:Int) (h:0 < l.length) : bS l d=true:=by unfold bS;simp [h]
theorem nK (p:Lp) (x:List Int) (d:Int) (h:p.goes x d=true) : p.may=true/\x.length=p.costs.length/\(1<=d/\d<=1073741824)/\aB 1073741824 x=true/\bO x=false/\p.rows.all (xz x d)=true:=by unfold Lp.goes at h;simp only [Bool.and_eq_true,Bool.not_eq_true'] at h;obtain ⟨⟨h1,h2⟩,h3⟩:=h;obtain ⟨a,b,c,e⟩:=p.JR x d h1;exact ⟨a,b,c,e,h2,h3⟩
theorem kD (m:Nat) (y:List Int) (yd:Int) (h:iI m y yd=true) : y.length=m/\(1<=yd/\yd<=1073741824)/\aB 1073741824 y=true/\bO y=false/\dn yd y=true:=by unfold iI at h;simp only [Bool.and_eq_true,beq_iff_eq,Bool.not_eq_true'] at h;obtain ⟨⟨h1,h2⟩,h3⟩:=h;have h2':=h2;unfold dn at h2;simp only [Bool.and_eq_true] at h2;obtain ⟨a,b,c,_⟩:=fw _ _ h2.1;exact ⟨h1,⟨a,b⟩,c,h3,h2'⟩
theorem lH (p:Lp) (m:Nat) (y:List Int) (yd:Int) (c:List Int) (h:dU p m y yd c=true) : iI m y yd=true/\∀j,j < c.length->c[j]?.getD 0*yd<=dotN (lX p m j) y m:=by unfold dU at h;simp only [Bool.and_eq_true,List.all_eq_true] at h;refine ⟨h.1,fun j hj=>?_⟩;have:=h.2 j (by simpa using hj);unfold wI at this;simpa using this
theorem uq (n d u v:Int) (h:mk n d=(u,v,0)) : u*d=n*v/\1<=v/\v<=1073741824/\-1073741824<=u/\u<=1073741824/\bZ v [u]=true/\d≠0:=by
 by_cases h0:(low d [n]).2=0
 ·obtain ⟨_,hd,hb,hw,_,hf⟩:=G7 d [n] h0;rw [aW] at hw;simp only [Bool.and_eq_true,decide_eq_true_eq] at hw;obtain ⟨x,y,hxy,h1,h2,h3,h4,h5,h6⟩:=JQ d n hd hb hw hf;rw [hxy] at h;simp only [Prod.mk.injEq,and_true] at h;obtain ⟨rfl,rfl⟩:=h;exact ⟨h1,h2,h3,h4,h5,h6,hd⟩
 ·unfold mk at h;rw [if_neg h0] at h;simp only [Prod.mk.injEq] at h;exact absurd h.2.2 h0
theorem Al (p:Lp) (hm:p.may=true) (a:pK) (h:dI p a=true) : bS a.y a.yd=true:=by unfold dI at h;simp only [Bool.and_eq_true] at h;obtain ⟨⟨_,h2⟩,_⟩:=h;obtain ⟨k1,_⟩:=lH _ _ _ _ _ h2;obtain ⟨l1,_⟩:=kD _ _ _ k1;have m2:=(p.aj hm).2.2.1;exact EU _ _ (by omega)
def level (p:Lp) : Lp:=⟨p.costs,p.rows.map fun q=>(q.1,0)⟩
def sumN (f:Nat->Int) : Nat->Int
 | 0=>0
 | k+1=>sumN f k+f k
theorem ah (f g:Nat->Int) (n:Nat) (h:∀i,i < n->f i=g i) : sumN f n=sumN g n:=by
 induction n with
 | zero=>rfl
 | succ n ih=>unfold sumN;rw [ih fun i hi=>h i (by omega),h n (by omega)]
theorem uu (f g:Nat->Int) (n:Nat) (h:∀i,i < n->f i<=g i) : sumN f n<=sumN g n:=by
 induction n with
 | zero=>exact Int.le_refl _
 | succ n ih =>unfold sumN;have:=ih fun i hi=>h i (by omega);have:=h n (by omega);omega
theorem az (c:Int) (f:Nat->Int) (n:Nat) : sumN (fun i=>c*f i) n=c*sumN f n:=by
 induction n with
 | zero=>simp [sumN]
 | succ n ih=>unfold sumN;rw [ih,Int.mul_add]
theorem dA (f g:Nat->Int) (n:Nat) : sumN (fun i=>f i+g i) n=sumN f n+sumN g n:=by
 induction n with
 | zero=>rfl
 | succ n ih=>unfold sumN;rw [ih];omega
theorem bM (n:Nat) : sumN (fun _=>0) n=0:=by
 induction n with
 | zero=>rfl
 | succ n ih=>unfold sumN;rw [ih];rfl
theorem jh (f:Nat->Nat->Int) (m n:Nat) : sumN (fun i=>sumN (fun j=>f i j) n) m=sumN (fun j=>sumN (fun i=>f i j) m) n:=by
 induction m with
 | zero=>exact (bM n).symm
 | succ m ih =>show sumN (fun i=>sumN (fun j=>f i j) n) m+sumN (fun j=>f m j) n=sumN (fun j=>sumN (fun i=>f i j) m+f m j) n;rw [ih,dA]
theorem aX (l y:List Int) (k:Nat) : dotN l y k=sumN (fun i=>l[i]?.getD 0*y[i]?.getD 0) k:=by
 induction k with
 | zero=>rfl
 | succ k ih=>unfold dotN sumN;rw [ih]
theorem not_neg (l:List Int) (h:bO l=false) (j:Nat) : 0<=l[j]?.getD 0:=by
 unfold bO at h;rw [List.any_eq_false] at h;by_cases hj:j < l.length
 ·rw [List.getElem?_eq_getElem hj,Option.getD_some];have:=h _ (List.getElem_mem hj);simpa using this
 ·rw [List.getElem?_eq_none (by omega)];exact Int.le_refl _
theorem weak (p:Lp) (c y z:List Int) (m n:Nat) (yd zd:Int) (hn:n=p.costs.length) (hy:∀i:Nat,0<=y[i]?.getD 0) (hz:∀j:Nat,0<=z[j]?.getD 0)
  (ae1:∀j,j < n->c[j]?.getD 0*yd<=dotN (lX p m j) y m) (hrow:∀i,i < m->dotN (p.rows[i]?.getD ([],0)).1 z n<=(p.rows[i]?.getD ([],0)).2*zd) :
  dotN c z n*yd<=dV p m y*zd:=by
 have e1:dotN c z n*yd=sumN (fun j=>z[j]?.getD 0*(c[j]?.getD 0*yd)) n:=by rw [aX,Int.mul_comm,<-az];exact ah _ _ _ fun j _=>by rw [Int.mul_comm yd,Int.mul_comm (c[j]?.getD 0) (z[j]?.getD 0),Int.mul_assoc]
 have e2:sumN (fun j=>z[j]?.getD 0*(c[j]?.getD 0*yd)) n<=sumN (fun j=>z[j]?.getD 0*dotN (lX p m j) y m) n :=
  uu _ _ _ fun j hj=>Int.mul_le_mul_of_nonneg_left (ae1 j hj) (hz j)
 have e3:sumN (fun j=>z[j]?.getD 0*dotN (lX p m j) y m) n=sumN (fun i=>y[i]?.getD 0*dotN (p.rows[i]?.getD ([],0)).1 z n) m:=by
  have a1:sumN (fun j=>z[j]?.getD 0*dotN (lX p m j) y m) n=sumN (fun j=>sumN (fun i=>y[i]?.getD 0*((p.rows[i]?.getD ([],0)).1[j]?.getD 0*z[j]?.getD 0)) m) n:=by
   refine ah _ _ _ fun j hj=>?_;rw [aX,<-az];refine ah _ _ _ fun i hi=>?_;have:(lX p m j)[i]?.getD 0=(p.rows[i]?.getD ([],0)).1[j]?.getD 0:=by unfold lX;rw [aA,if_pos hi];exact CR p j i _ rfl (by omega)
   rw [this,Int.mul_comm ((p.rows[i]?.getD ([],0)).1[j]?.getD 0) (y[i]?.getD 0),Int.mul_left_comm,Int.mul_comm (z[j]?.getD 0)]
  rw [a1,<-jh];refine ah _ _ _ fun i _=>?_;rw [az,aX]
 have e4:sumN (fun i=>y[i]?.getD 0*dotN (p.rows[i]?.getD ([],0)).1 z n) m<=sumN (fun i=>y[i]?.getD 0*((p.rows[i]?.getD ([],0)).2*zd)) m :=
  uu _ _ _ fun i hi=>Int.mul_le_mul_of_nonneg_left (hrow i hi) (hy i)
 have e5:sumN (fun i=>y[i]?.getD 0*((p.rows[i]?.getD ([],0)).2*zd)) m=dV p m y*zd:=by
  unfold dV;rw [aX,Int.mul_comm _ zd,<-az];refine ah _ _ _ fun i hi=>?_;have:(bF p m)[i]?.getD 0=(p.rows[i]?.getD ([],0)).2:=by unfold bF;rw [aA,if_pos hi];rfl
  rw [this];simp only [Int.mul_comm,Int.mul_left_comm]
 omega
theorem vz (p:Lp) (z:List Int) (zd:Int) (h:p.goes z zd=true) (i:Nat) (hi:i < p.rows.length) : dotN (p.rows[i]?.getD ([],0)).1 z p.costs.length<=(p.rows[i]?.getD ([],0)).2*zd:=by obtain ⟨_,hl,_,_,_,hr⟩:=nK p z zd h;rw [List.all_eq_true] at hr;have:=hr _ (List.getElem_mem hi);rw [List.getElem?_eq_getElem hi,Option.getD_some];unfold xz at this;rw [hl] at this;simpa using this
theorem Kj (p:Lp) (a:pK) (h:uo p a=true) (z:List Int) (zd:Int) (hg:p.goes z zd=true) (u v e:Int) (hm:mk (dotN p.costs z p.costs.length) zd=(u,v,e)) :
  e=1\/(e=0/\u*a.wd - a.wn*v<=0/\(-1073741824<=u/\u<=1073741824)/\(-1073741824<=v/\v<=1073741824)/\(-1073741824<=a.wn/\a.wn<=1073741824)/\(-1073741824<=a.wd/\a.wd<=1073741824)):=by
 unfold uo at h;simp only [Bool.and_eq_true,decide_eq_true_eq] at h;obtain ⟨⟨⟨_,h2⟩,_⟩,h4⟩:=h;obtain ⟨k1,k2⟩:=lH _ _ _ _ _ h2;obtain ⟨_,Yb,_,hy,_⟩:=kD _ _ _ k1;obtain ⟨au,_,hd,hzw,hz,_⟩:=nK p z zd hg;have hw:=weak p p.costs a.y z p.rows.length p.costs.length a.yd zd rfl (not_neg _ hy) (not_neg _ hz) k2 (vz p z zd hg);obtain ⟨s1,s2,s3,s4,s5,_,_⟩:=uq _ _ _ _ h4;have hb:=jq p.costs z 400 1073741824 (aJ _ _ (p.aj au).2.1 (by omega)) (aJ _ _ hzw (by omega)) p.costs.length;have hc4:=(p.aj au).1.2;cases hf:fK 1073741824 zd [dotN p.costs z p.costs.length] with
 | false =>rw [VE zd _ (by omega) (by omega) (by omega) hf] at hm;simp only [Prod.mk.injEq] at hm;exact Or.inl hm.2.2.symm
 | true =>
  obtain ⟨x,y,hxy,t1,t2,t3,t4,t5,_⟩:=JQ zd _ (by omega) (by omega) (by omega) hf;rw [hxy] at hm;simp only [Prod.mk.injEq] at hm;obtain ⟨rfl,rfl,rfl⟩:=hm;refine Or.inr ⟨rfl,?_,by omega,by omega,by omega,by omega⟩;generalize dotN p.costs z p.costs.length=D at *;generalize dV p p.rows.length a.y=P at *;have g1:(x*a.wd)*(zd*a.yd)=(D*a.yd)*(y*a.wd):=by
   have:(x*a.wd)*(zd*a.yd)=(x*zd)*(a.wd*a.yd):=by simp only [Int.mul_comm,Int.mul_left_comm]
   rw [this,t1];simp only [Int.mul_comm,Int.mul_left_comm]
  have g2:(a.wn*y)*(zd*a.yd)=(P*zd)*(y*a.wd):=by
   have:(a.wn*y)*(zd*a.yd)=(a.wn*a.yd)*(y*zd):=by simp only [Int.mul_comm,Int.mul_left_comm]
   rw [this,s1];simp only [Int.mul_comm,Int.mul_left_comm]
  have g3:(D*a.yd)*(y*a.wd)<=(P*zd)*(y*a.wd):=Int.mul_le_mul_of_nonneg_right hw (Int.mul_nonneg (by omega) (by omega));have g4:(x*a.wd)*(zd*a.yd)<=(a.wn*y)*(zd*a.yd):=by rw [g1,g2];exact g3
  have g5:0 < zd*a.yd:=Int.mul_pos (by omega) (by omega);have:=Int.le_of_mul_le_mul_right g4 g5;omega
theorem yz (p:Lp) (a:pK) (h:kC p a=true) : a.x.length=p.costs.length/\a.r.length=p.costs.length/\(1<=a.xd/\a.xd<=1073741824)/\(∀j:Nat,0<=a.x[j]?.getD 0)/\(∀j:Nat,0<=a.r[j]?.getD 0)/\
  (∀j:Nat,a.x[j]?.getD 0<=1073741824)/\(∀j:Nat,a.r[j]?.getD 0<=1073741824)/\(∀i,i < p.rows.length->dotN (p.rows[i]?.getD ([],0)).1 a.x p.costs.length<=(p.rows[i]?.getD ([],0)).2*a.xd)/\
  (∀i,i < p.rows.length->dotN (p.rows[i]?.getD ([],0)).1 a.r p.costs.length<=0)/\0 < dotN p.costs a.r p.costs.length:=by
 unfold kC at h;simp only [Bool.and_eq_true,decide_eq_true_eq,beq_iff_eq] at h;obtain ⟨⟨⟨⟨h1,_⟩,h3⟩,h4⟩,h5⟩:=h;obtain ⟨_,g2,g3,g4,g5,_⟩:=nK p _ _ h1;obtain ⟨l1,_,l3,l4,_⟩:=kD _ _ _ h3;refine ⟨g2,l1,g3,not_neg _ g5,not_neg _ l4,fun j=>(aJ _ _ g4 (by omega) j).2,fun j=>(aJ _ _ l3 (by omega) j).2,vz p _ _ h1,fun i hi=>?_,h5⟩;rw [List.all_eq_true] at h4;have:=h4 _ (List.getElem_mem hi);rw [List.getElem?_eq_getElem hi,Option.getD_some];unfold yx at this;simpa using this
end Num
end Go.Proofs.YtipcbhodlgoflabGreatDoor
