/- Spans in plain numbers: where a number, and t times another one, are 0 or above, of several at once. -/
import Derived.Test.YtipcbhodlgoflabGreatDoorPlnA
namespace Go.Proofs.YtipcbhodlgoflabGreatDoor
namespace Num
theorem KJ (n d:Int) (h:bZ d [n]=true) : mk n d=(n,d,0):=by
 obtain ⟨h1,h2,h3,h4⟩:=fw d [n] h;rw [aW] at h3;simp only [Bool.and_eq_true,decide_eq_true_eq] at h3;have hby:bX d [n]=1:=by unfold bX;rw [if_neg (by omega),h4];rfl
 have hf:fK 1073741824 d [n]=true:=by unfold fK;rw [hby];simp only [List.map_cons,List.map_nil,Int.tdiv_one,aW,Bool.and_eq_true,decide_eq_true_eq];omega
 rw [AQ d n (by omega) (by omega) (by omega),hf,hby];simp
theorem yP (n d n' d':Int) (h:bZ d [n]=true) (h':bZ d' [n']=true) (e:n*d'=n'*d) : n=n'/\d=d':=by obtain ⟨a1,a2,a3,_⟩:=fw d [n] h;obtain ⟨b1,b2,b3,_⟩:=fw d' [n'] h';rw [aW] at a3 b3;simp only [Bool.and_eq_true,decide_eq_true_eq] at a3 b3;have:=xI n d n' d' e (by omega) (by omega) (by omega) (by omega) (by omega) (by omega);rw [KJ n d h,KJ n' d' h'] at this;simp only [Prod.mk.injEq,and_true] at this;exact this
theorem yQ (u v:Int) (hv:v≠0) (h1 : -1073741824<=u/\u<=1073741824) (h2 : -1073741824<=v/\v<=1073741824) : fK 1073741824 v [u]=true:=by
 obtain ⟨g,g0,q1,q2,q3,q4,q5,q6,q7⟩:=rF [u] v hv h2 (fun j=>by
  match j with
  | 0=>simpa using h1
  | j+1=>simp) (by simp)
 cases hf:fK 1073741824 v [u] with
 | true=>rfl
 | false =>
  exfalso;have hm:mk u v=(0,0,1):=by rw [AQ v u hv (by omega) (by omega),hf];rfl
  have:=(rT u v 0 0 1 hm (by omega)).1;rw [this] at q1;simp at q1
theorem Ws (a b u v:Int) (hb:b≠0) (hv:v≠0) (h1 : -1073741824<=u/\u<=1073741824) (h2 : -1073741824<=v/\v<=1073741824) (ha : -4611686018427387904<=a/\a<=4611686018427387904) (hbb : -4611686018427387904<=b/\b<=4611686018427387904) (e:u*b=a*v) :
  ∃x y,mk a b=(x,y,0)/\x*b=a*y/\1<=y/\bZ y [x]=true:=by
 have hs:=xI a b u v e.symm hb hv hbb (by omega) ha (by omega);obtain ⟨x,y,e1,e2,e3,_,_,_,e7⟩:=JQ v u hv (by omega) (by omega) (yQ u v hv h1 h2);refine ⟨x,y,by rw [hs,e1],?_,e3,e7⟩;refine Int.eq_of_mul_eq_mul_left hv ?_;have k1:v*(x*b)=x*v*b:=by grind
 have k2:v*(a*y)=a*v*y:=by grind
 rw [k1,k2,e2,<-e];grind
def yR (a b:Nat->Int) (N:Nat) (o:Bool) (n d:Int) : Prop :=
 (o=true/\n=0/\d=0/\∀j,j < N->b j<=0)\/(o=false/\bZ d [n]=true/\(∀j,j < N->0 < b j->0<=a j*d+n*b j)/\∃j,j < N/\0 < b j/\a j*d+n*b j=0)
def yS (a b:Nat->Int) (N:Nat) (o:Bool) (n d:Int) : Prop :=
 (o=true/\n=0/\d=0/\∀j,j < N->0<=b j)\/(o=false/\bZ d [n]=true/\(∀j,j < N->b j < 0->0<=a j*d+n*b j)/\∃j,j < N/\b j < 0/\a j*d+n*b j=0)
def Dr (a b:Nat->Int) (N:Nat) : Prop:=∃j,j < N/\b j=0/\a j < 0
theorem dK (d n:Int) (h:bZ d [n]=true) : 0 < d:=by have:=(fw d [n] h).1;omega
theorem xJ (a b n d k e:Int) (hz:a*d+n*b=0) : d*(a*e+k*b)=(k*d - n*e)*b:=by
 have:a*d=-(n*b):=by omega
 have h2:d*(a*e+k*b)=a*d*e+k*d*b:=by grind
 rw [h2,this];grind
theorem UW (a b:Nat->Int) (N:Nat) (o:Bool) (n d:Int) (h:yR a b N o n d) (k e:Int) (he:0 < e) : (o=true\/n*e<=k*d)<->∀j,j < N->0 < b j->0<=a j*e+k*b j:=by
 rcases h with ⟨h1,_,_,h4⟩|⟨h1,h2,h3,j0,hj0,hb0,hz⟩
 ·exact ⟨fun _ j hj hb=>by have:=h4 j hj;omega,fun _=>Or.inl h1⟩
 ·have hd:=dK d n h2;constructor
  ·intro h j hj hb;have hle:n*e<=k*d:=by
    rcases h with h|h
    ·rw [h1] at h;cases h
    ·exact h
   have h5:=h3 j hj hb;have e1:d*(a j*e+k*b j)=e*(a j*d+n*b j)+(k*d - n*e)*b j:=by grind
   have p1:=Int.mul_nonneg (Int.le_of_lt he) h5;have p2:=Int.mul_nonneg (show 0<=k*d - n*e by omega) (Int.le_of_lt hb);exact (bE d _ hd).1 (by rw [e1];omega)
  ·intro h;refine Or.inr ?_;have h5:=h j0 hj0 hb0;have e1:=xJ (a j0) (b j0) n d k e hz;have p1:=Int.mul_nonneg (Int.le_of_lt hd) h5;rw [e1,Int.mul_comm] at p1;have:=(bE (b j0) _ hb0).1 p1;omega
theorem UX (a b:Nat->Int) (N:Nat) (o:Bool) (n d:Int) (h:yS a b N o n d) (k e:Int) (he:0 < e) : (o=true\/k*d<=n*e)<->∀j,j < N->b j < 0->0<=a j*e+k*b j:=by
 rcases h with ⟨h1,_,_,h4⟩|⟨h1,h2,h3,j0,hj0,hb0,hz⟩
 ·exact ⟨fun _ j hj hb=>by have:=h4 j hj;omega,fun _=>Or.inl h1⟩
 ·have hd:=dK d n h2;constructor
  ·intro h j hj hb;have hle:k*d<=n*e:=by
    rcases h with h|h
    ·rw [h1] at h;cases h
    ·exact h
   have h5:=h3 j hj hb;have e1:d*(a j*e+k*b j)=e*(a j*d+n*b j)+(n*e - k*d) * -(b j):=by grind
   have p1:=Int.mul_nonneg (Int.le_of_lt he) h5;have p2:=Int.mul_nonneg (show 0<=n*e - k*d by omega) (show 0<=-(b j) by omega);exact (bE d _ hd).1 (by rw [e1];omega)
  ·intro h;refine Or.inr ?_;have h5:=h j0 hj0 hb0;have e1:=xJ (a j0) (b j0) n d k e hz;have p1:=Int.mul_nonneg (Int.le_of_lt hd) h5;have e2:(k*d - n*e)*b j0=-(b j0)*(n*e - k*d):=by grind
   rw [e1,e2] at p1;have:=(bE (-(b j0)) _ (by omega)).1 p1;omega
theorem Tz (a b:Nat->Int) (N:Nat) (o o':Bool) (n d n' d':Int) (hl:yR a b N o n d) (hh:yS a b N o' n' d') (k e:Int) (he:0 < e) :
  (∀j,j < N->0<=a j*e+k*b j)<->(¬ Dr a b N/\(o=true\/n*e<=k*d)/\(o'=true\/k*d'<=n'*e)):=by
 rw [UW a b N o n d hl k e he,UX a b N o' n' d' hh k e he];constructor
 ·refine fun h=>⟨?_,fun j hj _=>h j hj,fun j hj _=>h j hj⟩;rintro ⟨j,hj,hb,ha⟩;have:=h j hj;rw [hb] at this;have h2:=Int.mul_neg_of_neg_of_pos ha he;omega
 ·rintro ⟨h1,h2,h3⟩ j hj;rcases Int.lt_trichotomy (b j) 0 with hb|hb|hb
  ·exact h3 j hj hb
  ·have ha:0<=a j:=Int.not_lt.1 fun h=>h1 ⟨j,hj,hb,h⟩;have:=Int.mul_nonneg ha (Int.le_of_lt he);rw [hb];omega
  ·exact h2 j hj hb
theorem MC (o o':Bool) (n d n' d':Int) (hd:0 < d) (hd':0 < d') (hlt:n'*d < n*d') (ho:o=false) (ho':o'=false) (k e:Int) (he:0 < e) : ¬ ((o=true\/n*e<=k*d)/\(o'=true\/k*d'<=n'*e)):=by
 rintro ⟨h1,h2⟩;have h3:n*e<=k*d:=h1.resolve_left (by rw [ho];decide);have h4:k*d'<=n'*e:=h2.resolve_left (by rw [ho'];decide);have p1:=Int.mul_le_mul_of_nonneg_right h3 (Int.le_of_lt hd');have p2:=Int.mul_le_mul_of_nonneg_right h4 (Int.le_of_lt hd);have p3:=Int.mul_lt_mul_of_pos_right hlt he;have e1:k*d*d'=k*d'*d:=by grind
 have e2:n*e*d'=n*d'*e:=by grind
 have e3:n'*e*d=n'*d*e:=by grind
 omega
theorem TA (a b:Nat->Int) : yR a b 0 true 0 0:=Or.inl ⟨rfl,rfl,rfl,fun j hj=>by omega⟩
theorem TB (a b:Nat->Int) : yS a b 0 true 0 0:=Or.inl ⟨rfl,rfl,rfl,fun j hj=>by omega⟩
theorem Dt (a b:Nat->Int) (N:Nat) (o:Bool) (n d:Int) (h:yR a b N o n d) (hb:b N<=0) : yR a b (N+1) o n d:=by
 rcases h with ⟨h1,h2,h3,h4⟩|⟨h1,h2,h3,j0,hj0,hb0,hz⟩
 ·refine Or.inl ⟨h1,h2,h3,fun j hj=>?_⟩;by_cases CU:j=N
  ·subst CU;exact hb
  ·exact h4 j (by omega)
 ·refine Or.inr ⟨h1,h2,fun j hj hp=>?_,j0,by omega,hb0,hz⟩;by_cases CU:j=N
  ·subst CU;omega
  ·exact h3 j (by omega) hp
theorem Du (a b:Nat->Int) (N:Nat) (o:Bool) (n d:Int) (h:yS a b N o n d) (hb:0<=b N) : yS a b (N+1) o n d:=by
 rcases h with ⟨h1,h2,h3,h4⟩|⟨h1,h2,h3,j0,hj0,hb0,hz⟩
 ·refine Or.inl ⟨h1,h2,h3,fun j hj=>?_⟩;by_cases CU:j=N
  ·subst CU;exact hb
  ·exact h4 j (by omega)
 ·refine Or.inr ⟨h1,h2,fun j hj hp=>?_,j0,by omega,hb0,hz⟩;by_cases CU:j=N
  ·subst CU;omega
  ·exact h3 j (by omega) hp
theorem TC (a b:Nat->Int) (N:Nat) (o:Bool) (n d:Int) (h:yR a b N o n d) (hb:0 < b N) (x y:Int) (hm:bZ y [x]=true) (hx:a N*y+x*b N=0) (hc:o=true\/n*y<=x*d) : yR a b (N+1) false x y:=by
 have hy:=dK y x hm;refine Or.inr ⟨rfl,hm,fun j hj hp=>?_,N,by omega,hb,hx⟩;by_cases CU:j=N
 ·subst CU;omega
 ·exact (UW a b N o n d h x y hy).1 hc j (by omega) hp
theorem TD (a b:Nat->Int) (N:Nat) (o:Bool) (n d:Int) (h:yS a b N o n d) (hb:b N < 0) (x y:Int) (hm:bZ y [x]=true) (hx:a N*y+x*b N=0) (hc:o=true\/x*d<=n*y) : yS a b (N+1) false x y:=by
 have hy:=dK y x hm;refine Or.inr ⟨rfl,hm,fun j hj hp=>?_,N,by omega,hb,hx⟩;by_cases CU:j=N
 ·subst CU;omega
 ·exact (UX a b N o n d h x y hy).1 hc j (by omega) hp
theorem TE (a b:Nat->Int) (N:Nat) (n d:Int) (h:yR a b N false n d) (hb:0 < b N) (x y:Int) (hy:0 < y) (hx:a N*y+x*b N=0) (hc:x*d<=n*y) : yR a b (N+1) false n d:=by
 rcases h with ⟨h1,_⟩|⟨h1,h2,h3,j0,hj0,hb0,hz⟩
 ·cases h1
 ·have hd:=dK d n h2;refine Or.inr ⟨rfl,h2,fun j hj hp=>?_,j0,by omega,hb0,hz⟩;by_cases CU:j=N
  ·subst CU;have e1:=xJ (a j) (b j) x y n d hx;have p1:=Int.mul_nonneg (show 0<=n*y - x*d by omega) (Int.le_of_lt hp);exact (bE y _ hy).1 (by rw [e1];exact p1)
  ·exact h3 j (by omega) hp
theorem TF (a b:Nat->Int) (N:Nat) (n d:Int) (h:yS a b N false n d) (hb:b N < 0) (x y:Int) (hy:0 < y) (hx:a N*y+x*b N=0) (hc:n*y<=x*d) : yS a b (N+1) false n d:=by
 rcases h with ⟨h1,_⟩|⟨h1,h2,h3,j0,hj0,hb0,hz⟩
 ·cases h1
 ·refine Or.inr ⟨rfl,h2,fun j hj hp=>?_,j0,by omega,hb0,hz⟩;by_cases CU:j=N
  ·subst CU;have e1:=xJ (a j) (b j) x y n d hx;have e2:(n*y - x*d)*b j=(x*d - n*y) * -(b j):=by grind
   have p1:=Int.mul_nonneg (show 0<=x*d - n*y by omega) (show 0<=-(b j) by omega);exact (bE y _ hy).1 (by rw [e1,e2];exact p1)
  ·exact h3 j (by omega) hp
def Alike (a b a' b':Int) : Prop:=∃k l:Int,0 < k/\0 < l/\l*a'=k*a/\l*b'=k*b
theorem ME (a b a' b' x y:Int) (h:Alike a b a' b') : ∃k l:Int,0 < k/\0 < l/\l*(a'*x+y*b')=k*(a*x+y*b):=by
 obtain ⟨k,l,h1,h2,h3,h4⟩:=h;refine ⟨k,l,h1,h2,?_⟩;have e1:l*(a'*x+y*b')=l*a'*x+y*(l*b'):=by grind
 rw [e1,h3,h4];grind
theorem MF (a b a' b':Int) (h:Alike a b a' b') : (0 < b'<->0 < b)/\(b' < 0<->b < 0)/\(b'=0<->b=0)/\(a' < 0<->a < 0):=by
 obtain ⟨k,l,h1,h2,h3,h4⟩:=h;have P:∀u v:Int,l*u=k*v->(0 < u<->0 < v):=fun u v e=>by rw [<-gu l u h2,e,gu k v h1]
 have M:∀u v:Int,l*u=k*v->(u < 0<->v < 0):=fun u v e=>by
  have:=P (-u) (-v) (by rw [Int.mul_neg,Int.mul_neg,e]);omega
 have p1:=P b' b h4;have p2:=M b' b h4;exact ⟨p1,p2,by omega,M a' a h3⟩
theorem gG (p:Lp) (at':List Int) (m n:Nat) (h1:1<=m) (h4:m<=4) (hm:m=p.rows.length) (hr:aH at' m (n+m)=true) (k:Nat) (hk:k < m) : (aO p at' m (n+m))[aZ at' k]?.getD 0=0:=by
 have O7:=Ki _ m (cZ p at' m);have hc:=qc m (bP (aG p at' m)) (bI p at' m) O7 (by simp [bI]) h1 h4 k hk;rw [yA m _ (cZ p at' m) h1 h4] at hc;have e0:(bI p at' m)[k]?.getD 0=p.costs[aZ at' k]?.getD 0:=by unfold bI;rw [aA,if_pos hk]
 rw [e0] at hc;unfold aO;rw [aA,if_pos (kR at' (n+m) m hr k hk)];unfold bV;rw [<-hm];have e1:dotN ((List.range m).map (aC p (aZ at' k))) (av p at' m) m=xe (bP (aG p at' m)) (bI p at' m) m k:=by unfold xe;rw [aX,aX];refine ah _ _ _ fun i hi=>?_;rw [aA,if_pos hi,aA,if_pos hi,Int.mul_comm];congr 1;rw [<-Bo];exact (yw (fun i k=>aC p (aZ at' k) i) m i k hi hk).symm
 rw [e1,hc];show p.costs[aZ at' k]?.getD 0*vol (aG p at' m) aI - vol (aG p at' m) aI*p.costs[aZ at' k]?.getD 0=0;rw [Int.mul_comm];omega
theorem fe.UY {p:Lp} {at' dO:List Int} {m n s k:Nat} (h:fe p at' dO m (n+m) s k) (h1:1<=m) (h4:m<=4) (hm:m=p.rows.length) : gK at' m s=false:=by
 cases hb:gK at' m s with
 | false=>rfl
 | true =>obtain ⟨i,hi,hs⟩:=(bD at' m s).1 hb;have:=gG p at' m n h1 h4 hm h.right i hi;have h2:=h.sg;rw [<-hs,this] at h2;omega
theorem Iq (p:Lp) (m n:Nat) (h1:1<=m) (h4:m<=4) (hm:m=p.rows.length) (ats:Nat->List Int) (ss ks:Nat->Nat) (K:Nat) (hx:∀q j:Nat,q<=K->0<=aT p (ats q) m*(xL p (ats q) m (n+m))[j]?.getD 0) (hd:∀q,q<=K->aF p (ats q) m≠0)
  (h:∀q,q < K->fe p (ats q) (ats (q+1)) m (n+m) (ss q) (ks q)) :
  Steps (n+m) m (fun j=>p.costs[j]?.getD 0) (fun i j=>aC p j i) (fun q j=>gK (ats q) m j) (fun q j=>aT p (ats q) m*(xL p (ats q) m (n+m))[j]?.getD 0) (fun q=>aT p (ats q) m*aF p (ats q) m)
   (fun q j=>aT p (ats q) m*(aO p (ats q) m (n+m))[j]?.getD 0) (fun q=>aT p (ats q) m*aF p (ats q) m) (fun q i=>aT p (ats q) m*(av p (ats q) m)[i]?.getD 0)
   (fun q j=>aT p (ats q) m*bA p (ats q) m (n+m) (ss q) j) ss (fun q=>aZ (ats q) (ks q)) K:=by
 have hso:∀q,q < K->gK (ats q) m (ss q)=false:=fun q hq=>(h q hq).UY h1 h4 hm;have hdo:∀q,q < K->bA p (ats q) m (n+m) (ss q) (aZ (ats q) (ks q))=-(cu p (ats q) m (ss q))[ks q]?.getD 0:=fun q hq=>lZ p (ats q) m (n+m) (ss q) (ks q) (h q hq).right (h q hq).km (hso q hq);refine ⟨fun q hq=>dD p _ m (hd q hq),fun q hq=>dD p _ m (hd q (by omega)),fun q j hq=>hx q j hq,?_,?_,?_,?_,?_,fun q hq=>(h q hq).sN,fun q hq=>(h q hq).sg,fun q j hq hj=>(h q hq).sl j hj,fun q hq=>kR _ _ m (h q hq).right _ (h q hq).km,fun q hq=>(bD _ _ _).2 ⟨_,(h q hq).km,rfl⟩,?_,?_,fun q j hq=>(h q hq).Xr j,?_⟩
 ·intro q j hq hb;obtain ⟨i,hi,rfl⟩:=(bD _ _ _).1 hb;show aT p (ats q) m*_=0;rw [gG p (ats q) m n h1 h4 hm (h q hq).right i hi];omega
 ·intro q j hq hj;show aT p (ats q) m*_=_;unfold aO;rw [aA,if_pos hj];unfold bV;rw [<-hm,aX];have e:sumN (fun i=>aT p (ats q) m*(av p (ats q) m)[i]?.getD 0*aC p j i) m=aT p (ats q) m*sumN (fun i=>((List.range m).map (aC p j))[i]?.getD 0*(av p (ats q) m)[i]?.getD 0) m:=by rw [<-az];refine ah _ _ _ fun i hi=>?_;rw [aA,if_pos hi];grind
  rw [e];grind
 ·intro q i hq hi;have e:sumN (fun j=>aC p j i*(aT p (ats q) m*bA p (ats q) m (n+m) (ss q) j)) (n+m)=aT p (ats q) m*sumN (fun j=>aC p j i*bA p (ats q) m (n+m) (ss q) j) (n+m):=by rw [<-az];exact ah _ _ _ fun j _=>by grind
  show sumN (fun j=>aC p j i*(aT p (ats q) m*bA p (ats q) m (n+m) (ss q) j)) (n+m)=0;rw [e,ji p (ats q) m (n+m) (ss q) (h q hq).right h1 h4 (h q hq).sN (hso q hq) i hi];omega
 ·intro q j hq hb hne;show aT p (ats q) m*_=0;rw [iD p (ats q) m (n+m) (ss q) j hb hne];omega
 ·intro q hq;show 0 < aT p (ats q) m*bA p (ats q) m (n+m) (ss q) (ss q);unfold bA;rw [if_pos rfl];exact dD p _ m (hd q (by omega))
 ·intro q hq;show aT p (ats q) m*bA p (ats q) m (n+m) (ss q) (aZ (ats q) (ks q)) < 0;rw [hdo q hq];have:=(h q hq).falls;rw [Int.mul_neg];omega
 ·intro q j hq hb hdn he;obtain ⟨l,hl,rfl⟩:=(bD _ _ _).1 hb;have hdl:=lZ p (ats q) m (n+m) (ss q) l (h q hq).right hl (hso q hq);rw [hdl] at hdn he;rw [hdo q hq] at he;rw [Int.mul_neg] at hdn;have O7:=vB p (ats q) m;have e2:(xL p (ats q) m (n+m))[aZ (ats q) (ks q)]?.getD 0*(cu p (ats q) m (ss q))[l]?.getD 0=(xL p (ats q) m (n+m))[aZ (ats q) l]?.getD 0*(cu p (ats q) m (ss q))[ks q]?.getD 0:=by
   generalize (xL p (ats q) m (n+m))[aZ (ats q) (ks q)]?.getD 0=x1 at *;generalize (cu p (ats q) m (ss q))[l]?.getD 0=w1 at *;generalize (xL p (ats q) m (n+m))[aZ (ats q) l]?.getD 0=x2 at *;generalize (cu p (ats q) m (ss q))[ks q]?.getD 0=w2 at *;generalize aT p (ats q) m=g at *;have a1:(g*g)*(x1*w1)=(g*g)*(x2*w2):=by grind
   rw [O7] at a1;omega
  have hkl:=(h q hq).least l hl (by omega) e2;show aZ (ats q) (ks q)<=aZ (ats q) l;by_cases Wi:ks q=l
  ·rw [Wi];exact Nat.le_refl _
  ·have:=jy (ats q) _ m (h q hq).right l hl (ks q) (by omega);omega
 ·intro q j hq hj;have he:=exchange p (ats q) (ats (q+1)) m (n+m) (ss q) (ks q) (h q hq).right (h q hq).qh h1 h4 (h q hq).sN (hso q hq) (h q hq).km (h q hq).Xr (h q hq).E5 j hj;rw [hdo q hq];have O7:=vB p (ats q) m;generalize (xL p (ats (q+1)) m (n+m))[j]?.getD 0=y1 at *;generalize (xL p (ats q) m (n+m))[j]?.getD 0=y2 at *;generalize (xL p (ats q) m (n+m))[aZ (ats q) (ks q)]?.getD 0=y3 at *;generalize (cu p (ats q) m (ss q))[ks q]?.getD 0=w at *;generalize bA p (ats q) m (n+m) (ss q) j=dd at *;generalize aF p (ats q) m=D at *;generalize aF p (ats (q+1)) m=D2 at *;generalize aT p (ats q) m=g at *;generalize aT p (ats (q+1)) m=g2 at *;have a1:g2*y1*(g*D)*(-(g * -w))=g2*(g*g)*(y1*D*w):=by grind
  have a2:g2*D2*(g*y2*(-(g * -w))+g*y3*(g*dd))=g2*(g*g)*(D2*(y2*w+y3*dd)):=by grind
  rw [a1,a2,he]
theorem Ir (p:Lp) (m n:Nat) (h1:1<=m) (h4:m<=4) (hm:m=p.rows.length) (ats:Nat->List Int) (ss ks:Nat->Nat) (K:Nat) (hx:∀q j:Nat,q<=K->0<=aT p (ats q) m*(xL p (ats q) m (n+m))[j]?.getD 0) (hd:∀q,q<=K->aF p (ats q) m≠0)
  (h:∀q,q < K->fe p (ats q) (ats (q+1)) m (n+m) (ss q) (ks q)) (a b:Nat) (hab:a < b) (hb:b<=K) : ats a≠ats b:=by
 intro e;exact (Iq p m n h1 h4 hm ats ss ks K hx hd h).yD a b hab hb (fun j=>by show gK (ats a) m j=gK (ats b) m j;rw [e]) (fun j _=>by show aT p (ats a) m*_*_=aT p (ats b) m*_*_;rw [e])
theorem Dv (p:Lp) (at' dO:List Int) (m n s k:Nat) (h1:1<=m) (h4:m<=4) (hm:m=p.rows.length) (h:fe p at' dO m (n+m) s k) (hx:∀j:Nat,0<=aT p at' m*(xL p at' m (n+m))[j]?.getD 0)
  (hn:∀l,l < m->0 < aT p at' m*(cu p at' m s)[l]?.getD 0->(aT p at' m*(xL p at' m (n+m))[aZ at' k]?.getD 0)*(aT p at' m*(cu p at' m s)[l]?.getD 0)<=(aT p at' m*(xL p at' m (n+m))[aZ at' l]?.getD 0)*(aT p at' m*(cu p at' m s)[k]?.getD 0)) :
  ∀j:Nat,0<=aT p dO m*(xL p dO m (n+m))[j]?.getD 0:=by
 intro j;have hsb:=h.UY h1 h4 hm;by_cases hj:j < n+m
 ·have he:=exchange p at' dO m (n+m) s k h.right h.qh h1 h4 h.sN hsb h.km h.Xr h.E5 j hj;have O7:=vB p at' m;have hD:=dD p at' m h.den;have hD2:=dD p dO m h.E5;have hw:=h.falls;have hxj:=hx j;have hxo:=hx (aZ at' k);have hR:0<=(aT p at' m*(xL p at' m (n+m))[j]?.getD 0)*(aT p at' m*(cu p at' m s)[k]?.getD 0)+(aT p at' m*(xL p at' m (n+m))[aZ at' k]?.getD 0)*(aT p at' m*bA p at' m (n+m) s j):=by
   cases hb:gK at' m j with
   | false =>
    by_cases hjs:j=s
    ·subst hjs;have:bA p at' m (n+m) j j=aF p at' m:=by unfold bA;rw [if_pos rfl]
     rw [this];have a1:=Int.mul_nonneg hxj (Int.le_of_lt hw);have a2:=Int.mul_nonneg hxo (Int.le_of_lt hD);omega
    ·rw [iD p at' m (n+m) s j hb hjs,Int.mul_zero,Int.mul_zero,Int.add_zero];exact Int.mul_nonneg hxj (Int.le_of_lt hw)
   | true =>
    obtain ⟨l,hl,rfl⟩:=(bD at' m j).1 hb;rw [lZ p at' m (n+m) s l h.right hl hsb,Int.mul_neg,Int.mul_neg];by_cases hwl:0 < aT p at' m*(cu p at' m s)[l]?.getD 0
    ·have:=hn l hl hwl;omega
    ·have a1:=Int.mul_nonneg hxj (Int.le_of_lt hw);have a2:=Int.mul_nonpos_of_nonneg_of_nonpos hxo (Int.not_lt.1 hwl);omega
  generalize (xL p dO m (n+m))[j]?.getD 0=y1 at *;generalize (xL p at' m (n+m))[j]?.getD 0=y2 at *;generalize (xL p at' m (n+m))[aZ at' k]?.getD 0=y3 at he hR;generalize (cu p at' m s)[k]?.getD 0=w at he hR hw;generalize bA p at' m (n+m) s j=dd at *;generalize aF p at' m=D at *;generalize aF p dO m=D2 at *;generalize aT p at' m=g at *;generalize aT p dO m=g2 at *;have e:(g2*y1)*((g*D)*(g*w))=(g2*D2)*((g*y2)*(g*w)+(g*y3)*(g*dd)):=by
   have a1:(g2*y1)*((g*D)*(g*w))=g2*(g*g)*(y1*D*w):=by grind
   have a2:(g2*D2)*((g*y2)*(g*w)+(g*y3)*(g*dd))=g2*(g*g)*(D2*(y2*w+y3*dd)):=by grind
   rw [a1,a2,he]
  have q1:=Int.mul_pos hD hw;have q2:=Int.mul_nonneg (Int.le_of_lt hD2) hR;by_cases hneg:0<=g2*y1
  ·exact hneg
  ·have:=Int.mul_neg_of_neg_of_pos (Int.not_le.1 hneg) q1;omega
 ·rw [List.getElem?_eq_none (by unfold xL;rw [gF];omega)];show 0<=aT p dO m*0;omega
theorem FB (p:Lp) (m n:Nat) (h1:1<=m) (h4:m<=4) (hm:m=p.rows.length) (h8:n+m<=8) (ats:Nat->List Int) (ss ks:Nat->Nat) (K:Nat) (hx:∀q j:Nat,q<=K->0<=aT p (ats q) m*(xL p (ats q) m (n+m))[j]?.getD 0) (hd:∀q,q<=K->aF p (ats q) m≠0) (hr:∀q,q<=K->aH (ats q) m (n+m)=true)
  (h:∀q,q < K->fe p (ats q) (ats (q+1)) m (n+m) (ss q) (ks q)) : K < 4096:=by
 by_cases hK:K < 4096
 ·exact hK
 ·obtain ⟨i,j,hij,hj,he⟩:=Pk 4096 (fun q=>yH (ats q)) fun i hi=>Kl _ m _ (hr i (by omega)) h8;exact absurd (E8 _ _ m _ (hr i (by omega)) (hr j (by omega)) h4 h8 he) (Ir p m n h1 h4 hm ats ss ks K hx hd h i j hij (by omega))
theorem MG (p:Lp) (at':List Int) (m n s k:Nat) (h1:1<=m) (h4:m<=4) (hm:m=p.rows.length) (hr:aH at' m (n+m)=true) (hd:aF p at' m≠0) (hx:∀j:Nat,0<=aT p at' m*(xL p at' m (n+m))[j]?.getD 0)
  (hs:s < n+m) (sg:0 < aT p at' m*(aO p at' m (n+m))[s]?.getD 0) (sl:∀j:Nat,j < s->aT p at' m*(aO p at' m (n+m))[j]?.getD 0<=0)
  (hk:k < m) (falls:0 < aT p at' m*(cu p at' m s)[k]?.getD 0)
  (near:∀l,l < m->0 < aT p at' m*(cu p at' m s)[l]?.getD 0->(aT p at' m*(xL p at' m (n+m))[aZ at' k]?.getD 0)*(aT p at' m*(cu p at' m s)[l]?.getD 0)<=(aT p at' m*(xL p at' m (n+m))[aZ at' l]?.getD 0)*(aT p at' m*(cu p at' m s)[k]?.getD 0)/\
   ((aT p at' m*(xL p at' m (n+m))[aZ at' k]?.getD 0)*(aT p at' m*(cu p at' m s)[l]?.getD 0)=(aT p at' m*(xL p at' m (n+m))[aZ at' l]?.getD 0)*(aT p at' m*(cu p at' m s)[k]?.getD 0)->k<=l)) :
  ∃k',k' < m/\(∀i,i < k'->gq at' k i < s)/\(∀i,k'<=i->i+1 < m->s < gq at' k i)/\fe p at' (eB at' k k' s) m (n+m) s k/\∀j:Nat,0<=aT p (eB at' k k' s) m*(xL p (eB at' k k' s) m (n+m))[j]?.getD 0:=by
 have hsb:gK at' m s=false:=by
  cases hb:gK at' m s with
  | false=>rfl
  | true =>obtain ⟨i,hi,he⟩:=(bD at' m s).1 hb;have:=gG p at' m n h1 h4 hm hr i hi;rw [<-he,this] at sg;omega
 obtain ⟨k',a1,a2,a3⟩:=yI (gq at' k) s (m - 1) (fun i j hij hj=>nM at' k m (n+m) hr i j hij (by omega)) (fun i hi=>by
  unfold gq;exact (fq at' m s).1 hsb _ (by split<;>omega))
 have hk':k' < m:=by omega
 have hok:fe p at' (eB at' k k' s) m (n+m) s k:=by
  refine ⟨hr,su at' k k' s m (n+m) hr hk hk' hs a2 (fun i hi hi2=>a3 i hi (by omega)),hd,?_,hs,sg,sl,hk,falls,?_,yJ at' k k' s m (n+m) hr hk hk'⟩
  ·rw [EZ p at' k k' s m (bf at' m _ hr).1 h1 h4 hk hk'];have hw:(cu p at' m s)[k]?.getD 0≠0:=by intro e;rw [e] at falls;omega
   unfold oU;split<;>omega
  ·intro l hl hwl he;refine (near l hl hwl).2 ?_;generalize (xL p at' m (n+m))[aZ at' k]?.getD 0=x1 at *;generalize (cu p at' m s)[l]?.getD 0=w1 at *;generalize (xL p at' m (n+m))[aZ at' l]?.getD 0=x2 at *;generalize (cu p at' m s)[k]?.getD 0=w2 at *;generalize aT p at' m=g at *;grind
 exact ⟨k',hk',a2,fun i hi hi2=>a3 i hi (by omega),hok,Dv p at' _ m n s k h1 h4 hm hok hx fun l hl hwl=>(near l hl hwl).1⟩
theorem Iu (p:Lp) (at':List Int) (m n s:Nat) (h1:1<=m) (h4:m<=4) (hm:m=p.rows.length) (hr:aH at' m (n+m)=true) (hd:aF p at' m≠0) (hs:s < n+m) (hsb:gK at' m s=false) :
  sumN (fun j=>p.costs[j]?.getD 0*bA p at' m (n+m) s j) (n+m)=(aO p at' m (n+m))[s]?.getD 0:=by
 have e0:sumN (fun j=>(aO p at' m (n+m))[j]?.getD 0*bA p at' m (n+m) s j) (n+m)=(aO p at' m (n+m))[s]?.getD 0*aF p at' m:=by
  rw [dY _ s _ hs]
  ·show _*bA p at' m (n+m) s s=_;unfold bA;rw [if_pos rfl]
  ·intro j _ hjs;show _*bA p at' m (n+m) s j=0;cases hb:gK at' m j with
   | false=>rw [iD p at' m (n+m) s j hb hjs];omega
   | true =>obtain ⟨i,hi,rfl⟩:=(bD at' m j).1 hb;rw [gG p at' m n h1 h4 hm hr i hi];omega
 have e1:sumN (fun j=>(aO p at' m (n+m))[j]?.getD 0*bA p at' m (n+m) s j) (n+m)=sumN (fun j=>aF p at' m*(p.costs[j]?.getD 0*bA p at' m (n+m) s j)+(-1)*sumN (fun i=>aC p j i*(av p at' m)[i]?.getD 0*bA p at' m (n+m) s j) m) (n+m):=by
  refine ah _ _ _ fun j hj=>?_;rw [lu p at' m (n+m) j hm hj];have:sumN (fun i=>aC p j i*(av p at' m)[i]?.getD 0*bA p at' m (n+m) s j) m=bA p at' m (n+m) s j*sumN (fun i=>aC p j i*(av p at' m)[i]?.getD 0) m:=by rw [<-az];exact ah _ _ _ fun i _=>by grind
  rw [this];grind
 have e2:sumN (fun j=>sumN (fun i=>aC p j i*(av p at' m)[i]?.getD 0*bA p at' m (n+m) s j) m) (n+m)=0:=by
  rw [jh];refine (ah _ (fun _=>0) _ fun i hi=>?_).trans (bM m);have:sumN (fun j=>aC p j i*(av p at' m)[i]?.getD 0*bA p at' m (n+m) s j) (n+m)=(av p at' m)[i]?.getD 0*sumN (fun j=>aC p j i*bA p at' m (n+m) s j) (n+m):=by rw [<-az];exact ah _ _ _ fun j _=>by grind
  rw [this,ji p at' m (n+m) s hr h1 h4 hs hsb i hi];omega
 rw [e1,dA,az,az,e2] at e0;have e3:aF p at' m*sumN (fun j=>p.costs[j]?.getD 0*bA p at' m (n+m) s j) (n+m)=aF p at' m*(aO p at' m (n+m))[s]?.getD 0:=by rw [Int.mul_comm (aF p at' m) ((aO p at' m (n+m))[s]?.getD 0)];omega
 exact Int.eq_of_mul_eq_mul_left hd e3
theorem MH (p:Lp) (at':List Int) (m n s:Nat) (h1:1<=m) (h4:m<=4) (hm:m=p.rows.length) (hg:Good p at' m n) (hs:s < n+m) (hsb:gK at' m s=false) (h0:0 < aT p at' m*(aO p at' m (n+m))[s]?.getD 0) (hw:∀k,k < m->aT p at' m*(cu p at' m s)[k]?.getD 0<=0) :
  Tw p m n (fun j=>aT p at' m*bA p at' m (n+m) s j):=by
 refine ⟨fun j hj=>?_,fun i hi=>?_,?_⟩
 ·show 0<=aT p at' m*bA p at' m (n+m) s j;by_cases hjs:j=s
  ·subst hjs;unfold bA;rw [if_pos rfl];exact Int.le_of_lt (dD p at' m hg.den)
  ·cases hb:gK at' m j with
   | false=>rw [iD p at' m (n+m) s j hb hjs];omega
   | true =>obtain ⟨k,hk,rfl⟩:=(bD at' m j).1 hb;rw [lZ p at' m (n+m) s k hg.right hk hsb,Int.mul_neg];have:=hw k hk;omega
 ·have e:sumN (fun j=>aC p j i*(aT p at' m*bA p at' m (n+m) s j)) (n+m)=aT p at' m*sumN (fun j=>aC p j i*bA p at' m (n+m) s j) (n+m):=by rw [<-az];exact ah _ _ _ fun j _=>by grind
  show sumN (fun j=>aC p j i*(aT p at' m*bA p at' m (n+m) s j)) (n+m)=0;rw [e,ji p at' m (n+m) s hg.right h1 h4 hs hsb i hi];omega
 ·have e:sumN (fun j=>p.costs[j]?.getD 0*(aT p at' m*bA p at' m (n+m) s j)) (n+m)=aT p at' m*sumN (fun j=>p.costs[j]?.getD 0*bA p at' m (n+m) s j) (n+m):=by rw [<-az];exact ah _ _ _ fun j _=>by grind
  show 0 < sumN (fun j=>p.costs[j]?.getD 0*(aT p at' m*bA p at' m (n+m) s j)) (n+m);rw [e,Iu p at' m n s h1 h4 hm hg.right hg.den hs hsb];exact h0
theorem vI (c:Int) (l:List Int) (j:Nat) : (l.map (c * ·))[j]?.getD 0=c*l[j]?.getD 0:=by
 rw [List.getElem?_map];cases l[j]? with
 | none=>simp
 | some x=>simp
theorem Wt (p:Lp) (at':List Int) (m n:Nat) (h1:1<=m) (h4:m<=4) (hm:m=p.rows.length) (hg:Good p at' m n) : Ii p at' m n\/(∃r,Tw p m n r)\/∃nx s k,fe p at' nx m (n+m) s k/\Good p nx m n:=by
 rcases l5 ((aO p at' m (n+m)).map (aT p at' m * ·)) (n+m) with ⟨_,f2⟩|⟨s,f1,_,f3,f4⟩
 ·exact Or.inl ⟨hg,fun j hj=>by have:=f2 j hj;rw [vI] at this;exact this⟩
 ·rw [vI] at f3;have f4':∀j:Nat,j < s->aT p at' m*(aO p at' m (n+m))[j]?.getD 0<=0:=fun j hj=>by have:=f4 j hj;rw [vI] at this;exact this
  have hsb:gK at' m s=false:=by
   cases hb:gK at' m s with
   | false=>rfl
   | true =>obtain ⟨i,hi,he⟩:=(bD at' m s).1 hb;have:=gG p at' m n h1 h4 hm hg.right i hi;rw [<-he,this] at f3;omega
  have hv:∀k,k < m->((spreadN (n+m) at' (cu p at' m s) m).map (aT p at' m * ·))[aZ at' k]?.getD 0=aT p at' m*(cu p at' m s)[k]?.getD 0:=fun k hk=>by
   rw [vI,lI (n+m) at' _ m hg.right m (Nat.le_refl _) k hk]
  rcases vD at' ((xL p at' m (n+m)).map (aT p at' m * ·)) ((spreadN (n+m) at' (cu p at' m s) m).map (aT p at' m * ·)) m with ⟨_,o2⟩|⟨o,o1,_,o3,o4⟩
  ·exact Or.inr (Or.inl ⟨_,MH p at' m n s h1 h4 hm hg f1 hsb f3 fun k hk=>by rw [<-hv k hk];exact o2 k hk⟩)
  ·rw [hv o o1] at o3;obtain ⟨k',a1,a2,a3,a4,a5⟩:=MG p at' m n s o h1 h4 hm hg.right hg.den hg.x f1 f3 f4' o1 o3 (fun l hl hlv=>by
    have:=o4 l hl (by rw [hv l hl];exact hlv);rw [hv l hl,hv o o1,vI,vI] at this;exact this)
   exact Or.inr (Or.inr ⟨_,s,o,a4,a4.qh,a4.E5,a5⟩)
theorem Dw (p:Lp) (at':List Int) (m n:Nat) (h1:1<=m) (h4:m<=4) (h8:n+m<=8) (hm:m=p.rows.length) (hg:Good p at' m n) : (∃t,Ii p t m n)\/∃r,Tw p m n r:=by
 refine Classical.byContradiction fun hno=>?_;have hT:∀t,¬ Ii p t m n:=fun t h=>hno (Or.inl ⟨t,h⟩);have hR:∀r,¬ Tw p m n r:=fun r h=>hno (Or.inr ⟨r,h⟩);have go:∀q:{ a:List Int // Good p a m n },∃nx:{ a:List Int // Good p a m n },∃s k,fe p q.1 nx.1 m (n+m) s k:=by
  intro q;rcases Wt p q.1 m n h1 h4 hm q.2 with h|⟨r,h⟩|⟨nx,s,k,h,h'⟩
  ·exact absurd h (hT _)
  ·exact absurd h (hR _)
  ·exact ⟨⟨nx,h'⟩,s,k,h⟩
 let ats:Nat->{ a:List Int // Good p a m n }:=fun q=>Nat.rec ⟨at',hg⟩ (fun _ r=>Classical.choose (go r)) q;have hs:∀q,∃s k,fe p (ats q).1 (ats (q+1)).1 m (n+m) s k:=fun q=>Classical.choose_spec (go (ats q));have:=FB p m n h1 h4 hm h8 (fun q=>(ats q).1) (fun q=>Classical.choose (hs q)) (fun q=>Classical.choose (Classical.choose_spec (hs q))) 4096 (fun q j _=>(ats q).2.x j) (fun q _=>(ats q).2.den) (fun q _=>(ats q).2.right) (fun q _=>Classical.choose_spec (Classical.choose_spec (hs q)));omega
def aD (p:Lp) (c:List Int) : Lp:=⟨c,p.rows⟩
theorem sI (p:Lp) : aD p p.costs=p:=rfl
theorem gP (p:Lp) (c:List Int) (hc:c.length=p.costs.length) (j i:Nat) : aC (aD p c) j i=aC p j i:=by unfold aC;rw [show (aD p c).costs.length=p.costs.length from hc];rfl
theorem uD (p:Lp) (c:List Int) (hc:c.length=p.costs.length) (at':List Int) (m:Nat) : aG (aD p c) at' m=aG p at' m:=by unfold aG;refine List.map_congr_left fun k _=>?_;exact List.map_congr_left fun i _=>gP p c hc _ i
theorem df (p:Lp) (c:List Int) (hc:c.length=p.costs.length) (at':List Int) (m:Nat) : aF (aD p c) at' m=aF p at' m:=by unfold aF;rw [uD p c hc]
theorem kG (p:Lp) (c:List Int) (hc:c.length=p.costs.length) (at':List Int) (m:Nat) : aT (aD p c) at' m=aT p at' m:=by unfold aT;rw [df p c hc]
theorem Dx (p:Lp) (c:List Int) (hc:c.length=p.costs.length) (at':List Int) (m N:Nat) : xL (aD p c) at' m N=xL p at' m N:=by unfold xL;rw [uD p c hc];rfl
theorem MI (p:Lp) (c:List Int) (hc:c.length=p.costs.length) (au:p.may=true) (hw:aB 400 c=true) : (aD p c).may=true:=by unfold Lp.may at au ⊢;rw [show (aD p c).costs.length=p.costs.length from hc,show (aD p c).rows=p.rows from rfl,show (aD p c).costs=c from rfl,hw];simp only [Bool.and_eq_true,decide_eq_true_eq] at au ⊢;exact ⟨⟨⟨⟨⟨au.1.1.1.1.1,au.1.1.1.1.2⟩,trivial⟩,au.1.1.2⟩,au.1.2⟩,au.2⟩
theorem vJ (p:Lp) (at':List Int) (m n:Nat) (h1:1<=m) (h4:m<=4) (hm:m=p.rows.length) (hr:aH at' m (n+m)=true) (k:Nat) (hk:k < m) : sumN (fun i=>aC p (aZ at' k) i*(av p at' m)[i]?.getD 0) m=p.costs[aZ at' k]?.getD 0*aF p at' m:=by have hg:=gG p at' m n h1 h4 hm hr k hk;rw [lu p at' m (n+m) _ hm (kR at' (n+m) m hr k hk)] at hg;omega
theorem yT (h y z:Nat->Int) (d t:Int) (m:Nat) : sumN (fun i=>h i*(d*y i+t*z i)) m=d*sumN (fun i=>h i*y i) m+t*sumN (fun i=>h i*z i) m:=by rw [<-az,<-az,<-dA];exact ah _ _ _ fun i _=>by grind
theorem Iw (p:Lp) (c1 c2 c3:List Int) (d t:Int) (at':List Int) (m n:Nat) (hm:m=p.rows.length) (l1:c1.length=p.costs.length) (l2:c2.length=p.costs.length) (l3:c3.length=p.costs.length)
  (h1:1<=m) (h4:m<=4) (hr:aH at' m (n+m)=true) (hd:aF p at' m≠0) (hc:∀j:Nat,c3[j]?.getD 0=d*c1[j]?.getD 0+t*c2[j]?.getD 0) (i:Nat) (hi:i < m) :
  (av (aD p c3) at' m)[i]?.getD 0=d*(av (aD p c1) at' m)[i]?.getD 0+t*(av (aD p c2) at' m)[i]?.getD 0:=by
 have p1:=vJ (aD p c1) at' m n h1 h4 hm hr;have p2:=vJ (aD p c2) at' m n h1 h4 hm hr;have p3:=vJ (aD p c3) at' m n h1 h4 hm hr;have z:=BB p at' m h1 h4 hd (fun i=>(av (aD p c3) at' m)[i]?.getD 0 - (d*(av (aD p c1) at' m)[i]?.getD 0+t*(av (aD p c2) at' m)[i]?.getD 0)) (fun k hk=>by
  have q1:=p1 k hk;have q2:=p2 k hk;have q3:=p3 k hk;rw [df p _ l1,show (aD p c1).costs=c1 from rfl] at q1;rw [df p _ l2,show (aD p c2).costs=c2 from rfl] at q2;rw [df p _ l3,show (aD p c3).costs=c3 from rfl] at q3;have r1:sumN (fun i=>aC p (aZ at' k) i*(av (aD p c1) at' m)[i]?.getD 0) m=c1[aZ at' k]?.getD 0*aF p at' m:=by rw [<-q1];exact ah _ _ _ fun i _=>by rw [gP p c1 l1]
  have r2:sumN (fun i=>aC p (aZ at' k) i*(av (aD p c2) at' m)[i]?.getD 0) m=c2[aZ at' k]?.getD 0*aF p at' m:=by rw [<-q2];exact ah _ _ _ fun i _=>by rw [gP p c2 l2]
  have r3:sumN (fun i=>aC p (aZ at' k) i*(av (aD p c3) at' m)[i]?.getD 0) m=c3[aZ at' k]?.getD 0*aF p at' m:=by rw [<-q3];exact ah _ _ _ fun i _=>by rw [gP p c3 l3]
  have e1:sumN (fun i=>aC p (aZ at' k) i*((av (aD p c3) at' m)[i]?.getD 0 - (d*(av (aD p c1) at' m)[i]?.getD 0+t*(av (aD p c2) at' m)[i]?.getD 0))) m
    = sumN (fun i=>aC p (aZ at' k) i*(1*(av (aD p c3) at' m)[i]?.getD 0 + -1*(d*(av (aD p c1) at' m)[i]?.getD 0+t*(av (aD p c2) at' m)[i]?.getD 0))) m:=ah _ _ _ fun i _=>by
   rw [show (av (aD p c3) at' m)[i]?.getD 0 - (d*(av (aD p c1) at' m)[i]?.getD 0+t*(av (aD p c2) at' m)[i]?.getD 0)=1*(av (aD p c3) at' m)[i]?.getD 0 + -1*(d*(av (aD p c1) at' m)[i]?.getD 0+t*(av (aD p c2) at' m)[i]?.getD 0) by omega]
  show sumN (fun i=>aC p (aZ at' k) i*((av (aD p c3) at' m)[i]?.getD 0 - (d*(av (aD p c1) at' m)[i]?.getD 0+t*(av (aD p c2) at' m)[i]?.getD 0))) m=0;rw [e1,yT,yT,r1,r2,r3,hc];grind) i hi
 have z':(av (aD p c3) at' m)[i]?.getD 0 - (d*(av (aD p c1) at' m)[i]?.getD 0+t*(av (aD p c2) at' m)[i]?.getD 0)=0:=z;omega
theorem MJ (p:Lp) (c1 c2 c3:List Int) (d t:Int) (at':List Int) (m n:Nat) (hm:m=p.rows.length) (l1:c1.length=p.costs.length) (l2:c2.length=p.costs.length) (l3:c3.length=p.costs.length)
  (h1:1<=m) (h4:m<=4) (hr:aH at' m (n+m)=true) (hd:aF p at' m≠0) (hc:∀j:Nat,c3[j]?.getD 0=d*c1[j]?.getD 0+t*c2[j]?.getD 0) (j:Nat) (hj:j < n+m) :
  (aO (aD p c3) at' m (n+m))[j]?.getD 0=d*(aO (aD p c1) at' m (n+m))[j]?.getD 0+t*(aO (aD p c2) at' m (n+m))[j]?.getD 0:=by
 have hp:=Iw p c1 c2 c3 d t at' m n hm l1 l2 l3 h1 h4 hr hd hc;rw [lu (aD p c1) at' m (n+m) j hm hj,lu (aD p c2) at' m (n+m) j hm hj,lu (aD p c3) at' m (n+m) j hm hj,df p _ l1,df p _ l2,df p _ l3,
  show (aD p c1).costs=c1 from rfl,show (aD p c2).costs=c2 from rfl,show (aD p c3).costs=c3 from rfl,hc j]
 have e3:sumN (fun i=>aC (aD p c3) j i*(av (aD p c3) at' m)[i]?.getD 0) m=d*sumN (fun i=>aC (aD p c1) j i*(av (aD p c1) at' m)[i]?.getD 0) m+t*sumN (fun i=>aC (aD p c2) j i*(av (aD p c2) at' m)[i]?.getD 0) m:=by
  have a1:sumN (fun i=>aC (aD p c3) j i*(av (aD p c3) at' m)[i]?.getD 0) m=sumN (fun i=>aC p j i*(d*(av (aD p c1) at' m)[i]?.getD 0+t*(av (aD p c2) at' m)[i]?.getD 0)) m:=ah _ _ _ fun i hi=>by
   rw [gP p c3 l3,hp i hi]
  have a2:sumN (fun i=>aC (aD p c1) j i*(av (aD p c1) at' m)[i]?.getD 0) m=sumN (fun i=>aC p j i*(av (aD p c1) at' m)[i]?.getD 0) m:=ah _ _ _ fun i hi=>by rw [gP p c1 l1]
  have a3:sumN (fun i=>aC (aD p c2) j i*(av (aD p c2) at' m)[i]?.getD 0) m=sumN (fun i=>aC p j i*(av (aD p c2) at' m)[i]?.getD 0) m:=ah _ _ _ fun i hi=>by rw [gP p c2 l2]
  rw [a1,a2,a3,yT]
 rw [e3];grind
theorem lK (p:Lp) (at':List Int) (m n:Nat) (au:p.may=true) (hm:m=p.rows.length) (hn:n=p.costs.length) (hr:aH at' m (n+m)=true) (hd:aF p at' m≠0) :
  (look p at').err=0/\(look p at').g.length=n+m/\(1<=(look p at').gd/\(look p at').gd<=497664)/\(∀j:Nat,-1073741824<=(look p at').g[j]?.getD 0/\(look p at').g[j]?.getD 0<=1073741824)/\
  ∃g:Int,0 < g/\(∀j:Nat,aT p at' m*(aO p at' m (n+m))[j]?.getD 0=g*(look p at').g[j]?.getD 0)/\aT p at' m*aF p at' m=g*(look p at').gd:=by
 have h1:1<=m:=by have:=(p.aj au).2.2.1.1;omega
 have h4:m<=4:=by have:=(p.aj au).2.2.1.2;omega
 have NR:n<=4:=by have:=(p.aj au).1.2;omega
 have hb:=jA p at' m au h1 h4;have gb:=uz p at' m (n+m) au hm;obtain ⟨g,g0,_,q2,q3,q4,q5,q6,q7⟩:=rF (aO p at' m (n+m)) (aF p at' m) hd (by omega) gb (by unfold aO;simp;omega);have hy:(look p at').err=0/\(look p at').g=(pt (aO p at' m (n+m)) (aF p at' m)).1/\(look p at').gd=(pt (aO p at' m (n+m)) (aF p at' m)).2.1:=by unfold look;rw [if_neg (by simp [au]),if_neg (by rw [<-hm,<-hn,hr];decide),if_neg (by rw [<-hm];exact hd),<-hm,<-hn];exact ⟨rfl,rfl,rfl⟩
 refine ⟨hy.1,by rw [hy.2.1,q2];simp [aO],by rw [hy.2.2];omega,fun j=>by rw [hy.2.1];have:=q7 j;have:=gb j;omega,aT p at' m*g,?_,fun j=>by rw [hy.2.1,q3 j];grind,?_⟩
 ·have hs:=dD p at' m hd;rw [q4,<-Int.mul_assoc] at hs;exact (gu _ _ (show 0 < (pt (aO p at' m (n+m)) (aF p at' m)).2.1 by omega)).1 (by rw [Int.mul_comm];exact hs)
 ·rw [hy.2.2,Int.mul_assoc,<-q4]
theorem wM (p:Lp) (c1 c2:List Int) (at':List Int) (m n:Nat) (hm:m=p.rows.length) (hn:n=p.costs.length) (l1:c1.length=p.costs.length) (l2:c2.length=p.costs.length)
  (m1:(aD p c1).may=true) (m2:(aD p c2).may=true) (hr:aH at' m (n+m)=true) (hd:aF p at' m≠0) (j:Nat) :
  Alike (-(aT p at' m*(aO (aD p c1) at' m (n+m))[j]?.getD 0)) (-(aT p at' m*(aO (aD p c2) at' m (n+m))[j]?.getD 0))
   (0 - (look (aD p c1) at').g[j]?.getD 0*(look (aD p c2) at').gd) (0 - (look (aD p c2) at').g[j]?.getD 0*(look (aD p c1) at').gd):=by
 obtain ⟨_,_,_,_,g,g0,a1,a2⟩:=lK (aD p c1) at' m n m1 hm (by rw [hn];exact l1.symm) hr (by rw [df p _ l1];exact hd);obtain ⟨_,_,_,_,h,h0,b1,b2⟩:=lK (aD p c2) at' m n m2 hm (by rw [hn];exact l2.symm) hr (by rw [df p _ l2];exact hd);have a1:=a1 j;have b1:=b1 j;rw [kG p _ l1] at a1 a2;rw [kG p _ l2] at b1 b2;rw [df p _ l1] at a2;rw [df p _ l2] at b2;refine ⟨aT p at' m*aF p at' m,g*h,dD p at' m hd,Int.mul_pos g0 h0,?_,?_⟩
 ·rw [a1,b2];grind
 ·rw [b1,a2];grind
structure xh where
 o:Bool
 n:Int
 d:Int
 o2:Bool
 n2:Int
 d2:Int
 no:Bool
def PM:xh:=⟨true,0,0,true,0,0,false⟩
def iJ (s:xh) (a b:Int) : xh :=
 if b=0 then { s with no:=s.no || decide (a < 0) }
 else if 0 < b then
  if s.o=true\/s.n*(mk (0 - a) b).2.1 < (mk (0 - a) b).1*s.d then { s with o:=false,n:=(mk (0 - a) b).1,d:=(mk (0 - a) b).2.1 } else s
 else if s.o2=true\/(mk (0 - a) b).1*s.d2 < s.n2*(mk (0 - a) b).2.1 then { s with o2:=false,n2:=(mk (0 - a) b).1,d2:=(mk (0 - a) b).2.1 } else s
def eD (a b:Nat->Int) : Nat->xh
 | 0=>PM
 | k+1=>iJ (eD a b k) (a k) (b k)
def ig (s:xh) : Bool:=s.no || (!s.o && !s.o2 && decide (s.n2*s.d < s.n*s.d2))
structure mh (a b:Nat->Int) (N:Nat) (s:xh) : Prop where
 lo:yR a b N s.o s.n s.d
 hi:yS a b N s.o2 s.n2 s.d2
 no:s.no=true<->Dr a b N
structure qp (a b:Int) : Prop where
 a62 : -4611686018427387904<=a/\a<=4611686018427387904
 b62 : -4611686018427387904<=b/\b<=4611686018427387904
 rep:b≠0->∃u v:Int,v≠0/\(-1073741824<=u/\u<=1073741824)/\(-1073741824<=v/\v<=1073741824)/\u*b=(0 - a)*v
theorem PN (a b a' b':Int) (h:Alike a b a' b') (ha : -1073741824<=a/\a<=1073741824) (hb : -1073741824<=b/\b<=1073741824) (ha' : -4611686018427387904<=a'/\a'<=4611686018427387904) (hb' : -4611686018427387904<=b'/\b'<=4611686018427387904) : qp a' b':=by
 refine ⟨ha',hb',fun h0=>⟨-a,b,?_,by omega,hb,?_⟩⟩
 ·exact fun e=>h0 ((MF a b a' b' h).2.2.1.2 e)
 ·obtain ⟨k,l,k0,l0,e1,e2⟩:=h;refine Int.eq_of_mul_eq_mul_left (show l≠0 by omega) ?_;have s1:l*(-a*b')=-a*(l*b'):=by grind
  have s2:l*((0 - a')*b)=-(l*a')*b:=by grind
  rw [s1,s2,e1,e2];grind
theorem BC (a b:Int) (h:qp a b) (hb:b≠0) : ∃x y,mk (0 - a) b=(x,y,0)/\a*y+x*b=0/\bZ y [x]=true:=by
 obtain ⟨u,v,v0,hu,hv,e⟩:=h.rep hb;have:=h.a62;obtain ⟨x,y,e1,e2,_,e4⟩:=Ws (0 - a) b u v hb v0 hu hv (by omega) h.b62 e;refine ⟨x,y,e1,?_,e4⟩;have:(0 - a)*y=-(a*y):=by grind
 omega
theorem MK (a b:Nat->Int) : mh a b 0 PM:=⟨TA a b,TB a b,by
 constructor
 ·intro h;cases h
 ·rintro ⟨j,hj,_⟩;omega⟩
theorem qY (a b:Nat->Int) (N:Nat) (h:b N≠0\/0<=a N) : Dr a b (N+1)<->Dr a b N:=by
 constructor
 ·rintro ⟨j,hj,hb,ha⟩;by_cases e:j=N
  ·subst e;rcases h with h|h
   ·exact absurd hb h
   ·omega
  ·exact ⟨j,by omega,hb,ha⟩
 ·rintro ⟨j,hj,hb,ha⟩;exact ⟨j,by omega,hb,ha⟩
theorem PO (a b:Nat->Int) (N:Nat) (s:xh) (h:mh a b N s) (hs:qp (a N) (b N)) : mh a b (N+1) (iJ s (a N) (b N)):=by
 obtain ⟨o,n,d,o2,n2,d2,no⟩:=s;obtain ⟨h1,h2,h3⟩:=h;simp only at h1 h2 h3;unfold iJ;by_cases hb:b N=0
 ·rw [if_pos hb];refine ⟨Dt a b N o n d h1 (by omega),Du a b N o2 n2 d2 h2 (by omega),?_⟩;simp only [Bool.or_eq_true,decide_eq_true_eq];constructor
  ·rintro (h|h)
   ·obtain ⟨j,hj,e⟩:=h3.1 h;exact ⟨j,by omega,e⟩
   ·exact ⟨N,by omega,hb,h⟩
  ·rintro ⟨j,hj,e1,e2⟩;by_cases e:j=N
   ·subst e;exact Or.inr e2
   ·exact Or.inl (h3.2 ⟨j,by omega,e1,e2⟩)
 ·rw [if_neg hb];obtain ⟨x,y,e1,e2,e3⟩:=BC _ _ hs hb;have hy:=dK y x e3;rw [e1];simp only;by_cases hp:0 < b N
  ·rw [if_pos hp];by_cases ht:o=true\/n*y < x*d
   ·rw [if_pos ht];exact ⟨TC a b N o n d h1 hp x y e3 e2 (by rcases ht with h|h;exact Or.inl h;exact Or.inr (by omega)),Du a b N o2 n2 d2 h2 (by omega),by rw [qY a b N (Or.inl hb)];exact h3⟩
   ·rw [if_neg ht];have ho:o=false:=by cases o with
     | false=>rfl
     | true=>exact absurd (Or.inl rfl) ht
    subst ho;exact ⟨TE a b N n d h1 hp x y hy e2 (Int.not_lt.1 fun h=>ht (Or.inr h)),Du a b N o2 n2 d2 h2 (by omega),by rw [qY a b N (Or.inl hb)];exact h3⟩
  ·rw [if_neg hp];have hp':b N < 0:=by omega
   by_cases ht:o2=true\/x*d2 < n2*y
   ·rw [if_pos ht];exact ⟨Dt a b N o n d h1 (by omega),TD a b N o2 n2 d2 h2 hp' x y e3 e2 (by rcases ht with h|h;exact Or.inl h;exact Or.inr (by omega)),by rw [qY a b N (Or.inl hb)];exact h3⟩
   ·rw [if_neg ht];have ho:o2=false:=by cases o2 with
     | false=>rfl
     | true=>exact absurd (Or.inl rfl) ht
    subst ho;exact ⟨Dt a b N o n d h1 (by omega),TF a b N n2 d2 h2 hp' x y hy e2 (Int.not_lt.1 fun h=>ht (Or.inr h)),by rw [qY a b N (Or.inl hb)];exact h3⟩
theorem KO (a b:Nat->Int) (N:Nat) (hs:∀j,j < N->qp (a j) (b j)) : mh a b N (eD a b N):=by
 induction N with
 | zero=>exact MK a b
 | succ N ih=>exact PO a b N _ (ih fun j hj=>hs j (by omega)) (hs N (by omega))
theorem yU (a b:Nat->Int) (N:Nat) (o:Bool) (n d:Int) (h:yR a b N o n d) (ho:o=false) : 0 < d/\bZ d [n]=true:=by
 rcases h with ⟨h1,_⟩|⟨_,h2,_⟩
 ·rw [ho] at h1;cases h1
 ·exact ⟨dK d n h2,h2⟩
theorem yV (a b:Nat->Int) (N:Nat) (o:Bool) (n d:Int) (h:yS a b N o n d) (ho:o=false) : 0 < d/\bZ d [n]=true:=by
 rcases h with ⟨h1,_⟩|⟨_,h2,_⟩
 ·rw [ho] at h1;cases h1
 ·exact ⟨dK d n h2,h2⟩
theorem PQ (a b:Nat->Int) (N:Nat) (s:xh) (h:mh a b N s) (k e:Int) (he:0 < e) :
  (∀j,j < N->0<=a j*e+k*b j)<->(ig s=false/\(s.o=true\/s.n*e<=k*s.d)/\(s.o2=true\/k*s.d2<=s.n2*e)):=by
 rw [Tz a b N _ _ _ _ _ _ h.lo h.hi k e he];constructor
 ·rintro ⟨h1,h2,h3⟩;refine ⟨?_,h2,h3⟩;unfold ig;rw [Bool.or_eq_false_iff];refine ⟨by rw [<-Bool.not_eq_true];exact fun e=>h1 (h.no.1 e),?_⟩;rw [<-Bool.not_eq_true];intro e1;simp only [Bool.and_eq_true,Bool.not_eq_true',decide_eq_true_eq] at e1;exact MC _ _ _ _ _ _ (yU a b N _ _ _ h.lo e1.1.1).1 (yV a b N _ _ _ h.hi e1.1.2).1 e1.2 e1.1.1 e1.1.2 k e he ⟨h2,h3⟩
 ·rintro ⟨h1,h2,h3⟩;refine ⟨fun hn=>?_,h2,h3⟩;unfold ig at h1;rw [h.no.2 hn] at h1;cases h1
theorem yX (p:Lp) (c1 c2:List Int) (at':List Int) (m n:Nat) (hm:m=p.rows.length) (hn:n=p.costs.length) (l1:c1.length=p.costs.length) (l2:c2.length=p.costs.length)
  (m1:(aD p c1).may=true) (m2:(aD p c2).may=true) (hr:aH at' m (n+m)=true) (hd:aF p at' m≠0) :
  (∀j:Nat,qp (0 - (look (aD p c1) at').g[j]?.getD 0*(look (aD p c2) at').gd) (0 - (look (aD p c2) at').g[j]?.getD 0*(look (aD p c1) at').gd))/\
  mh (fun j=>0 - (look (aD p c1) at').g[j]?.getD 0*(look (aD p c2) at').gd) (fun j=>0 - (look (aD p c2) at').g[j]?.getD 0*(look (aD p c1) at').gd) (n+m)
   (eD (fun j=>0 - (look (aD p c1) at').g[j]?.getD 0*(look (aD p c2) at').gd) (fun j=>0 - (look (aD p c2) at').g[j]?.getD 0*(look (aD p c1) at').gd) (n+m)):=by
 have hsm:∀j:Nat,qp (0 - (look (aD p c1) at').g[j]?.getD 0*(look (aD p c2) at').gd) (0 - (look (aD p c2) at').g[j]?.getD 0*(look (aD p c1) at').gd):=by
  intro j;have al:=wM p c1 c2 at' m n hm hn l1 l2 m1 m2 hr hd j;obtain ⟨_,_,d1,b1,_⟩:=lK (aD p c1) at' m n m1 hm (by rw [hn];exact l1.symm) hr (by rw [df p _ l1];exact hd);obtain ⟨_,_,d2,b2,_⟩:=lK (aD p c2) at' m n m2 hm (by rw [hn];exact l2.symm) hr (by rw [df p _ l2];exact hd);have b1:=b1 j;have b2:=b2 j;have g1:=uz (aD p c1) at' m (n+m) m1 hm j;have g2:=uz (aD p c2) at' m (n+m) m2 hm j;have sb:∀x:Int,-1073741824<=x/\x<=1073741824->-1073741824<=-(aT p at' m*x)/\-(aT p at' m*x)<=1073741824:=fun x hx=>by unfold aT;split<;>omega
  have pb:∀x y:Int,-1073741824<=x/\x<=1073741824->1<=y/\y<=497664->-4611686018427387904<=0 - x*y/\0 - x*y<=4611686018427387904:=by intro x y hx hy;have p1:=Int.mul_le_mul_of_nonneg_right hx.2 (show 0<=y by omega);have p2:=Int.mul_le_mul_of_nonneg_right hx.1 (show 0<=y by omega);omega
  exact PN _ _ _ _ al (sb _ g1) (sb _ g2) (pb _ _ b1 d2) (pb _ _ b2 d1)
 exact ⟨hsm,KO _ _ _ fun j _=>hsm j⟩
def gV (c b:List Int) (e k:Int) (n:Nat) : List Int:=(List.range n).map fun j=>e*c[j]?.getD 0+k*b[j]?.getD 0
theorem uE (c b:List Int) (e k:Int) (n:Nat) : (gV c b e k n).length=n:=by simp [gV]
theorem xK (c b:List Int) (e k:Int) (n:Nat) (hc:c.length=n) (hb:b.length=n) (j:Nat) : (gV c b e k n)[j]?.getD 0=e*c[j]?.getD 0+k*b[j]?.getD 0:=by
 unfold gV;rw [aA];by_cases h:j < n
 ·rw [if_pos h]
 ·rw [if_neg h,List.getElem?_eq_none (by omega),List.getElem?_eq_none (by omega)];simp
structure mR (p:Lp) (b:List Int) (m n:Nat) (e k:Int) (a:List Int) : Prop where
 good:Good p a m n
 gain:∀j,j < n+m->0<=-(aT p a m*(aO p a m (n+m))[j]?.getD 0)*e+k * -(aT p a m*(aO (aD p b) a m (n+m))[j]?.getD 0)
theorem sJ (p:Lp) (c:List Int) (hc:c.length=p.costs.length) (a:List Int) (m n:Nat) : Good (aD p c) a m n<->Good p a m n:=by
 constructor
 ·rintro ⟨h1,h2,h3⟩;refine ⟨h1,by rw [<-df p c hc];exact h2,fun j=>?_⟩;have:=h3 j;rw [kG p c hc,Dx p c hc] at this;exact this
 ·rintro ⟨h1,h2,h3⟩;refine ⟨h1,by rw [df p c hc];exact h2,fun j=>?_⟩;rw [kG p c hc,Dx p c hc];exact h3 j
theorem vK (p:Lp) (b:List Int) (m n:Nat) (e k:Int) (a:List Int) (h1:1<=m) (h4:m<=4) (hm:m=p.rows.length) (hn:n=p.costs.length) (hb:b.length=n) : mR p b m n e k a<->Ii (aD p (gV p.costs b e k n)) a m n:=by
 have l3:(gV p.costs b e k n).length=p.costs.length:=by rw [uE,hn]
 have key:Good p a m n->∀j,j < n+m->(aT p a m*(aO (aD p (gV p.costs b e k n)) a m (n+m))[j]?.getD 0=-(-(aT p a m*(aO p a m (n+m))[j]?.getD 0)*e+k * -(aT p a m*(aO (aD p b) a m (n+m))[j]?.getD 0))):=by intro hg j hj;rw [MJ p p.costs b (gV p.costs b e k n) e k a m n hm rfl (by omega) l3 h1 h4 hg.right hg.den (xK p.costs b e k n hn.symm hb) j hj,sI];grind
 constructor
 ·rintro ⟨hg,h⟩;refine ⟨(sJ p _ l3 a m n).2 hg,fun j hj=>?_⟩;have:=h j hj;rw [kG p _ l3,key hg j hj];omega
 ·rintro ⟨hg,h⟩;have hg':=(sJ p _ l3 a m n).1 hg;refine ⟨hg',fun j hj=>?_⟩;have:=h j hj;rw [kG p _ l3,key hg' j hj] at this;omega
theorem FC (p:Lp) (a:List Int) (m N:Nat) (hm:m=p.rows.length) (x:Nat->Int) : sumN (fun j=>(aO p a m N)[j]?.getD 0*x j) N=aF p a m*sumN (fun j=>p.costs[j]?.getD 0*x j) N - sumN (fun i=>(av p a m)[i]?.getD 0*sumN (fun j=>aC p j i*x j) N) m:=by
 rw [<-pairs (aC p) (fun i=>(av p a m)[i]?.getD 0) x m N];have e1:sumN (fun j=>(aO p a m N)[j]?.getD 0*x j) N=sumN (fun j=>aF p a m*(p.costs[j]?.getD 0*x j) + -1*(sumN (fun i=>aC p j i*(av p a m)[i]?.getD 0) m*x j)) N:=ah _ _ _ fun j hj=>by
  rw [lu p a m N j hm hj];grind
 rw [e1,dA,az,az];omega
theorem ML (p:Lp) (a:List Int) (m n:Nat) (h1:1<=m) (h4:m<=4) (hm:m=p.rows.length) (hr:aH a m (n+m)=true) (hd:aF p a m≠0) : sumN (fun j=>p.costs[j]?.getD 0*(xL p a m (n+m))[j]?.getD 0) (n+m)=sumN (fun i=>(av p a m)[i]?.getD 0*dw p i) m:=by
 have e1:=FC p a m (n+m) hm (fun j=>(xL p a m (n+m))[j]?.getD 0);have e2:sumN (fun j=>(aO p a m (n+m))[j]?.getD 0*(xL p a m (n+m))[j]?.getD 0) (n+m)=0:=(ah _ (fun _=>0) _ fun j _=>by
  cases hb:gK a m j with
  | false=>rw [yG p a m (n+m) j hb];omega
  | true =>obtain ⟨i,hi,rfl⟩:=(bD a m j).1 hb;rw [gG p a m n h1 h4 hm hr i hi];omega).trans (bM _)
 have e3:sumN (fun i=>(av p a m)[i]?.getD 0*sumN (fun j=>aC p j i*(xL p a m (n+m))[j]?.getD 0) (n+m)) m=aF p a m*sumN (fun i=>(av p a m)[i]?.getD 0*dw p i) m:=by rw [<-az];exact ah _ _ _ fun i hi=>by rw [mQ p a m (n+m) hr h1 h4 i hi];grind
 rw [e2,e3] at e1;exact Int.eq_of_mul_eq_mul_left hd (by omega)
theorem FD (p:Lp) (a:List Int) (m n:Nat) (h1:1<=m) (h4:m<=4) (hm:m=p.rows.length) (ht:Ii p a m n) (x:Nat->Int) (D:Int) (hx:∀j,j < n+m->0<=x j) (hl:∀i,i < m->sumN (fun j=>aC p j i*x j) (n+m)=D*dw p i) :
  sumN (fun j=>p.costs[j]?.getD 0*x j) (n+m)*(aT p a m*aF p a m)<=D*(aT p a m*sumN (fun j=>p.costs[j]?.getD 0*(xL p a m (n+m))[j]?.getD 0) (n+m)):=by
 have e1:=FC p a m (n+m) hm x;have e2:sumN (fun i=>(av p a m)[i]?.getD 0*sumN (fun j=>aC p j i*x j) (n+m)) m=D*sumN (fun i=>(av p a m)[i]?.getD 0*dw p i) m:=by rw [<-az];exact ah _ _ _ fun i hi=>by rw [hl i hi];grind
 rw [e2,<-ML p a m n h1 h4 hm ht.right ht.den] at e1;have e3:sumN (fun j=>aT p a m*(aO p a m (n+m))[j]?.getD 0*x j) (n+m)<=sumN (fun _=>0) (n+m):=uu _ _ _ fun j hj=>by
  have:=Int.mul_le_mul_of_nonneg_right (ht.gain j hj) (hx j hj);omega
 rw [bM] at e3;have e4:sumN (fun j=>aT p a m*(aO p a m (n+m))[j]?.getD 0*x j) (n+m)=aT p a m*sumN (fun j=>(aO p a m (n+m))[j]?.getD 0*x j) (n+m):=by rw [<-az];exact ah _ _ _ fun j _=>by grind
 rw [e4,e1] at e3;generalize sumN (fun j=>p.costs[j]?.getD 0*x j) (n+m)=u at *;generalize sumN (fun j=>p.costs[j]?.getD 0*(xL p a m (n+m))[j]?.getD 0) (n+m)=v at *;have e5:aT p a m*(aF p a m*u - D*v)=u*(aT p a m*aF p a m) - D*(aT p a m*v):=by grind
 omega
theorem between (e0 k0 e1 k1 e k C S:Int) (h0:0 < e0) (h1:0 < e1) (he:0 < e) (a:k0*e<=k*e0) (b:k*e1<=k1*e) (c0:e0*C+k0*S<=0) (c1:e1*C+k1*S<=0) : e*C+k*S<=0:=by
 have w:0<=k1*e0 - k0*e1:=by
  have p1:=Int.mul_le_mul_of_nonneg_right a (Int.le_of_lt h1);have p2:=Int.mul_le_mul_of_nonneg_right b (Int.le_of_lt h0);have s1:k*e0*e1=k*e1*e0:=by grind
  have s2:e*(k1*e0 - k0*e1)=k1*e*e0 - k0*e*e1:=by grind
  exact (bE e _ he).1 (by omega)
 by_cases hw:k1*e0 - k0*e1=0
 ·have q:k0*e=k*e0:=by
   have p2:=Int.mul_le_mul_of_nonneg_right b (Int.le_of_lt h0);have s1:k*e1*e0=e1*(k*e0):=by grind
   have s2:k1*e*e0=e1*(k0*e):=by
    have:k1*e*e0=k1*e0*e:=by grind
    rw [this,show k1*e0=k0*e1 by omega];grind
   rw [s1,s2] at p2;have:=Int.le_of_mul_le_mul_left p2 h1;omega
  have s:e0*(e*C+k*S)=e*(e0*C+k0*S):=by
   have:e0*(e*C+k*S)=e*(e0*C)+k*e0*S:=by grind
   rw [this,<-q];grind
  have:=Int.mul_nonpos_of_nonneg_of_nonpos (Int.le_of_lt he) c0;refine Int.not_lt.1 fun hlt=>?_;have:=Int.mul_pos h0 hlt;omega
 ·have s:(k1*e0 - k0*e1)*(e*C+k*S)=(k1*e - k*e1)*(e0*C+k0*S)+(k*e0 - k0*e)*(e1*C+k1*S):=by grind
  have p1:=Int.mul_nonpos_of_nonneg_of_nonpos (show 0<=k1*e - k*e1 by omega) c0;have p2:=Int.mul_nonpos_of_nonneg_of_nonpos (show 0<=k*e0 - k0*e by omega) c1;refine Int.not_lt.1 fun hlt=>?_;have:=Int.mul_pos (show 0 < k1*e0 - k0*e1 by omega) hlt;omega
def fI (p:Lp) (m n:Nat) (a:List Int) : Int:=aT p a m*sumN (fun j=>p.costs[j]?.getD 0*(xL p a m (n+m))[j]?.getD 0) (n+m)
def dM (p:Lp) (b:List Int) (m n:Nat) (a:List Int) : Int:=aT p a m*sumN (fun j=>b[j]?.getD 0*(xL p a m (n+m))[j]?.getD 0) (n+m)
def dB (p:Lp) (m:Nat) (a:List Int) : Int:=aT p a m*aF p a m
theorem nN (p:Lp) (m n:Nat) (a:List Int) (h:Good p a m n) : 0 < dB p m a:=dD p a m h.den
theorem yY (p:Lp) (b:List Int) (m n:Nat) (e k:Int) (a:List Int) (hn:n=p.costs.length) (hb:b.length=n) : aT p a m*sumN (fun j=>(gV p.costs b e k n)[j]?.getD 0*(xL p a m (n+m))[j]?.getD 0) (n+m)=e*fI p m n a+k*dM p b m n a:=by
 unfold fI dM;have e1:sumN (fun j=>(gV p.costs b e k n)[j]?.getD 0*(xL p a m (n+m))[j]?.getD 0) (n+m)=sumN (fun j=>e*(p.costs[j]?.getD 0*(xL p a m (n+m))[j]?.getD 0)+k*(b[j]?.getD 0*(xL p a m (n+m))[j]?.getD 0)) (n+m):=ah _ _ _ fun j _=>by
  rw [xK p.costs b e k n hn.symm hb];grind
 rw [e1,dA,az,az];grind
theorem oD (p:Lp) (b:List Int) (m n:Nat) (e k:Int) (a c:List Int) (h1:1<=m) (h4:m<=4) (hm:m=p.rows.length) (hn:n=p.costs.length) (hb:b.length=n) (ht:mR p b m n e k a) (hg:Good p c m n) :
  (e*fI p m n c+k*dM p b m n c)*dB p m a<=(e*fI p m n a+k*dM p b m n a)*dB p m c:=by
 have l3:(gV p.costs b e k n).length=p.costs.length:=by rw [uE,hn]
 have h:=FD (aD p (gV p.costs b e k n)) a m n h1 h4 hm ((vK p b m n e k a h1 h4 hm hn hb).1 ht) (fun j=>aT p c m*(xL p c m (n+m))[j]?.getD 0) (dB p m c) (fun j _=>hg.x j) (fun i hi=>by
  have e1:sumN (fun j=>aC (aD p (gV p.costs b e k n)) j i*(aT p c m*(xL p c m (n+m))[j]?.getD 0)) (n+m)=aT p c m*sumN (fun j=>aC p j i*(xL p c m (n+m))[j]?.getD 0) (n+m):=by rw [<-az];exact ah _ _ _ fun j _=>by rw [gP p _ l3];grind
  rw [e1,mQ p c m (n+m) hg.right h1 h4 i hi];unfold dB;show _=aT p c m*aF p c m*dw p i;grind)
 rw [kG p _ l3,df p _ l3,Dx p _ l3,show (aD p (gV p.costs b e k n)).costs=gV p.costs b e k n from rfl,yY p b m n e k a hn hb] at h;have e2:sumN (fun j=>(gV p.costs b e k n)[j]?.getD 0*(aT p c m*(xL p c m (n+m))[j]?.getD 0)) (n+m)=e*fI p m n c+k*dM p b m n c:=by rw [<-yY p b m n e k c hn hb,<-az];exact ah _ _ _ fun j _=>by grind
 rw [e2] at h;rw [Int.mul_comm (e*fI p m n a+k*dM p b m n a)];exact h
theorem BF (p:Lp) (b:List Int) (m n:Nat) (e k:Int) (a:List Int) (h1:1<=m) (h4:m<=4) (hm:m=p.rows.length) (hn:n=p.costs.length) (hb:b.length=n) (ht:mR p b m n e k a) (r:Nat->Int) (hu:∀j,j < n+m->0<=r j) (hl:∀i,i < m->sumN (fun j=>aC p j i*r j) (n+m)=0) :
  e*sumN (fun j=>p.costs[j]?.getD 0*r j) (n+m)+k*sumN (fun j=>b[j]?.getD 0*r j) (n+m)<=0:=by
 have l3:(gV p.costs b e k n).length=p.costs.length:=by rw [uE,hn]
 have h:=FD (aD p (gV p.costs b e k n)) a m n h1 h4 hm ((vK p b m n e k a h1 h4 hm hn hb).1 ht) r 0 hu (fun i hi=>by
  rw [Int.zero_mul,<-hl i hi];exact ah _ _ _ fun j _=>by rw [gP p _ l3])
 rw [Int.zero_mul,kG p _ l3,df p _ l3,show (aD p (gV p.costs b e k n)).costs=gV p.costs b e k n from rfl] at h;have e1:sumN (fun j=>(gV p.costs b e k n)[j]?.getD 0*r j) (n+m)=e*sumN (fun j=>p.costs[j]?.getD 0*r j) (n+m)+k*sumN (fun j=>b[j]?.getD 0*r j) (n+m):=by rw [<-az,<-az,<-dA];exact ah _ _ _ fun j _=>by rw [xK p.costs b e k n hn.symm hb];grind
 rw [e1] at h;have hp:=nN p m n a ht.good;unfold dB at hp;refine Int.not_lt.1 fun hlt=>?_;have:=Int.mul_pos hlt hp;omega
theorem PR (p:Lp) (b:List Int) (m n:Nat) (e k:Int) (h1:1<=m) (h4:m<=4) (h8:n+m<=8) (hm:m=p.rows.length) (hn:n=p.costs.length) (hb:b.length=n) (g:List Int) (hg:Good p g m n) :
  (∃a,mR p b m n e k a)\/∃r:Nat->Int,(∀j,j < n+m->0<=r j)/\(∀i,i < m->sumN (fun j=>aC p j i*r j) (n+m)=0)/\0 < e*sumN (fun j=>p.costs[j]?.getD 0*r j) (n+m)+k*sumN (fun j=>b[j]?.getD 0*r j) (n+m):=by
 have l3:(gV p.costs b e k n).length=p.costs.length:=by rw [uE,hn]
 rcases Dw (aD p (gV p.costs b e k n)) g m n h1 h4 h8 hm ((sJ p _ l3 g m n).2 hg) with ⟨t,ht⟩|⟨r,hr⟩
 ·exact Or.inl ⟨t,(vK p b m n e k t h1 h4 hm hn hb).2 ht⟩
 ·refine Or.inr ⟨r,hr.up,fun i hi=>?_,?_⟩
  ·rw [<-hr.level i hi];exact ah _ _ _ fun j _=>by rw [gP p _ l3]
  ·have e1:sumN (fun j=>(gV p.costs b e k n)[j]?.getD 0*r j) (n+m)=e*sumN (fun j=>p.costs[j]?.getD 0*r j) (n+m)+k*sumN (fun j=>b[j]?.getD 0*r j) (n+m):=by rw [<-az,<-az,<-dA];exact ah _ _ _ fun j _=>by rw [xK p.costs b e k n hn.symm hb];grind
   rw [<-e1];exact hr.rise
theorem Au (p:Lp) (b:List Int) (m n:Nat) (h1:1<=m) (h4:m<=4) (h8:n+m<=8) (hm:m=p.rows.length) (hn:n=p.costs.length) (hb:b.length=n) (e0 k0 e1 k1 e k:Int) (p0:0 < e0) (p1:0 < e1) (pe:0 < e) (lo:k0*e<=k*e0) (hi:k*e1<=k1*e)
  (a0 a1:List Int) (t0:mR p b m n e0 k0 a0) (t1:mR p b m n e1 k1 a1) : ∃c,mR p b m n e k c:=by
 rcases PR p b m n e k h1 h4 h8 hm hn hb a0 t0.good with h|⟨r,r1,r2,r3⟩
 ·exact h
 ·have q0:=BF p b m n e0 k0 a0 h1 h4 hm hn hb t0 r r1 r2;have q1:=BF p b m n e1 k1 a1 h1 h4 hm hn hb t1 r r1 r2;have:=between e0 k0 e1 k1 e k _ _ p0 p1 pe lo hi q0 q1;omega
theorem Dy (p:Lp) (b:List Int) (m n:Nat) (h1:1<=m) (h4:m<=4) (hm:m=p.rows.length) (hn:n=p.costs.length) (hb:b.length=n) (e0 k0 e1 k1 e k:Int) (p0:0 < e0) (p1:0 < e1) (pe:0 < e) (lo:k0*e<=k*e0) (hi:k*e1<=k1*e)
  (a0 a1 c:List Int) (t0:mR p b m n e0 k0 a0) (t1:mR p b m n e1 k1 a1) (tc:mR p b m n e k c) (hB:fI p m n a0*dB p m a1=fI p m n a1*dB p m a0) (hS:dM p b m n a0*dB p m a1=dM p b m n a1*dB p m a0) :
  (e*fI p m n c+k*dM p b m n c)*dB p m a0=(e*fI p m n a0+k*dM p b m n a0)*dB p m c:=by
 have u0:=oD p b m n e0 k0 a0 c h1 h4 hm hn hb t0 tc.good;have u1:=oD p b m n e1 k1 a1 c h1 h4 hm hn hb t1 tc.good;have uc:=oD p b m n e k c a0 h1 h4 hm hn hb tc t0.good;have d0:=nN p m n a0 t0.good;have d1:=nN p m n a1 t1.good;generalize fI p m n a0=B0 at *;generalize fI p m n a1=B1 at *;generalize fI p m n c=Bc at *;generalize dM p b m n a0=S0 at *;generalize dM p b m n a1=S1 at *;generalize dM p b m n c=Sc at *;generalize dB p m a0=D0 at *;generalize dB p m a1=D1 at *;generalize dB p m c=Dc at *;have v0:e0*(Bc*D0 - B0*Dc)+k0*(Sc*D0 - S0*Dc)<=0:=by
  have:e0*(Bc*D0 - B0*Dc)+k0*(Sc*D0 - S0*Dc)=(e0*Bc+k0*Sc)*D0 - (e0*B0+k0*S0)*Dc:=by grind
  omega
 have v1:e1*(Bc*D0 - B0*Dc)+k1*(Sc*D0 - S0*Dc)<=0:=by
  have w1:D1*(e1*(Bc*D0 - B0*Dc)+k1*(Sc*D0 - S0*Dc))=D0*((e1*Bc+k1*Sc)*D1) - Dc*(e1*(B0*D1)+k1*(S0*D1)):=by grind
  have w2:Dc*(e1*(B1*D0)+k1*(S1*D0))=D0*((e1*B1+k1*S1)*Dc):=by grind
  rw [hB,hS,w2] at w1;have w3:=Int.mul_le_mul_of_nonneg_left u1 (Int.le_of_lt d0);refine Int.not_lt.1 fun hlt=>?_;have:=Int.mul_pos d1 hlt;omega
 have vc:=between e0 k0 e1 k1 e k _ _ p0 p1 pe lo hi v0 v1;have w:e*(Bc*D0 - B0*Dc)+k*(Sc*D0 - S0*Dc)=(e*Bc+k*Sc)*D0 - (e*B0+k*S0)*Dc:=by grind
 omega
def bB (p:Lp) (b:List Int) (m n:Nat) (a:List Int) : xh :=
 eD (fun j=>0 - (look p a).g[j]?.getD 0*(look (aD p b) a).gd) (fun j=>0 - (look (aD p b) a).g[j]?.getD 0*(look p a).gd) (n+m)
def MM (s:xh) (e k:Int) : Prop:=(s.o=true\/s.n*e<=k*s.d)/\(s.o2=true\/k*s.d2<=s.n2*e)
theorem yZ (p:Lp) (b:List Int) (m n:Nat) (a:List Int) (hm:m=p.rows.length) (hn:n=p.costs.length) (hb:b.length=n) (au:p.may=true) (ny:(aD p b).may=true) (hr:aH a m (n+m)=true) (hd:aF p a m≠0) :
  mh (fun j=>0 - (look p a).g[j]?.getD 0*(look (aD p b) a).gd) (fun j=>0 - (look (aD p b) a).g[j]?.getD 0*(look p a).gd) (n+m) (bB p b m n a) :=
 (yX p p.costs b a m n hm hn rfl (by omega) au ny hr hd).2
theorem y7 (p:Lp) (b:List Int) (m n:Nat) (a:List Int) (hm:m=p.rows.length) (hn:n=p.costs.length) (hb:b.length=n) (au:p.may=true) (ny:(aD p b).may=true) (hg:Good p a m n) (e k:Int) (he:0 < e) :
  mR p b m n e k a<->ig (bB p b m n a)=false/\MM (bB p b m n a) e k:=by
 have hal:=wM p p.costs b a m n hm hn rfl (by omega) au ny hg.right hg.den;rw [sI] at hal;have hs:=PQ _ _ (n+m) _ (yZ p b m n a hm hn hb au ny hg.right hg.den) k e he;unfold MM;rw [<-hs];have one:∀j:Nat,(0<=-(aT p a m*(aO p a m (n+m))[j]?.getD 0)*e+k * -(aT p a m*(aO (aD p b) a m (n+m))[j]?.getD 0))<->0<=(0 - (look p a).g[j]?.getD 0*(look (aD p b) a).gd)*e+k*(0 - (look (aD p b) a).g[j]?.getD 0*(look p a).gd):=by intro j;obtain ⟨u,l,u0,l0,eq⟩:=ME _ _ _ _ e k (hal j);have h2:=bE l ((0 - (look p a).g[j]?.getD 0*(look (aD p b) a).gd)*e+k*(0 - (look (aD p b) a).g[j]?.getD 0*(look p a).gd)) l0;rw [eq,bE u _ u0] at h2;exact h2
 exact ⟨fun h j hj=>(one j).1 (h.gain j hj),fun h=>⟨hg,fun j hj=>(one j).2 (h j hj)⟩⟩
def Yo (at':List Int) (k:Nat) : List Int:=(List.range at'.length).map fun i=>if i < k then at'[i]?.getD 0 else at'[k]?.getD 0+1+((i - k:Nat) : Int)
def PT (at':List Int) (N:Nat) : Nat->List Int
 | 0=>[]
 | k+1=>if at'[k]?.getD 0 < (N:Int) - ((at'.length:Int) - k) then Yo at' k else PT at' N k
def Yp (at':List Int) (N:Nat) : List Int:=PT at' N at'.length
def Wu (m:Nat) : List Int:=(List.range m).map fun (i:Nat)=>(i:Int)
def UZ (N:Nat) : Nat->List Int->List (List Int)
 | 0,_=>[]
 | _+1,[]=>[]
 | f+1,a :: l=>(a :: l) :: UZ N f (Yp (a :: l) N)
def Av (m N:Nat) : List (List Int):=UZ N 71 (Wu m)
def MN (l:List Int) (ls:List (List Int)) : Bool:=ls.any fun x=>x == l
theorem Yq:∀n:Fin 4,∀a:Fin 8,aH [(a:Nat)] 1 (n+1+1)=true->MN [(a:Nat)] (Av 1 (n+1+1))=true:=by decide +kernel
theorem Yr:∀n:Fin 4,∀a b:Fin 8,aH [(a:Nat),(b:Nat)] 2 (n+1+2)=true->MN [(a:Nat),(b:Nat)] (Av 2 (n+1+2))=true:=by decide +kernel
theorem Yt:∀n:Fin 4,∀a b c:Fin 8,aH [(a:Nat),(b:Nat),(c:Nat)] 3 (n+1+3)=true->MN [(a:Nat),(b:Nat),(c:Nat)] (Av 3 (n+1+3))=true:=by decide +kernel
theorem Yu:∀n:Fin 4,∀a b c d:Fin 8,aH [(a:Nat),(b:Nat),(c:Nat),(d:Nat)] 4 (n+1+4)=true->MN [(a:Nat),(b:Nat),(c:Nat),(d:Nat)] (Av 4 (n+1+4))=true:=by decide +kernel
theorem PU (l:List Int) (ls:List (List Int)) (h:MN l ls=true) : l∈ls:=by unfold MN at h;rw [List.any_eq_true] at h;obtain ⟨x,hx,he⟩:=h;rw [beq_iff_eq] at he;subst he;exact hx
theorem FE (at':List Int) (m n:Nat) (h1:1<=m) (h4:m<=4) (hn1:1<=n) (NR:n<=4) (hr:aH at' m (n+m)=true) : at'∈Av m (n+m):=by
 obtain ⟨hl,hk⟩:=bf at' m (n+m) hr;have hv:=Po at' m (n+m) hr;have h8:∀i,aZ at' i < 8:=qi at' m (n+m) hr (by omega);obtain ⟨n,rfl⟩ : ∃k,n=k+1:=⟨n - 1,by omega⟩;have h8':=h8;refine PU _ _ ?_
 match at',m,h1,h4,hl with
 | [a],1,_,_,_ =>have a0:=hv 0 (by omega);simp only [List.getElem?_cons_zero,Option.getD_some] at a0;have:=Yq ⟨n,by omega⟩ ⟨aZ [a] 0,h8 0⟩;dsimp only at this;rw [<-a0] at this;exact this hr
 | [a,b],2,_,_,_ =>have a0:=hv 0 (by omega);have a1:=hv 1 (by omega);simp only [List.getElem?_cons_zero,List.getElem?_cons_succ,Option.getD_some] at a0 a1;have:=Yr ⟨n,by omega⟩ ⟨aZ [a,b] 0,h8 0⟩ ⟨aZ [a,b] 1,h8 1⟩;dsimp only at this;rw [<-a0,<-a1] at this;exact this hr
 | [a,b,c],3,_,_,_ =>have a0:=hv 0 (by omega);have a1:=hv 1 (by omega);have a2:=hv 2 (by omega);simp only [List.getElem?_cons_zero,List.getElem?_cons_succ,Option.getD_some] at a0 a1 a2;have:=Yt ⟨n,by omega⟩ ⟨aZ [a,b,c] 0,h8 0⟩ ⟨aZ [a,b,c] 1,h8 1⟩ ⟨aZ [a,b,c] 2,h8 2⟩;dsimp only at this;rw [<-a0,<-a1,<-a2] at this;exact this hr
 | [a,b,c,d],4,_,_,_ =>have a0:=hv 0 (by omega);have a1:=hv 1 (by omega);have a2:=hv 2 (by omega);have a3:=hv 3 (by omega);simp only [List.getElem?_cons_zero,List.getElem?_cons_succ,Option.getD_some] at a0 a1 a2 a3;have:=Yu ⟨n,by omega⟩ ⟨aZ [a,b,c,d] 0,h8 0⟩ ⟨aZ [a,b,c,d] 1,h8 1⟩ ⟨aZ [a,b,c,d] 2,h8 2⟩ ⟨aZ [a,b,c,d] 3,h8 3⟩;dsimp only at this;rw [<-a0,<-a1,<-a2,<-a3] at this;exact this hr
def Iy (l:List Int) : Bool:=l.any fun n=>decide (0 < n)
theorem Dz (l:List Int) : Iy l=false<->∀j:Nat,l[j]?.getD 0<=0:=by
 unfold Iy;rw [List.any_eq_false];constructor
 ·intro h j;by_cases hj:j < l.length
  ·have:=h _ (List.getElem_mem hj);rw [List.getElem?_eq_getElem hj,Option.getD_some];simpa using this
  ·rw [List.getElem?_eq_none (by omega)];simp
 ·intro h x hx;obtain ⟨j,hj,rfl⟩:=List.getElem_of_mem hx;have:=h j;rw [List.getElem?_eq_getElem hj,Option.getD_some] at this;simpa using this
def iP (p:Lp) (at':List Int) : Bool:=decide ((look p at').err=0) && !bO (look p at').x
def TG (p:Lp) (at':List Int) : Bool:=iP p at' && !Iy (look p at').g
theorem jk (p:Lp) (at':List Int) (m n:Nat) (au:p.may=true) (hm:m=p.rows.length) (hn:n=p.costs.length) : iP p at'=true<->Good p at' m n:=by unfold iP;rw [<-iY p at' m n au hm hn];simp
theorem FH (p:Lp) (at':List Int) (m n:Nat) (au:p.may=true) (hm:m=p.rows.length) (hn:n=p.costs.length) : TG p at'=true<->Ii p at' m n:=by
 unfold TG;rw [Bool.and_eq_true,jk p at' m n au hm hn,Bool.not_eq_true',Dz];constructor
 ·rintro ⟨hg,h⟩;obtain ⟨_,_,_,_,_,_,gg,_,Ia,_,_,hgn⟩:=bK p at' m n au hm hn hg.right hg.den;exact ⟨hg,fun j _=>by rw [hgn j];exact Int.mul_nonpos_of_nonneg_of_nonpos (Int.le_of_lt Ia) (h j)⟩
 ·intro ht;obtain ⟨_,_,hl,_,_,_,gg,_,Ia,_,_,hgn⟩:=bK p at' m n au hm hn ht.right ht.den;refine ⟨ht.toGood,fun j=>?_⟩;by_cases hj:j < n+m
  ·have:=ht.gain j hj;rw [hgn j] at this;refine Int.not_lt.1 fun h=>?_;have:=Int.mul_pos Ia h;omega
  ·rw [List.getElem?_eq_none (by omega)];simp
def PV (p:Lp) : Int:=if (Av p.rows.length (p.costs.length+p.rows.length)).any (TG p)=true then 1 else if (Av p.rows.length (p.costs.length+p.rows.length)).any (iP p)=true then 2 else 3
theorem PW (p:Lp) (au:p.may=true) : Dn p p.rows.length p.costs.length (PV p):=by
 obtain ⟨hc,_,hr,_⟩:=p.aj au;have full:=fun at'=>FE at' p.rows.length p.costs.length hr.1 hr.2 hc.1 hc.2;unfold PV;by_cases h1:(Av p.rows.length (p.costs.length+p.rows.length)).any (TG p)=true
 ·rw [if_pos h1];obtain ⟨t,_,ht⟩:=List.any_eq_true.1 h1;exact Or.inl ⟨rfl,t,(FH p t _ _ au rfl rfl).1 ht⟩
 ·rw [if_neg h1];have no:¬ ∃t,Ii p t p.rows.length p.costs.length:=by rintro ⟨t,ht⟩;exact h1 (List.any_eq_true.2 ⟨t,full t ht.right,(FH p t _ _ au rfl rfl).2 ht⟩)
  by_cases h2:(Av p.rows.length (p.costs.length+p.rows.length)).any (iP p)=true
  ·rw [if_pos h2];obtain ⟨g,_,hg⟩:=List.any_eq_true.1 h2;exact Or.inr (Or.inl ⟨rfl,no,g,(jk p g _ _ au rfl rfl).1 hg⟩)
  ·rw [if_neg h2];refine Or.inr (Or.inr ⟨rfl,?_⟩);rintro ⟨g,hg⟩;exact h2 (List.any_eq_true.2 ⟨g,full g hg.right,(jk p g _ _ au rfl rfl).2 hg⟩)
theorem wN (p:Lp) (a:pK) (h:holds p a=true) : a.kind=PV p:=by
 cases au:p.may with
 | false=>rw [qb p a au] at h;exact absurd h (by decide)
 | true=>exact PE p _ _ _ _ (Ik p a _ _ rfl rfl h) (PW p au)
structure En where
 o:Bool
 n:Int
 d:Int
 deriving DecidableEq
structure Pc where
 f:En
 t:En
 bn:Int
 bd:Int
 sn:Int
 sd:Int
 deriving DecidableEq
def MO (f:En) (e k:Int) : Prop:=f.o=true\/f.n*e<=k*f.d
def MP (t:En) (e k:Int) : Prop:=t.o=true\/k*t.d<=t.n*e
def qw (s:xh) : En:=⟨s.o,s.n,s.d⟩
def PX (s:xh) : En:=⟨s.o2,s.n2,s.d2⟩
def gm (a:En) : Prop:=(a.o=true/\a.n=0/\a.d=0)\/(a.o=false/\bZ a.d [a.n]=true)
theorem gm.pos {a:En} (h:gm a) (ho:a.o=false) : 0 < a.d/\a.d<=1073741824:=by
 rcases h with ⟨h1,_⟩|⟨_,h2⟩
 ·rw [ho] at h1;cases h1
 ·exact ⟨dK _ _ h2,(fw _ _ h2).2.1⟩
theorem gm.open {a:En} (h:gm a) (ho:a.o=true) : a=⟨true,0,0⟩:=by
 obtain ⟨o,n,d⟩:=a;simp only at ho;subst ho;rcases h with ⟨_,h1,h2⟩|⟨h1,_⟩
 ·simp only at h1 h2;rw [h1,h2]
 ·cases h1
theorem TH (a b:Nat->Int) (N:Nat) (s:xh) (h:mh a b N s) : gm (qw s):=by
 rcases h.lo with ⟨h1,h2,h3,_⟩|⟨h1,h2,_⟩
 ·exact Or.inl ⟨h1,h2,h3⟩
 ·exact Or.inr ⟨h1,h2⟩
theorem Yv (a b:Nat->Int) (N:Nat) (s:xh) (h:mh a b N s) : gm (PX s):=by
 rcases h.hi with ⟨h1,h2,h3,_⟩|⟨h1,h2,_⟩
 ·exact Or.inl ⟨h1,h2,h3⟩
 ·exact Or.inr ⟨h1,h2⟩
def oF (a b:En) : En:=if a.o=true\/b.o=true then ⟨true,0,0⟩ else if a.n*b.d<=b.n*a.d then a else b
def lC (a b:En) : En:=if a.o=true\/b.o=true then ⟨true,0,0⟩ else if b.n*a.d<=a.n*b.d then a else b
theorem vL (a b:En) (ha:gm a) (hb:gm b) : oF a b=a\/oF a b=b:=by
 unfold oF;by_cases h1:a.o=true
 ·rw [if_pos (Or.inl h1)];exact Or.inl (ha.open h1).symm
 ·by_cases h2:b.o=true
  ·rw [if_pos (Or.inr h2)];exact Or.inr (hb.open h2).symm
  ·rw [if_neg (fun h=>h.elim h1 h2)];split
   ·exact Or.inl rfl
   ·exact Or.inr rfl
theorem sK (a b:En) (ha:gm a) (hb:gm b) : lC a b=a\/lC a b=b:=by
 unfold lC;by_cases h1:a.o=true
 ·rw [if_pos (Or.inl h1)];exact Or.inl (ha.open h1).symm
 ·by_cases h2:b.o=true
  ·rw [if_pos (Or.inr h2)];exact Or.inr (hb.open h2).symm
  ·rw [if_neg (fun h=>h.elim h1 h2)];split
   ·exact Or.inl rfl
   ·exact Or.inr rfl
theorem DC (n d n' d' k e:Int) (hd:0 < d) (hd':0 < d') (he:0 < e) (h:n*d'<=n'*d) (h2:n'*e<=k*d') : n*e<=k*d:=by
 have p1:=Int.mul_le_mul_of_nonneg_right h (Int.le_of_lt he);have p2:=Int.mul_le_mul_of_nonneg_right h2 (Int.le_of_lt hd);have s1:n*d'*e=d'*(n*e):=by grind
 have s2:n'*d*e=n'*e*d:=by grind
 have s3:k*d'*d=d'*(k*d):=by grind
 exact Int.le_of_mul_le_mul_left (by omega) hd'
theorem KU (n d n' d' k e:Int) (hd:0 < d) (hd':0 < d') (he:0 < e) (h:n'*d<=n*d') (h2:k*d'<=n'*e) : k*d<=n*e:=by have:=DC (-n) d (-n') d' (-k) e hd hd' he (by rw [Int.neg_mul,Int.neg_mul];omega) (by rw [Int.neg_mul,Int.neg_mul];omega);rw [Int.neg_mul,Int.neg_mul] at this;omega
theorem nO (a b:En) (ha:gm a) (hb:gm b) (e k:Int) (he:0 < e) (h:MO a e k\/MO b e k) : MO (oF a b) e k:=by
 unfold oF;by_cases h1:a.o=true\/b.o=true
 ·rw [if_pos h1];exact Or.inl rfl
 ·rw [if_neg h1];have ao:a.o=false:=by simpa using fun h=>h1 (Or.inl h)
  have bo:b.o=false:=by simpa using fun h=>h1 (Or.inr h)
  have ap:=(ha.pos ao).1;have bp:=(hb.pos bo).1;have h':a.n*e<=k*a.d\/b.n*e<=k*b.d:=by
   rcases h with (h|h)|(h|h)
   ·rw [ao] at h;cases h
   ·exact Or.inl h
   ·rw [bo] at h;cases h
   ·exact Or.inr h
  by_cases hc:a.n*b.d<=b.n*a.d
  ·rw [if_pos hc];exact Or.inr (h'.elim id fun h=>DC _ _ _ _ _ _ ap bp he hc h)
  ·rw [if_neg hc];exact Or.inr (h'.elim (fun h=>DC _ _ _ _ _ _ bp ap he (by omega) h) id)
theorem lL (a b:En) (ha:gm a) (hb:gm b) (e k:Int) (he:0 < e) (h:MP a e k\/MP b e k) : MP (lC a b) e k:=by
 unfold lC;by_cases h1:a.o=true\/b.o=true
 ·rw [if_pos h1];exact Or.inl rfl
 ·rw [if_neg h1];have ao:a.o=false:=by simpa using fun h=>h1 (Or.inl h)
  have bo:b.o=false:=by simpa using fun h=>h1 (Or.inr h)
  have ap:=(ha.pos ao).1;have bp:=(hb.pos bo).1;have h':k*a.d<=a.n*e\/k*b.d<=b.n*e:=by
   rcases h with (h|h)|(h|h)
   ·rw [ao] at h;cases h
   ·exact Or.inl h
   ·rw [bo] at h;cases h
   ·exact Or.inr h
  by_cases hc:b.n*a.d<=a.n*b.d
  ·rw [if_pos hc];exact Or.inr (h'.elim id fun h=>KU _ _ _ _ _ _ ap bp he hc h)
  ·rw [if_neg hc];exact Or.inr (h'.elim (fun h=>KU _ _ _ _ _ _ bp ap he (by omega) h) id)
def bW (y x:Pc) : Prop:=y.bn=x.bn/\y.bd=x.bd/\y.sn=x.sn/\y.sd=x.sd
instance (y x : Pc) : Decidable (bW y x):=by unfold bW;infer_instance
def dF (y x:Pc) : Pc:={ y with f:=oF y.f x.f,t:=lC y.t x.t }
def joinedN:List Pc->Pc->List Pc
 | [],x=>[x]
 | y :: l,x=>if bW y x then dF y x :: l else y :: joinedN l x
theorem oG (x y:Pc) : ∀l,y∈joinedN l x->y∈l\/y=x\/∃z∈l,bW z x/\y=dF z x:=by
 intro l
 induction l with
 | nil =>intro h;exact Or.inr (Or.inl (by simpa [joinedN] using h))
 | cons z l ih =>
  intro h;unfold joinedN at h;by_cases hs:bW z x
  ·rw [if_pos hs] at h;rcases List.mem_cons.1 h with h|h
   ·exact Or.inr (Or.inr ⟨z,by simp,hs,h⟩)
   ·exact Or.inl (by simp [h])
  ·rw [if_neg hs] at h;rcases List.mem_cons.1 h with h|h
   ·exact Or.inl (by simp [h])
   ·rcases ih h with h|h|⟨w,h1,h2,h3⟩
    ·exact Or.inl (by simp [h])
    ·exact Or.inr (Or.inl h)
    ·exact Or.inr (Or.inr ⟨w,by simp [h1],h2,h3⟩)
theorem wO (x z:Pc) : ∀l,z∈l->z∈joinedN l x\/(bW z x/\dF z x∈joinedN l x):=by
 intro l
 induction l with
 | nil=>intro h;cases h
 | cons y l ih =>
  intro h;unfold joinedN;by_cases hs:bW y x
  ·rw [if_pos hs];rcases List.mem_cons.1 h with h|h
   ·subst h;exact Or.inr ⟨hs,by simp⟩
   ·exact Or.inl (by simp [h])
  ·rw [if_neg hs];rcases List.mem_cons.1 h with h|h
   ·exact Or.inl (by simp [h])
   ·rcases ih h with h|⟨h1,h2⟩
    ·exact Or.inl (by simp [h])
    ·exact Or.inr ⟨h1,by simp [h2]⟩
theorem y9 (x:Pc) : ∀l,x∈joinedN l x\/∃z∈l,bW z x/\dF z x∈joinedN l x:=by
 intro l
 induction l with
 | nil=>exact Or.inl (by simp [joinedN])
 | cons y l ih =>
  unfold joinedN;by_cases hs:bW y x
  ·rw [if_pos hs];exact Or.inr ⟨y,by simp,hs,by simp⟩
  ·rw [if_neg hs];rcases ih with h|⟨z,h1,h2,h3⟩
   ·exact Or.inl (by simp [h])
   ·exact Or.inr ⟨z,by simp [h1],h2,by simp [h3]⟩
def rH (p:Lp) (n:Nat) (a:List Int) : Int×Int×Int:=mk (dotN p.costs (look p a).x n) (look p a).xd
def nz (p:Lp) (b:List Int) (n:Nat) (a:List Int) : Int×Int×Int:=mk (dotN b (look p a).x n) (look p a).xd
def bU (p:Lp) (b:List Int) (m n:Nat) (a:List Int) : Pc:=⟨qw (bB p b m n a),PX (bB p b m n a),(rH p n a).1,(rH p n a).2.1,(nz p b n a).1,(nz p b n a).2.1⟩
def eF (p:Lp) (b:List Int) (m n:Nat) (a:List Int) : Bool:=iP p a && !ig (bB p b m n a)
def bJ (p:Lp) (b:List Int) (m n:Nat) (all:List (List Int)) : List Pc:=all.foldl (fun l a=>if eF p b m n a=true then joinedN l (bU p b m n a) else l) []
def ze (x:Pc) : Bool := !x.f.o && !x.t.o && decide (x.f.n=x.t.n/\x.f.d=x.t.d)
structure Ctx (p:Lp) (b:List Int) (m n:Nat) : Prop where
 hm:m=p.rows.length
 hn:n=p.costs.length
 hb:b.length=n
 may:p.may=true
 FI:(aD p b).may=true
section
variable {p:Lp} {b:List Int} {m n:Nat}
theorem Ctx.h1 (h:Ctx p b m n) : 1<=m:=by have:=(p.aj h.may).2.2.1.1;have:=h.hm;omega
theorem Ctx.h4 (h:Ctx p b m n) : m<=4:=by have:=(p.aj h.may).2.2.1.2;have:=h.hm;omega
theorem Ctx.n1 (h:Ctx p b m n) : 1<=n:=by have:=(p.aj h.may).1.1;have:=h.hn;omega
theorem Ctx.n4 (h:Ctx p b m n) : n<=4:=by have:=(p.aj h.may).1.2;have:=h.hn;omega
theorem Ctx.h8 (h:Ctx p b m n) : n+m<=8:=by have:=h.h4;have:=h.n4;omega
theorem Ctx.used (h:Ctx p b m n) (a:List Int) : eF p b m n a=true<->Good p a m n/\ig (bB p b m n a)=false:=by unfold eF;rw [Bool.and_eq_true,jk p a m n h.may h.hm h.hn,Bool.not_eq_true']
theorem Ctx.isS (h:Ctx p b m n) (a:List Int) (hg:Good p a m n) : mh (fun j=>0 - (look p a).g[j]?.getD 0*(look (aD p b) a).gd) (fun j=>0 - (look (aD p b) a).g[j]?.getD 0*(look p a).gd) (n+m) (bB p b m n a) :=
 yZ p b m n a h.hm h.hn h.hb h.may h.FI hg.right hg.den
theorem Ctx.top (h:Ctx p b m n) (a:List Int) (e k:Int) (he:0 < e) : mR p b m n e k a<->eF p b m n a=true/\MM (bB p b m n a) e k:=by
 rw [h.used];constructor
 ·intro ht;have:=(y7 p b m n a h.hm h.hn h.hb h.may h.FI ht.good e k he).1 ht;exact ⟨⟨ht.good,this.1⟩,this.2⟩
 ·rintro ⟨⟨h1,h2⟩,h3⟩;exact (y7 p b m n a h.hm h.hn h.hb h.may h.FI h1 e k he).2 ⟨h2,h3⟩
theorem nP (h:Ctx p b m n) (a:List Int) (hg:Good p a m n) (c:List Int) (hc:c.length=n) (hw:aB 400 c=true) :
  ∃x y,mk (dotN c (look p a).x n) (look p a).xd=(x,y,0)/\bZ y [x]=true/\aT p a m*sumN (fun j=>c[j]?.getD 0*(xL p a m (n+m))[j]?.getD 0) (n+m)*y=x*dB p m a:=by
 obtain ⟨_,_,_,hxd,hxb,gx,_,Di,_,hx,hd,_⟩:=bK p a m n h.may h.hm h.hn hg.right hg.den;have n4:=h.n4;have bd:=jq c (look p a).x 400 497664 (aJ _ _ hw (by omega)) hxb n;have RO : -1073741824<=dotN c (look p a).x n/\dotN c (look p a).x n<=1073741824:=by omega
 obtain ⟨x,y,e1,e2,e3,_,_,_,e7⟩:=JQ (look p a).xd (dotN c (look p a).x n) (by omega) (by omega) (by omega) (yQ _ _ (by omega) RO (by omega));refine ⟨x,y,e1,e7,?_⟩;have s1:aT p a m*sumN (fun j=>c[j]?.getD 0*(xL p a m (n+m))[j]?.getD 0) (n+m)=gx*dotN c (look p a).x n:=by
  rw [<-az,aX,ic,<-az];have z:sumN (fun i=>aT p a m*(c[n+i]?.getD 0*(xL p a m (n+m))[n+i]?.getD 0)) m=0:=(ah _ (fun _=>0) _ fun i _=>by
   rw [List.getElem?_eq_none (l:=c) (by omega)];simp).trans (bM m)
  rw [z,Int.add_zero];refine ah _ _ _ fun j _=>?_;have:=hx j;have e:aT p a m*(c[j]?.getD 0*(xL p a m (n+m))[j]?.getD 0)=c[j]?.getD 0*(aT p a m*(xL p a m (n+m))[j]?.getD 0):=by grind
  rw [e,this];grind
 rw [s1];unfold dB;rw [hd];have:x*(gx*(look p a).xd)=gx*(x*(look p a).xd):=by grind
 rw [this,e2];grind
theorem Ctx.base (h:Ctx p b m n) (a:List Int) (hg:Good p a m n) : 0 < (rH p n a).2.1/\fI p m n a*(rH p n a).2.1=(rH p n a).1*dB p m a:=by obtain ⟨x,y,e1,e2,e3⟩:=nP h a hg p.costs h.hn.symm (p.aj h.may).2.1;unfold rH;rw [e1];exact ⟨dK y x e2,e3⟩
theorem Ctx.PY (h:Ctx p b m n) (a:List Int) (hg:Good p a m n) : 0 < (nz p b n a).2.1/\dM p b m n a*(nz p b n a).2.1=(nz p b n a).1*dB p m a:=by obtain ⟨x,y,e1,e2,e3⟩:=nP h a hg b h.hb ((aD p b).aj h.FI).2.1;unfold nz;rw [e1];exact ⟨dK y x e2,e3⟩
structure Inv (p:Lp) (b:List Int) (m n:Nat) (Q:List Int->Prop) (l:List Pc) : Prop where
 own:∀y∈l,∃a0 a1,eF p b m n a0=true/\eF p b m n a1=true/\y.f=qw (bB p b m n a0)/\y.t=PX (bB p b m n a1)/\bW y (bU p b m n a0)/\bW y (bU p b m n a1)/\
  (∀e k,0 < e->MM (bB p b m n a0) e k->MP y.t e k)/\(∀e k,0 < e->MM (bB p b m n a1) e k->MO y.f e k)
 all:∀a,Q a->eF p b m n a=true->∃y∈l,∀e k,0 < e->MM (bB p b m n a) e k->MO y.f e k/\MP y.t e k
theorem Ctx.sM (h:Ctx p b m n) (a:List Int) (hu:eF p b m n a=true) : gm (qw (bB p b m n a)):=TH _ _ _ _ (h.isS a ((h.used a).1 hu).1)
theorem Ctx.toOk (h:Ctx p b m n) (a:List Int) (hu:eF p b m n a=true) : gm (PX (bB p b m n a)):=Yv _ _ _ _ (h.isS a ((h.used a).1 hu).1)
theorem TI:Inv p b m n (fun _=>False) []:=⟨fun y hy=>(by cases hy),fun a (ha:False)=>ha.elim⟩
theorem PZ (Q:List Int->Prop) (l:List Pc) (h:Inv p b m n Q l) (a:List Int) (hu:¬ eF p b m n a=true) : Inv p b m n (fun z=>Q z\/z=a) l:=by
 refine ⟨h.own,fun z hz hzu=>?_⟩;rcases hz with hz|hz
 ·exact h.all z hz hzu
 ·rw [hz] at hzu;exact absurd hzu hu
theorem P5 (cx:Ctx p b m n) (Q:List Int->Prop) (l:List Pc) (h:Inv p b m n Q l) (a:List Int) (hu:eF p b m n a=true) : Inv p b m n (fun z=>Q z\/z=a) (joinedN l (bU p b m n a)):=by
 have fa:=cx.sM a hu;have ta:=cx.toOk a hu;have K3:∀z∈l,gm z.f:=fun z hz=>by
  obtain ⟨a0,a1,u0,u1,q1,q2,_⟩:=h.own z hz;rw [q1];exact cx.sM a0 u0
 have K4:∀z∈l,gm z.t:=fun z hz=>by
  obtain ⟨a0,a1,u0,u1,q1,q2,_⟩:=h.own z hz;rw [q2];exact cx.toOk a1 u1
 refine ⟨fun y hy=>?_,fun z hz hzu=>?_⟩
 ·rcases oG _ y l hy with hy|hy|⟨z,hz,hs,hy⟩
  ·exact h.own y hy
  ·subst hy;exact ⟨a,a,hu,hu,rfl,rfl,⟨rfl,rfl,rfl,rfl⟩,⟨rfl,rfl,rfl,rfl⟩,fun e k _ hin=>hin.2,fun e k _ hin=>hin.1⟩
  ·subst hy;obtain ⟨a0,a1,u0,u1,q1,q2,s0,s1,i0,i1⟩:=h.own z hz;have hx0:∃a0',eF p b m n a0'=true/\(dF z (bU p b m n a)).f=qw (bB p b m n a0')/\bW (dF z (bU p b m n a)) (bU p b m n a0')/\∀e k,0 < e->MM (bB p b m n a0') e k->MP (dF z (bU p b m n a)).t e k:=by
    rcases vL z.f (bU p b m n a).f (K3 z hz) fa with e1|e1
    ·exact ⟨a0,u0,e1.trans q1,s0,fun e k he hin=>lL z.t _ (K4 z hz) ta e k he (Or.inl (i0 e k he hin))⟩
    ·exact ⟨a,hu,e1,hs,fun e k he hin=>lL z.t _ (K4 z hz) ta e k he (Or.inr hin.2)⟩
   have hx1:∃a1',eF p b m n a1'=true/\(dF z (bU p b m n a)).t=PX (bB p b m n a1')/\bW (dF z (bU p b m n a)) (bU p b m n a1')/\∀e k,0 < e->MM (bB p b m n a1') e k->MO (dF z (bU p b m n a)).f e k:=by
    rcases sK z.t (bU p b m n a).t (K4 z hz) ta with e1|e1
    ·exact ⟨a1,u1,e1.trans q2,s1,fun e k he hin=>nO z.f _ (K3 z hz) fa e k he (Or.inl (i1 e k he hin))⟩
    ·exact ⟨a,hu,e1,hs,fun e k he hin=>nO z.f _ (K3 z hz) fa e k he (Or.inr hin.1)⟩
   obtain ⟨c0,d1,d2,d3,d4⟩:=hx0;obtain ⟨c1,f1,f2,f3,f4⟩:=hx1;exact ⟨c0,c1,d1,f1,d2,f2,d3,f3,d4,f4⟩
 ·rcases hz with hz|hz
  ·obtain ⟨y,hy,hin⟩:=h.all z hz hzu;rcases wO (bU p b m n a) y l hy with hk|⟨_,hk⟩
   ·exact ⟨y,hk,hin⟩
   ·exact ⟨_,hk,fun e k he hi=>⟨nO y.f _ (K3 y hy) fa e k he (Or.inl (hin e k he hi).1),lL y.t _ (K4 y hy) ta e k he (Or.inl (hin e k he hi).2)⟩⟩
  ·subst hz;rcases y9 (bU p b m n z) l with hk|⟨y,hy,_,hk⟩
   ·exact ⟨_,hk,fun e k _ hi=>hi⟩
   ·exact ⟨_,hk,fun e k he hi=>⟨nO y.f _ (K3 y hy) fa e k he (Or.inr hi.1),lL y.t _ (K4 y hy) ta e k he (Or.inr hi.2)⟩⟩
theorem MQ (cx:Ctx p b m n) : ∀(all:List (List Int)) (Q:List Int->Prop) (l:List Pc),Inv p b m n Q l->Inv p b m n (fun z=>Q z\/z∈all) (all.foldl (fun l a=>if eF p b m n a=true then joinedN l (bU p b m n a) else l) l):=by
 intro all
 induction all with
 | nil =>intro Q l h;exact ⟨h.own,fun a ha hu=>h.all a (by simpa using ha) hu⟩
 | cons a all ih =>
  intro Q l h;rw [List.foldl_cons];have h2:Inv p b m n (fun z=>Q z\/z=a) (if eF p b m n a=true then joinedN l (bU p b m n a) else l):=by
   by_cases hu:eF p b m n a=true
   ·rw [if_pos hu];exact P5 cx Q l h a hu
   ·rw [if_neg hu];exact PZ Q l h a hu
  have h3:=ih _ _ h2;refine ⟨h3.own,fun z hz hu=>h3.all z ?_ hu⟩;rcases hz with hz|hz
  ·exact Or.inl (Or.inl hz)
  ·rcases List.mem_cons.1 hz with hz|hz
   ·exact Or.inl (Or.inr hz)
   ·exact Or.inr hz
theorem MR (cx:Ctx p b m n) (all:List (List Int)) : Inv p b m n (·∈all) (bJ p b m n all):=by have h:=MQ cx all (fun _=>False) [] TI;exact ⟨h.own,fun a ha hu=>h.all a (Or.inr ha) hu⟩
theorem K5 (s:xh) (hs:ig s=false) (ho:s.o=false) : MM s s.d s.n:=by
 unfold ig at hs;rw [Bool.or_eq_false_iff] at hs;refine ⟨Or.inr (Int.le_refl _),?_⟩;by_cases ho2:s.o2=true
 ·exact Or.inl ho2
 ·refine Or.inr ?_;have h2:=hs.2;rw [ho,show s.o2=false by simpa using ho2] at h2;simp only [Bool.not_false,Bool.true_and,decide_eq_false_iff_not] at h2;omega
theorem U0 (s:xh) (hs:ig s=false) (ho:s.o2=false) : MM s s.d2 s.n2:=by
 unfold ig at hs;rw [Bool.or_eq_false_iff] at hs;refine ⟨?_,Or.inr (Int.le_refl _)⟩;by_cases ho2:s.o=true
 ·exact Or.inl ho2
 ·refine Or.inr ?_;have h2:=hs.2;rw [ho,show s.o=false by simpa using ho2] at h2;simp only [Bool.not_false,Bool.true_and,decide_eq_false_iff_not] at h2;omega
theorem MS (cx:Ctx p b m n) (a:List Int) (hu:eF p b m n a=true) (e k:Int) (he:0 < e) (h:MO (qw (bB p b m n a)) e k) : ∃e0 k0,0 < e0/\k0*e<=k*e0/\MM (bB p b m n a) e0 k0:=by
 by_cases hh:MP (PX (bB p b m n a)) e k
 ·exact ⟨e,k,he,Int.le_refl _,h,hh⟩
 ·have ho:(bB p b m n a).o2=false:=Bool.eq_false_iff.2 fun ho=>hh (Or.inl ho);have hp:=((cx.toOk a hu).pos ho).1;refine ⟨(bB p b m n a).d2,(bB p b m n a).n2,hp,?_,U0 _ ((cx.used a).1 hu).2 ho⟩;have:=fun h=>hh (Or.inr h);have:=Int.not_le.1 this;exact Int.le_of_lt this
theorem IA (cx:Ctx p b m n) (a:List Int) (hu:eF p b m n a=true) (e k:Int) (he:0 < e) (h:MP (PX (bB p b m n a)) e k) : ∃e1 k1,0 < e1/\k*e1<=k1*e/\MM (bB p b m n a) e1 k1:=by
 by_cases hh:MO (qw (bB p b m n a)) e k
 ·exact ⟨e,k,he,Int.le_refl _,hh,h⟩
 ·have ho:(bB p b m n a).o=false:=Bool.eq_false_iff.2 fun ho=>hh (Or.inl ho);have hp:=((cx.sM a hu).pos ho).1;refine ⟨(bB p b m n a).d,(bB p b m n a).n,hp,?_,K5 _ ((cx.used a).1 hu).2 ho⟩;have:=fun h=>hh (Or.inr h);have:=Int.not_le.1 this;exact Int.le_of_lt this
theorem MU (cx:Ctx p b m n) (Q:List Int->Prop) (l:List Pc) (h:Inv p b m n Q l) (y:Pc) (hy:y∈l) (e k:Int) (he:0 < e) (hlo:MO y.f e k) (hhi:MP y.t e k) :
  (∃c,mR p b m n e k c)/\(0 < y.bd/\0 < y.sd)/\∀c,mR p b m n e k c->(e*fI p m n c+k*dM p b m n c)*(y.bd*y.sd)=(e*(y.bn*y.sd)+k*(y.sn*y.bd))*dB p m c:=by
 obtain ⟨a0,a1,u0,u1,q1,q2,s0,s1,_,_⟩:=h.own y hy;rw [q1] at hlo;rw [q2] at hhi;obtain ⟨e0,k0,p0,l0,in0⟩:=MS cx a0 u0 e k he hlo;obtain ⟨e1,k1,p1,l1,in1⟩:=IA cx a1 u1 e k he hhi;have t0:=(cx.top a0 e0 k0 p0).2 ⟨u0,in0⟩;have t1:=(cx.top a1 e1 k1 p1).2 ⟨u1,in1⟩;obtain ⟨b0p,b0⟩:=cx.base a0 t0.good;obtain ⟨b1p,b1⟩:=cx.base a1 t1.good;obtain ⟨g0p,g0⟩:=cx.PY a0 t0.good;obtain ⟨g1p,g1⟩:=cx.PY a1 t1.good;obtain ⟨z1,z2,z3,z4⟩:=s0;obtain ⟨w1,w2,w3,w4⟩:=s1;simp only [bU] at z1 z2 z3 z4 w1 w2 w3 w4;rw [<-z1,<-z2] at b0;rw [<-z2] at b0p;rw [<-w1,<-w2] at b1;rw [<-z3,<-z4] at g0;rw [<-z4] at g0p;rw [<-w3,<-w4] at g1;refine ⟨Au p b m n cx.h1 cx.h4 cx.h8 cx.hm cx.hn cx.hb e0 k0 e1 k1 e k p0 p1 he l0 l1 a0 a1 t0 t1,⟨b0p,g0p⟩,fun c tc=>?_⟩;have o0:=nN p m n a0 t0.good;have hB:fI p m n a0*dB p m a1=fI p m n a1*dB p m a0:=by
  refine Int.eq_of_mul_eq_mul_left (show y.bd≠0 by omega) ?_;have r1:y.bd*(fI p m n a0*dB p m a1)=fI p m n a0*y.bd*dB p m a1:=by grind
  have r2:y.bd*(fI p m n a1*dB p m a0)=fI p m n a1*y.bd*dB p m a0:=by grind
  rw [r1,r2,b0,b1];grind
 have hS:dM p b m n a0*dB p m a1=dM p b m n a1*dB p m a0:=by
  refine Int.eq_of_mul_eq_mul_left (show y.sd≠0 by omega) ?_;have r1:y.sd*(dM p b m n a0*dB p m a1)=dM p b m n a0*y.sd*dB p m a1:=by grind
  have r2:y.sd*(dM p b m n a1*dB p m a0)=dM p b m n a1*y.sd*dB p m a0:=by grind
  rw [r1,r2,g0,g1];grind
 have key:=Dy p b m n cx.h1 cx.h4 cx.hm cx.hn cx.hb e0 k0 e1 k1 e k p0 p1 he l0 l1 a0 a1 c t0 t1 tc hB hS;refine Int.eq_of_mul_eq_mul_left (show dB p m a0≠0 by omega) ?_;have r1:dB p m a0*((e*fI p m n c+k*dM p b m n c)*(y.bd*y.sd))=(e*fI p m n c+k*dM p b m n c)*dB p m a0*(y.bd*y.sd):=by grind
 have r2:(e*fI p m n a0+k*dM p b m n a0)*dB p m c*(y.bd*y.sd)=(e*(fI p m n a0*y.bd)*y.sd+k*(dM p b m n a0*y.sd)*y.bd)*dB p m c:=by grind
 rw [r1,key,r2,b0,g0];grind
end
section
variable {p:Lp} {b:List Int} {m n:Nat}
end
section
variable {p:Lp} {b:List Int} {m n:Nat}
def Yw (x y:En) : Prop:=∀e k,0 < e->MO y e k->MO x e k
def Yx (x y:En) : Prop:=∀e k,0 < e->MP x e k->MP y e k
theorem MV (x:En) : Yw x x:=fun _ _ _ h=>h
theorem MW (x:En) : Yx x x:=fun _ _ _ h=>h
theorem gm.may {a:En} (h:gm a) (ho:a.o=false) : bZ a.d [a.n]=true:=by
 rcases h with ⟨h1,_⟩|⟨_,h2⟩
 ·rw [ho] at h1;cases h1
 ·exact h2
theorem sO {x y:Pc} (h:bW x y) : bW y x:=⟨h.1.symm,h.2.1.symm,h.2.2.1.symm,h.2.2.2.symm⟩
theorem qx {x y z:Pc} (h:bW x y) (g:bW y z) : bW x z:=⟨h.1.trans g.1,h.2.1.trans g.2.1,h.2.2.1.trans g.2.2.1,h.2.2.2.trans g.2.2.2⟩
structure Canon (p:Lp) (b:List Int) (m n:Nat) (Q:List Int->Prop) (l:List Pc) : Prop where
 Yy:∀y∈l,∃a,Q a/\eF p b m n a=true/\bW y (bU p b m n a)/\y.f=qw (bB p b m n a)
 ZR:∀y∈l,∃a,Q a/\eF p b m n a=true/\bW y (bU p b m n a)/\y.t=PX (bB p b m n a)
 all:∀a,Q a->eF p b m n a=true->∃y∈l,bW y (bU p b m n a)/\Yw y.f (qw (bB p b m n a))/\Yx (PX (bB p b m n a)) y.t
 one:l.Pairwise fun y z=>¬ bW y z
theorem Canon.K3 (cx:Ctx p b m n) {Q:List Int->Prop} {l:List Pc} (h:Canon p b m n Q l) (y:Pc) (hy:y∈l) : gm y.f:=by obtain ⟨a,_,u,_,e⟩:=h.Yy y hy;rw [e];exact cx.sM a u
theorem Canon.K4 (cx:Ctx p b m n) {Q:List Int->Prop} {l:List Pc} (h:Canon p b m n Q l) (y:Pc) (hy:y∈l) : gm y.t:=by obtain ⟨a,_,u,_,e⟩:=h.ZR y hy;rw [e];exact cx.toOk a u
theorem MX:Canon p b m n (fun _=>False) []:=⟨fun y hy=>(by cases hy),fun y hy=>(by cases hy),fun a (ha:False)=>ha.elim,List.Pairwise.nil⟩
theorem IB (Q:List Int->Prop) (l:List Pc) (h:Canon p b m n Q l) (a:List Int) (hu:¬ eF p b m n a=true) : Canon p b m n (fun z=>Q z\/z=a) l:=by
 refine ⟨fun y hy=>?_,fun y hy=>?_,fun z hz hzu=>?_,h.one⟩
 ·obtain ⟨c,q,r⟩:=h.Yy y hy;exact ⟨c,Or.inl q,r⟩
 ·obtain ⟨c,q,r⟩:=h.ZR y hy;exact ⟨c,Or.inl q,r⟩
 ·rcases hz with hz|hz
  ·exact h.all z hz hzu
  ·rw [hz] at hzu;exact absurd hzu hu
theorem IC (x:Pc) : ∀l:List Pc,(l.Pairwise fun y z=>¬ bW y z)->(joinedN l x).Pairwise fun y z=>¬ bW y z:=by
 intro l
 induction l with
 | nil=>intro _;exact List.pairwise_singleton _ _
 | cons y l ih =>
  intro h;obtain ⟨h1,h2⟩:=List.pairwise_cons.1 h;unfold joinedN;by_cases hs:bW y x
  ·rw [if_pos hs];exact List.pairwise_cons.2 ⟨fun z hz hc=>h1 z hz hc,h2⟩
  ·rw [if_neg hs];refine List.pairwise_cons.2 ⟨fun z hz hc=>?_,ih h2⟩;rcases oG x z l hz with hz|hz|⟨w,hw,_,hz⟩
   ·exact h1 z hz hc
   ·subst hz;exact hs hc
   ·subst hz;exact h1 w hw hc
theorem IE (cx:Ctx p b m n) (Q:List Int->Prop) (l:List Pc) (h:Canon p b m n Q l) (a:List Int) (hu:eF p b m n a=true) : Canon p b m n (fun z=>Q z\/z=a) (joinedN l (bU p b m n a)):=by
 have fa:=cx.sM a hu;have ta:=cx.toOk a hu;have K3:=h.K3 cx;have K4:=h.K4 cx;refine ⟨fun y hy=>?_,fun y hy=>?_,fun z hz hzu=>?_,IC _ l h.one⟩
 ·rcases oG _ y l hy with hy|hy|⟨z,hz,hs,hy⟩
  ·obtain ⟨c,q,r⟩:=h.Yy y hy;exact ⟨c,Or.inl q,r⟩
  ·subst hy;exact ⟨a,Or.inr rfl,hu,⟨rfl,rfl,rfl,rfl⟩,rfl⟩
  ·subst hy;obtain ⟨c,q,u,s,e⟩:=h.Yy z hz;rcases vL z.f (bU p b m n a).f (K3 z hz) fa with e1|e1
   ·exact ⟨c,Or.inl q,u,s,e1.trans e⟩
   ·exact ⟨a,Or.inr rfl,hu,hs,e1⟩
 ·rcases oG _ y l hy with hy|hy|⟨z,hz,hs,hy⟩
  ·obtain ⟨c,q,r⟩:=h.ZR y hy;exact ⟨c,Or.inl q,r⟩
  ·subst hy;exact ⟨a,Or.inr rfl,hu,⟨rfl,rfl,rfl,rfl⟩,rfl⟩
  ·subst hy;obtain ⟨c,q,u,s,e⟩:=h.ZR z hz;rcases sK z.t (bU p b m n a).t (K4 z hz) ta with e1|e1
   ·exact ⟨c,Or.inl q,u,s,e1.trans e⟩
   ·exact ⟨a,Or.inr rfl,hu,hs,e1⟩
 ·rcases hz with hz|hz
  ·obtain ⟨y,hy,s,r1,r2⟩:=h.all z hz hzu;rcases wO (bU p b m n a) y l hy with hk|⟨_,hk⟩
   ·exact ⟨y,hk,s,r1,r2⟩
   ·exact ⟨_,hk,s,fun e k he hi=>nO y.f _ (K3 y hy) fa e k he (Or.inl (r1 e k he hi)),fun e k he hi=>lL y.t _ (K4 y hy) ta e k he (Or.inl (r2 e k he hi))⟩
  ·subst hz;rcases y9 (bU p b m n z) l with hk|⟨y,hy,s,hk⟩
   ·exact ⟨_,hk,⟨rfl,rfl,rfl,rfl⟩,MV _,MW _⟩
   ·exact ⟨_,hk,s,fun e k he hi=>nO y.f _ (K3 y hy) fa e k he (Or.inr hi),fun e k he hi=>lL y.t _ (K4 y hy) ta e k he (Or.inr hi)⟩
theorem vM (Q Q':List Int->Prop) (hq:∀a,Q a<->Q' a) (l:List Pc) (h:Canon p b m n Q l) : Canon p b m n Q' l:=by have:Q=Q':=funext fun a=>propext (hq a);rw [<-this];exact h
theorem FJ (cx:Ctx p b m n) : ∀(all:List (List Int)) (Q:List Int->Prop) (l:List Pc),Canon p b m n Q l->Canon p b m n (fun z=>Q z\/z∈all) (all.foldl (fun l a=>if eF p b m n a=true then joinedN l (bU p b m n a) else l) l):=by
 intro all
 induction all with
 | nil =>intro Q l h;exact vM Q _ (fun a=>by simp) l h
 | cons a all ih =>
  intro Q l h;rw [List.foldl_cons];have h2:Canon p b m n (fun z=>Q z\/z=a) (if eF p b m n a=true then joinedN l (bU p b m n a) else l):=by
   by_cases hu:eF p b m n a=true
   ·rw [if_pos hu];exact IE cx Q l h a hu
   ·rw [if_neg hu];exact IB Q l h a hu
  refine vM _ _ (fun z=>?_) _ (ih _ _ h2);rw [List.mem_cons,or_assoc]
theorem mU (cx:Ctx p b m n) (all:List (List Int)) : Canon p b m n (·∈all) (bJ p b m n all) :=
 vM _ _ (fun a=>by simp) _ (FJ cx all (fun _=>False) [] MX)
theorem P6 {R:Pc->Pc->Prop} : ∀{l:List Pc},l.Pairwise R->∀{x y:Pc},x∈l->y∈l->x=y\/R x y\/R y x:=by
 intro l
 induction l with
 | nil=>intro _ x y hx;cases hx
 | cons z l ih =>
  intro h x y hx hy;obtain ⟨h1,h2⟩:=List.pairwise_cons.1 h;rcases List.mem_cons.1 hx with ex|hx'<;>rcases List.mem_cons.1 hy with ey|hy'
  ·exact Or.inl (ex.trans ey.symm)
  ·rw [ex];exact Or.inr (Or.inl (h1 y hy'))
  ·rw [ey];exact Or.inr (Or.inr (h1 x hx'))
  ·exact ih h2 hx' hy'
theorem Canon.same {Q:List Int->Prop} {l:List Pc} (h:Canon p b m n Q l) {x y:Pc} (hx:x∈l) (hy:y∈l) (hs:bW x y) : x=y:=by
 rcases P6 h.one hx hy with h1|h1|h1
 ·exact h1
 ·exact absurd hs h1
 ·exact absurd (sO hs) h1
theorem DD {l:List Pc} (h:l.Pairwise fun y z=>¬ bW y z) : l.Nodup:=h.imp fun {a b} hn he=>hn (by rw [he];exact ⟨rfl,rfl,rfl,rfl⟩)
def iQ (y z:Pc) : Prop:=y.sn*z.sd < z.sn*y.sd
instance (y z : Pc) : Decidable (iQ y z):=by unfold iQ;infer_instance
theorem Canon.nums (cx:Ctx p b m n) {Q:List Int->Prop} {l:List Pc} (h:Canon p b m n Q l) (y:Pc) (hy:y∈l) : bZ y.bd [y.bn]=true/\bZ y.sd [y.sn]=true/\∃a,Good p a m n/\(fI p m n a*y.bd=y.bn*dB p m a)/\dM p b m n a*y.sd=y.sn*dB p m a:=by
 obtain ⟨a,_,u,⟨s1,s2,s3,s4⟩,_⟩:=h.Yy y hy;have hg:=((cx.used a).1 u).1;simp only [bU] at s1 s2 s3 s4;have hb:=cx.base a hg;have hs:=cx.PY a hg;obtain ⟨x1,y1,e1,e2,_⟩:=nP cx a hg p.costs cx.hn.symm (p.aj cx.may).2.1;obtain ⟨x2,y2,e3,e4,_⟩:=nP cx a hg b cx.hb ((aD p b).aj cx.FI).2.1;have b1:bZ (rH p n a).2.1 [(rH p n a).1]=true:=by unfold rH;rw [e1];exact e2
 have b2:bZ (nz p b n a).2.1 [(nz p b n a).1]=true:=by unfold nz;rw [e3];exact e4
 refine ⟨by rw [s1,s2];exact b1,by rw [s3,s4];exact b2,a,hg,by rw [s1,s2];exact hb.2,by rw [s3,s4];exact hs.2⟩
theorem K6 (cx:Ctx p b m n) {Q:List Int->Prop} {l:List Pc} (hi:Inv p b m n Q l) (h:Canon p b m n Q l) (y z:Pc) (hy:y∈l) (hz:z∈l) (e k:Int) (he:0 < e) (hlo:MO y.f e k) (hhi:MP y.t e k) :
  (e*(z.bn*z.sd)+k*(z.sn*z.bd))*(y.bd*y.sd)<=(e*(y.bn*y.sd)+k*(y.sn*y.bd))*(z.bd*z.sd):=by
 obtain ⟨⟨c,tc⟩,⟨p1,p2⟩,hc⟩:=MU cx Q l hi y hy e k he hlo hhi;have hc:=hc c tc;obtain ⟨m1,m2,a,hg,hB,hS⟩:=h.nums cx z hz;have zb:=dK _ _ m1;have zs:=dK _ _ m2;have ov:=oD p b m n e k c a cx.h1 cx.h4 cx.hm cx.hn cx.hb tc hg;have oc:=nN p m n c tc.good;have oa:=nN p m n a hg;generalize fI p m n a=Ba at *;generalize dM p b m n a=Sa at *;generalize dB p m a=Oa at *;generalize e*fI p m n c+k*dM p b m n c=V at *;generalize dB p m c=Oc at *;have hOO:0 < Oa*Oc:=Int.mul_pos oa oc;refine Int.le_of_mul_le_mul_left ?_ hOO;have r1:Oa*Oc*((e*(z.bn*z.sd)+k*(z.sn*z.bd))*(y.bd*y.sd))=(e*(z.bn*Oa)*z.sd+k*(z.sn*Oa)*z.bd)*Oc*(y.bd*y.sd):=by grind
 have r2:Oa*Oc*((e*(y.bn*y.sd)+k*(y.sn*y.bd))*(z.bd*z.sd))=(e*(y.bn*y.sd)+k*(y.sn*y.bd))*Oc*(Oa*(z.bd*z.sd)):=by grind
 rw [r1,r2,<-hB,<-hS,<-hc];have r3:(e*(Ba*z.bd)*z.sd+k*(Sa*z.sd)*z.bd)*Oc*(y.bd*y.sd)=(e*Ba+k*Sa)*Oc*(z.bd*z.sd*(y.bd*y.sd)):=by grind
 have r4:V*(y.bd*y.sd)*(Oa*(z.bd*z.sd))=V*Oa*(z.bd*z.sd*(y.bd*y.sd)):=by grind
 rw [r3,r4];exact Int.mul_le_mul_of_nonneg_right ov (Int.le_of_lt (Int.mul_pos (Int.mul_pos zb zs) (Int.mul_pos p1 p2)))
theorem Canon.some (cx:Ctx p b m n) {Q:List Int->Prop} {l:List Pc} (hi:Inv p b m n Q l) (y:Pc) (hy:y∈l) : ∃e k,0 < e/\MO y.f e k/\MP y.t e k:=by
 obtain ⟨a0,a1,u0,u1,q1,q2,_,_,i0,i1⟩:=hi.own y hy;have n0:=((cx.used a0).1 u0).2;by_cases ho:(bB p b m n a0).o=true
 ·by_cases ho2:(bB p b m n a0).o2=true
  ·have hin:MM (bB p b m n a0) 1 0:=⟨Or.inl ho,Or.inl ho2⟩;exact ⟨1,0,by omega,by rw [q1];exact hin.1,i0 1 0 (by omega) hin⟩
  ·have Yz:(bB p b m n a0).o2=false:=by simpa using ho2
   have hp:=((cx.toOk a0 u0).pos Yz).1;have hin:=U0 _ n0 Yz;exact ⟨_,_,hp,by rw [q1];exact hin.1,i0 _ _ hp hin⟩
 ·have ho':(bB p b m n a0).o=false:=by simpa using ho
  have hp:=((cx.sM a0 u0).pos ho').1;have hin:=K5 _ n0 ho';exact ⟨_,_,hp,by rw [q1];exact hin.1,i0 _ _ hp hin⟩
theorem MZ (cx:Ctx p b m n) {Q:List Int->Prop} {l:List Pc} (hi:Inv p b m n Q l) (h:Canon p b m n Q l) (y z:Pc) (hy:y∈l) (hz:z∈l) (h1:¬ iQ y z) (h2:¬ iQ z y) : y=z:=by
 obtain ⟨m1,m2,_⟩:=h.nums cx y hy;obtain ⟨m3,m4,_⟩:=h.nums cx z hz;have yb:=dK _ _ m1;have ys:=dK _ _ m2;have zb:=dK _ _ m3;have zs:=dK _ _ m4;unfold iQ at h1 h2;obtain ⟨s1,s2⟩:=yP _ _ _ _ m2 m4 (by omega);obtain ⟨e,k,he,y1,y2⟩:=Canon.some cx hi y hy;obtain ⟨e',k',he',z1,z2⟩:=Canon.some cx hi z hz;have u:=K6 cx hi h y z hy hz e k he y1 y2;have v:=K6 cx hi h z y hz hy e' k' he' z1 z2;rw [<-s1,<-s2] at u v;have k1:y.sd*y.sd*e*(z.bn*y.bd)<=y.sd*y.sd*e*(y.bn*z.bd):=by
  have r1:(e*(z.bn*y.sd)+k*(y.sn*z.bd))*(y.bd*y.sd)=y.sd*y.sd*e*(z.bn*y.bd)+k*y.sn*z.bd*y.bd*y.sd:=by grind
  have r2:(e*(y.bn*y.sd)+k*(y.sn*y.bd))*(z.bd*y.sd)=y.sd*y.sd*e*(y.bn*z.bd)+k*y.sn*z.bd*y.bd*y.sd:=by grind
  omega
 have k2:y.sd*y.sd*e'*(y.bn*z.bd)<=y.sd*y.sd*e'*(z.bn*y.bd):=by
  have r1:(e'*(y.bn*y.sd)+k'*(y.sn*y.bd))*(z.bd*y.sd)=y.sd*y.sd*e'*(y.bn*z.bd)+k'*y.sn*z.bd*y.bd*y.sd:=by grind
  have r2:(e'*(z.bn*y.sd)+k'*(y.sn*z.bd))*(y.bd*y.sd)=y.sd*y.sd*e'*(z.bn*y.bd)+k'*y.sn*z.bd*y.bd*y.sd:=by grind
  omega
 have pss:=Int.mul_pos ys ys;have q1:=Int.le_of_mul_le_mul_left k1 (Int.mul_pos pss he);have q2:=Int.le_of_mul_le_mul_left k2 (Int.mul_pos pss he');obtain ⟨b1,b2⟩:=yP _ _ _ _ m1 m3 (by omega);exact h.same hy hz ⟨b1,b2,s1,s2⟩
theorem IG (x y z:Pc) (hx:0 < x.sd) (hy:0 < y.sd) (hz:0 < z.sd) (h1:iQ x y) (h2:iQ y z) : iQ x z:=by
 unfold iQ at *;have p1:=Int.mul_lt_mul_of_pos_right h1 hz;have p2:=Int.mul_lt_mul_of_pos_right h2 hx;refine Int.lt_of_mul_lt_mul_left (a:=y.sd) ?_ (Int.le_of_lt hy);have r1:x.sn*y.sd*z.sd=y.sd*(x.sn*z.sd):=by grind
 have r2:z.sn*y.sd*x.sd=y.sd*(z.sn*x.sd):=by grind
 have r3:y.sn*x.sd*z.sd=y.sn*z.sd*x.sd:=by grind
 omega
theorem FK (x:Pc) : ¬ iQ x x:=by unfold iQ;omega
theorem II:∀(l l':List Pc),l.Perm l'->l.Pairwise iQ->l'.Pairwise iQ->l=l':=by
 intro l
 induction l with
 | nil=>intro l' hp _ _;exact hp.nil_eq
 | cons x l ih =>
  intro l' hp h h';cases l' with
  | nil=>exact absurd hp.length_eq (by simp)
  | cons y l' =>
   obtain ⟨h1,h2⟩:=List.pairwise_cons.1 h;obtain ⟨g1,g2⟩:=List.pairwise_cons.1 h';have hxy:x=y:=by
    have hx:x∈y :: l':=hp.subset (by simp);have hy:y∈x :: l:=hp.symm.subset (by simp);rcases List.mem_cons.1 hx with hx|hx
    ·exact hx
    ·rcases List.mem_cons.1 hy with hy|hy
     ·exact hy.symm
     ·have a1:=g1 x hx;have a2:=h1 y hy;unfold iQ at a1 a2;omega
   subst hxy;rw [ih l' (List.Perm.cons_inv hp) h2 g2]
def jK (l:List Pc) : List Pc:=if (l.filter fun x => !ze x)=[] then l.take 1 else l.filter fun x => !ze x
end
end Num
end Go.Proofs.YtipcbhodlgoflabGreatDoor
