/- Plain facts on whole numbers and lists: limits, the greatest common divisor of several numbers, lowest terms. Nothing of the program is spoken of here. -/
namespace Go.Proofs.YtipcbhodlgoflabGreatDoor.Num
def aB (m:Int) (l:List Int) : Bool:=l.all fun n=>decide (-m<=n) && decide (n<=m)
def gl (d:Int) (l:List Int) : Nat:=l.foldl (fun g n=>Nat.gcd g n.natAbs) d.natAbs
theorem gT (m:Int) (l:List Int) (k:Nat) (h:k < l.length) :
  aB m (l.take (k+1))=(aB m (l.take k) && (decide (-m<=l[k]?.getD 0) && decide (l[k]?.getD 0<=m))):=by
 have e:l.take (k+1)=l.take k ++ [l[k]?.getD 0]:=by rw [List.take_succ_eq_append_getElem h];simp [h]
 unfold aB;rw [e,List.all_append];simp
theorem iA (m:Int) (l:List Int) (k:Nat) (h:k < l.length) (hb:l[k]?.getD 0 < -m\/m < l[k]?.getD 0) : aB m l=false:=by
 unfold aB;rw [List.all_eq_false];refine ⟨l[k]?.getD 0,?_,?_⟩
 ·simp [h]
 ·simp;omega
theorem aJ (m:Int) (l:List Int) (h:aB m l=true) (h0:0<=m) (k:Nat) : -m<=l[k]?.getD 0/\l[k]?.getD 0<=m:=by
 by_cases hk:k < l.length
 ·unfold aB at h;rw [List.all_eq_true] at h;have:=h (l[k]?.getD 0) (by simp [hk]);simpa using this
 ·simp [hk];omega
theorem tF (d:Int) (l:List Int) (k:Nat) (h:k < l.length) :
  gl d (l.take (k+1))=Nat.gcd (gl d (l.take k)) (l[k]?.getD 0).natAbs:=by
 have e:l.take (k+1)=l.take k ++ [l[k]?.getD 0]:=by rw [List.take_succ_eq_append_getElem h];simp [h]
 unfold gl;rw [e,List.foldl_append];rfl
theorem VB (c n:Int) : Nat.gcd n.natAbs (c.tmod n).natAbs=Nat.gcd c.natAbs n.natAbs:=by have e:(c.tmod n).natAbs=c.natAbs % n.natAbs:=Int.natAbs_tmod _ _;rw [e,Nat.gcd_comm n.natAbs,<-Nat.gcd_rec];exact Nat.gcd_comm _ _
theorem R8 (c n:Int) (h:n≠0) : (c.tmod n).natAbs < n.natAbs:=by rw [Int.natAbs_tmod];exact Nat.mod_lt _ (by omega)
def bX (d:Int) (l:List Int) : Int:=if d < 0 then -(gl d l:Int) else (gl d l:Int)
def fK (m:Int) (d:Int) (l:List Int) : Bool:=decide (d.tdiv (bX d l)<=m) && aB m (l.map fun n=>n.tdiv (bX d l))
def low (d:Int) (l:List Int) : Int×Int :=
 if d=0\/aB 4611686018427387904 [d]=false\/aB 4611686018427387904 l=false then (0,3)
 else if 8 < l.length then (0,1)
 else if fK 1073741824 d l then (bX d l,0) else (0,1)
theorem aW (m d:Int) : aB m [d]=(decide (-m<=d) && decide (d<=m)):=by simp [aB]
theorem tH (d:Int) (l:List Int) : gl d l ∣ d.natAbs:=by
 unfold gl;suffices h:∀(l:List Int) (g:Nat),l.foldl (fun g n=>Nat.gcd g n.natAbs) g ∣ g from h l _
 intro l
 induction l with
 | nil=>intro g;exact Nat.dvd_refl _
 | cons x t ih=>intro g;exact Nat.dvd_trans (ih _) (Nat.gcd_dvd_left _ _)
theorem NY (d:Int) (l:List Int) (n:Int) (h:n∈l) : gl d l ∣ n.natAbs:=by
 unfold gl;suffices k:∀(l:List Int) (g:Nat),n∈l->l.foldl (fun g n=>Nat.gcd g n.natAbs) g ∣ n.natAbs from k l _ h
 intro l
 induction l with
 | nil=>intro g hn;simp at hn
 | cons x t ih =>
  intro g hn;rcases List.mem_cons.1 hn with rfl|hn
  ·refine Nat.dvd_trans ?_ (Nat.gcd_dvd_right g n.natAbs);have:=tH (Nat.gcd g n.natAbs:Nat) t;simpa [gl] using this
  ·exact ih _ hn
theorem rQ (d:Int) (l:List Int) (h:d≠0) : 0 < gl d l:=Nat.pos_of_dvd_of_pos (tH d l) (by omega)
theorem JO (d:Int) (l:List Int) (h:d≠0) : gl d l<=d.natAbs:=Nat.le_of_dvd (by omega) (tH d l)
theorem NZ (d:Int) (l:List Int) (y:Int) (hy:bX d l=y) (hd0:¬ d=0) (hd1:aB 4611686018427387904 [d]=true) (hl1:aB 4611686018427387904 l=true) (hn:¬ 8 < l.length) :
  (1073741824 < d.tdiv y->low d l=(0,1))/\(d.tdiv y<=1073741824->aB 1073741824 (l.map fun n=>n.tdiv y)=false->low d l=(0,1))/\
  (d.tdiv y<=1073741824->aB 1073741824 (l.map fun n=>n.tdiv y)=true->low d l=(y,0)):=by
 unfold low fK;rw [hy];refine ⟨fun h=>?_,fun h1 h2=>?_,fun h1 h2=>?_⟩
 ·have:¬ d.tdiv y<=1073741824:=by omega
  simp [hd0,hd1,hl1,hn,this]
 ·simp [hd0,hd1,hl1,hn,h2]
 ·simp [hd0,hd1,hl1,hn,h1,h2]
theorem pM (f:Int->Int) (h0:f 0=0) (l:List Int) (k:Nat) : (l.map f)[k]?.getD 0=f (l[k]?.getD 0):=by rw [List.getElem?_map];cases l[k]?<;>simp [h0]
theorem fu (x y:Int) : (x.tdiv y).natAbs<=x.natAbs:=by rw [Int.natAbs_tdiv];exact Nat.div_le_self _ _
theorem G7 (d:Int) (l:List Int) (h:(low d l).2=0) : (low d l).1=bX d l/\d≠0/\(-4611686018427387904<=d/\d<=4611686018427387904)/\aB 4611686018427387904 l=true/\l.length<=8/\fK 1073741824 d l=true:=by
 unfold low at *;split at h
 ·simp at h
 ·rename_i hb;simp only [not_or,Bool.not_eq_false] at hb;split at h
  ·simp at h
  ·rename_i hl;split at h
   ·rename_i hf;rw [if_pos hf];have:=aW 4611686018427387904 d;rw [hb.2.1] at this;simp at this;rw [if_neg (by simp [hb]),if_neg hl];exact ⟨rfl,hb.1,by omega,hb.2.2,by omega,hf⟩
   ·simp at h
theorem Cj (d:Int) (l:List Int) (h0:d≠0) (h1 : -4611686018427387904<=d) (h2:d<=4611686018427387904) : bX d l≠0/\-4611686018427387904<=bX d l/\bX d l<=4611686018427387904:=by have a:=rQ d l h0;have b:=JO d l h0;unfold bX;split<;>omega
def bZ (d:Int) (l:List Int) : Bool:=decide (1<=d) && (aB 1073741824 [d] && (aB 1073741824 l && ((gl d l:Int) == 1)))
theorem JP (d:Int) (l:List Int) (h:¬ 1<=d) : bZ d l=false:=by simp [bZ,h]
theorem N7 (d:Int) (l:List Int) (h:aB 1073741824 [d]=false) : bZ d l=false:=by simp [bZ,h]
theorem N8 (d:Int) (l:List Int) (h:aB 1073741824 l=false) : bZ d l=false:=by simp [bZ,h]
theorem Ck (d:Int) (l:List Int) (h0:1<=d) (h1:aB 1073741824 [d]=true) (h2:aB 1073741824 l=true) : bZ d l=((gl d l:Int) == 1):=by simp [bZ,h0,h1,h2]
theorem N9 (c d:Int) (l:List Int) : gl (c*d) (l.map fun n=>c*n)=c.natAbs*gl d l:=by
 unfold gl;rw [Int.natAbs_mul];generalize d.natAbs=g
 induction l generalizing g with
 | nil=>rfl
 | cons x t ih =>simp only [List.map_cons,List.foldl_cons];rw [Int.natAbs_mul,Nat.gcd_mul_left,ih]
theorem xP (c d:Int) (l:List Int) (hc:c≠0) (hd:d≠0) : bX (c*d) (l.map fun n=>c*n)=c*bX d l:=by
 unfold bX;rw [N9];rcases Int.lt_or_gt_of_ne hc with h|h<;>rcases Int.lt_or_gt_of_ne hd with k|k
 ·have:0 < c*d:=Int.mul_pos_of_neg_of_neg h k;rw [if_neg (by omega),if_pos k];rw [Int.natCast_mul,Int.ofNat_natAbs_of_nonpos (by omega)];simp [Int.neg_mul,Int.mul_neg]
 ·have:c*d < 0:=Int.mul_neg_of_neg_of_pos h k;rw [if_pos this,if_neg (by omega)];rw [Int.natCast_mul,Int.ofNat_natAbs_of_nonpos (by omega)];simp [Int.neg_mul]
 ·have:c*d < 0:=Int.mul_neg_of_pos_of_neg h k;rw [if_pos this,if_pos k];rw [Int.natCast_mul,Int.natAbs_of_nonneg (by omega)];simp [Int.mul_neg]
 ·have:0 < c*d:=Int.mul_pos h k;rw [if_neg (by omega),if_neg (by omega)];rw [Int.natCast_mul,Int.natAbs_of_nonneg (by omega)]
theorem mG (d:Int) (l:List Int) : (bX d l).natAbs=gl d l:=by unfold bX;split<;>omega
theorem lM (d:Int) (l:List Int) : bX d l ∣ d:=by rw [<-Int.natAbs_dvd_natAbs,mG];exact tH d l
theorem rR (d:Int) (l:List Int) (n:Int) (h:n∈l) : bX d l ∣ n:=by rw [<-Int.natAbs_dvd_natAbs,mG];exact NY d l n h
theorem R9 (d:Int) (l:List Int) (h:d≠0) : bX d l≠0:=by have:=rQ d l h;rw [<-mG] at this;omega
theorem gM (c x y:Int) (hc:c≠0) : (c*x).tdiv (c*y)=x.tdiv y:=by
 rcases Int.lt_or_gt_of_ne hc with h|h
 ·have e1:c*x=-((-c)*x):=by simp [Int.neg_mul]
  have e2:c*y=-((-c)*y):=by simp [Int.neg_mul]
  rw [e1,e2,Int.neg_tdiv_neg,Int.mul_tdiv_mul_of_pos _ _ (by omega)]
 ·exact Int.mul_tdiv_mul_of_pos _ _ h
theorem VC (d:Int) (l:List Int) (h:d≠0) : gl (d.tdiv (bX d l)) (l.map fun n=>n.tdiv (bX d l))=1:=by
 have hb:=R9 d l h;have e:=N9 (bX d l) (d.tdiv (bX d l)) (l.map fun n=>n.tdiv (bX d l));rw [Int.mul_tdiv_cancel' (lM d l)] at e;have e2:((l.map fun n=>n.tdiv (bX d l)).map fun n=>bX d l*n)=l:=by rw [List.map_map];refine Eq.trans (List.map_congr_left (g:=fun n=>n) ?_) (by simp);intro n hn;exact Int.mul_tdiv_cancel' (rR d l n hn)
 rw [e2,mG] at e;have hp:=rQ d l h;exact Nat.eq_of_mul_eq_mul_left hp (by omega)
theorem mH (d:Int) (l:List Int) (h:d≠0) : 1<=d.tdiv (bX d l):=by
 have hm:=Int.mul_tdiv_cancel' (lM d l);have hp:=rQ d l h;generalize d.tdiv (bX d l)=k at hm;unfold bX at hm;have:0 < k:=?_
 ·omega
 refine Int.lt_of_not_ge fun hle=>?_;split at hm
 ·have:0<=-(gl d l:Int)*k:=Int.mul_nonneg_of_nonpos_of_nonpos (by omega) hle;omega
 ·have:(gl d l:Int)*k<=0:=Int.mul_nonpos_of_nonneg_of_nonpos (by omega) hle;omega
theorem Ed (d:Int) (l:List Int) (h:d≠0) (hf:fK 1073741824 d l=true) : bZ (d.tdiv (bX d l)) (l.map fun n=>n.tdiv (bX d l))=true:=by have h1:=mH d l h;have h2:=VC d l h;unfold fK at hf;simp only [Bool.and_eq_true,decide_eq_true_eq] at hf;rw [Ck _ _ h1 (by rw [aW];simp;omega) hf.2,h2];rfl
theorem AP (m c d:Int) (l:List Int) (hc:c≠0) (hd:d≠0) : fK m (c*d) (l.map fun n=>c*n)=fK m d l:=by
 unfold fK;rw [xP c d l hc hd,gM c _ _ hc,List.map_map];have e:((fun n=>n.tdiv (c*bX d l)) ∘ fun n=>c*n)=fun n=>n.tdiv (bX d l):=by funext n;simp only [Function.comp_apply];exact gM c _ _ hc
 rw [e]
def mk (n d:Int) : Int×Int×Int:=if (low d [n]).2=0 then (n.tdiv (bX d [n]),d.tdiv (bX d [n]),0) else (0,0,(low d [n]).2)
theorem VD (d n:Int) (hd:d≠0) (h1 : -4611686018427387904<=d/\d<=4611686018427387904) (h2 : -4611686018427387904<=n/\n<=4611686018427387904) :
  low d [n]=if fK 1073741824 d [n] then (bX d [n],0) else (0,1):=by
 unfold low;rw [if_neg,if_neg (by simp)];rw [aW,aW];simp;omega
theorem AQ (d n:Int) (hd:d≠0) (h1 : -4611686018427387904<=d/\d<=4611686018427387904) (h2 : -4611686018427387904<=n/\n<=4611686018427387904) :
  mk n d=if fK 1073741824 d [n] then (n.tdiv (bX d [n]),d.tdiv (bX d [n]),0) else (0,0,1):=by
 unfold mk;rw [VD d n hd h1 h2];cases fK 1073741824 d [n]<;>simp
theorem JQ (d n:Int) (hd:d≠0) (h1 : -4611686018427387904<=d/\d<=4611686018427387904) (h2 : -4611686018427387904<=n/\n<=4611686018427387904) (hf:fK 1073741824 d [n]=true) :
  ∃x y,mk n d=(x,y,0)/\x*d=n*y/\1<=y/\y<=1073741824/\-1073741824<=x/\x<=1073741824/\bZ y [x]=true:=by
 refine ⟨n.tdiv (bX d [n]),d.tdiv (bX d [n]),by rw [AQ d n hd h1 h2,hf];rfl,?_,mH d [n] hd,?_,?_⟩
 ·have a:=Int.mul_tdiv_cancel' (lM d [n]);have b:=Int.mul_tdiv_cancel' (rR d [n] n (by simp));generalize d.tdiv (bX d [n])=y at *;generalize n.tdiv (bX d [n])=x at *;generalize bX d [n]=g at *;rw [<-a,<-b,<-Int.mul_assoc,Int.mul_comm x g]
 ·unfold fK at hf;simp only [Bool.and_eq_true,decide_eq_true_eq] at hf;exact hf.1
 ·have:=Ed d [n] hd hf;unfold fK at hf;simp only [Bool.and_eq_true,decide_eq_true_eq,List.map_cons,List.map_nil,aW] at hf;exact ⟨hf.2.1,hf.2.2,this⟩
theorem VE (d n:Int) (hd:d≠0) (h1 : -4611686018427387904<=d/\d<=4611686018427387904) (h2 : -4611686018427387904<=n/\n<=4611686018427387904) (hf:fK 1073741824 d [n]=false) : mk n d=(0,0,1):=by rw [AQ d n hd h1 h2,hf];rfl
theorem fw (d:Int) (l:List Int) (h:bZ d l=true) : 1<=d/\d<=1073741824/\aB 1073741824 l=true/\gl d l=1:=by unfold bZ at h;rw [aW] at h;simp only [Bool.and_eq_true,decide_eq_true_eq,beq_iff_eq] at h;exact ⟨h.1,h.2.1.2,h.2.2.1,by omega⟩
theorem uU (a b:Int) (m:Int) (ha : -m<=a/\a<=m) (hb : -m<=b/\b<=m) (hm:0<=m) : -(m*m)<=a*b/\a*b<=m*m:=by
 have h:(a*b).natAbs<=(m*m).natAbs:=by rw [Int.natAbs_mul,Int.natAbs_mul];exact Nat.mul_le_mul (by omega) (by omega)
 have:0<=m*m:=Int.mul_nonneg hm hm;omega
theorem LA (d:Int) (l:List Int) : gl (d.natAbs:Int) l=gl d l:=by simp [gl]
theorem LB (d:Int) (l:List Int) : d.tdiv (bX d l)=(d.natAbs:Int) / (gl d l:Int):=by
 unfold bX;split
 ·rw [Int.tdiv_neg,<-Int.neg_tdiv,Int.tdiv_eq_ediv_of_nonneg (by omega)];congr 1;omega
 ·rw [Int.tdiv_eq_ediv_of_nonneg (by omega)];congr 1;omega
def dn (d:Int) (l:List Int) : Bool:=bZ d l && decide (l.length<=8)
theorem LC (d:Int) (l:List Int) (h:d≠0) : dn (d.tdiv (bX d l)) (l.map fun n=>n.tdiv (bX d l))=(decide (l.length<=8) && fK 1073741824 d l):=by
 unfold dn;rw [List.length_map,Bool.and_comm];congr 1;cases hf:fK 1073741824 d l with
 | true=>exact Ed d l h hf
 | false =>
  unfold bZ;unfold fK at hf;have h1:=mH d l h;rw [aW];rcases Bool.and_eq_false_iff.1 hf with k|k
  ·simp only [decide_eq_false_iff_not] at k;simp [k]
  ·simp [k]
def pt (l:List Int) (d:Int) : List Int×Int×Int:=if (low d l).2=0 then (l.map fun n=>n.tdiv (bX d l),d.tdiv (bX d l),0) else ([],0,(low d l).2)
theorem VF (l:List Int) (d:Int) (h:d=0\/aB 4611686018427387904 l=false\/aB 4611686018427387904 [d]=false) : pt l d=([],0,3):=by
 have:low d l=(0,3):=by
  unfold low;rw [if_pos];rcases h with h|h|h
  ·exact Or.inl h
  ·exact Or.inr (Or.inr h)
  ·exact Or.inr (Or.inl h)
 unfold pt;rw [this];rfl
theorem UC (l:List Int) (d:Int) (h0:d≠0) (h1:aB 4611686018427387904 l=true) (h2:aB 4611686018427387904 [d]=true) :
  pt l d=if dn (d.tdiv (bX d l)) (l.map fun n=>n.tdiv (bX d l)) then (l.map fun n=>n.tdiv (bX d l),d.tdiv (bX d l),0) else ([],0,1):=by
 have e:low d l=if 8 < l.length then (0,1) else if fK 1073741824 d l then (bX d l,0) else (0,1):=by unfold low;rw [if_neg (by simp [h0,h1,h2])]
 rw [LC d l h0];unfold pt;rw [e];by_cases hl:8 < l.length
 ·have:¬ l.length<=8:=by omega
  simp [hl,this]
 ·have:l.length<=8:=by omega
  rw [if_neg hl];cases fK 1073741824 d l<;>simp [this]
theorem LD (n d x y:Int) (h:mk n d=(x,y,0)) : pt [n] d=([x],y,0):=by
 unfold mk at h;unfold pt;by_cases h0:(low d [n]).2=0
 ·rw [if_pos h0] at h ⊢;simp only [Prod.mk.injEq] at h;rw [<-h.1,<-h.2.1];rfl
 ·rw [if_neg h0] at h;simp only [Prod.mk.injEq] at h;exact absurd h.2.2 h0
theorem rT (n d x y z:Int) (h:mk n d=(x,y,z)) (hz:z≠0) : pt [n] d=([],0,z)/\x=0/\y=0:=by
 unfold mk at h;unfold pt;by_cases h0:(low d [n]).2=0
 ·rw [if_pos h0] at h;simp only [Prod.mk.injEq] at h;exact absurd h.2.2.symm hz
 ·rw [if_neg h0] at h ⊢;simp only [Prod.mk.injEq] at h;rw [h.2.2];exact ⟨rfl,h.1.symm,h.2.1.symm⟩
end Go.Proofs.YtipcbhodlgoflabGreatDoor.Num
namespace Go.Proofs.YtipcbhodlgoflabGreatDoor
namespace Num
def dotN (l m:List Int) : Nat->Int
 | 0=>0
 | k+1=>dotN l m k+l[k]?.getD 0*m[k]?.getD 0
theorem ko (x y A B:Int) (hx : -A<=x/\x<=A) (hy : -B<=y/\y<=B) : -(A*B)<=x*y/\x*y<=A*B:=by obtain ⟨hx1,hx2⟩:=hx;obtain ⟨hy1,hy2⟩:=hy;have h1:0<=(A - x)*(B - y):=Int.mul_nonneg (by omega) (by omega);have h2:0<=(A+x)*(B+y):=Int.mul_nonneg (by omega) (by omega);have h3:0<=(A - x)*(B+y):=Int.mul_nonneg (by omega) (by omega);have h4:0<=(A+x)*(B - y):=Int.mul_nonneg (by omega) (by omega);simp only [Int.sub_mul,Int.mul_sub,Int.add_mul,Int.mul_add] at h1 h2 h3 h4;omega
theorem jq (l m:List Int) (A B:Int) (hl:∀j:Nat,-A<=l[j]?.getD 0/\l[j]?.getD 0<=A) (hm:∀j:Nat,-B<=m[j]?.getD 0/\m[j]?.getD 0<=B) (k:Nat) :
  -(A*B*k)<=dotN l m k/\dotN l m k<=A*B*k:=by
 induction k with
 | zero=>simp [dotN]
 | succ k ih =>have:=ko _ _ _ _ (hl k) (hm k);simp only [dotN,Int.natCast_add,Int.mul_add,Int.natCast_one,Int.mul_one];omega
structure Lp where
 costs:List Int
 rows:List (List Int×Int)
def iL (n:Nat) (r:List Int×Int) : Bool:=(r.1.length == n) && aB 12 r.1 && aB 12 [r.2]
def Lp.may (p:Lp) : Bool:=decide (1<=p.costs.length) && decide (p.costs.length<=4) && aB 400 p.costs && decide (1<=p.rows.length) && decide (p.rows.length<=4) && p.rows.all (iL p.costs.length)
theorem Ah {α:Type} (f:α->Bool) (l:List α) (k:Nat) (h:k < l.length) (d:α) : (l.take (k+1)).all f=((l.take k).all f && f (l[k]?.getD d)):=by rw [List.take_add_one,List.all_append,List.getElem?_eq_getElem h];simp
theorem Cm {α:Type} (f:α->Bool) (l:List α) (k:Nat) (h:k < l.length) (d:α) (hf:f (l[k]?.getD d)=false) : l.all f=false:=by rw [List.getElem?_eq_getElem h] at hf;simp only [Option.getD_some] at hf;rw [List.all_eq_false];exact ⟨_,List.getElem_mem h,by simpa using hf⟩
theorem Ob {α:Type} (f:α->Bool) (l:List α) (k:Nat) (h:k=l.length) (hf:(l.take k).all f=true) : l.all f=true:=by rw [h,List.take_length] at hf;exact hf
def bO (l:List Int) : Bool:=l.any (fun n=>decide (n < 0))
theorem nD (l:List Int) (k:Nat) (h:k < l.length) : bO (l.take (k+1))=(bO (l.take k) || decide (l[k]?.getD 0 < 0)):=by unfold bO;rw [List.take_add_one,List.any_append,List.getElem?_eq_getElem h];simp
theorem AR (l:List Int) (k:Nat) (h:k < l.length) (hn:l[k]?.getD 0 < 0) : bO l=true:=by rw [List.getElem?_eq_getElem h] at hn;simp only [Option.getD_some] at hn;unfold bO;rw [List.any_eq_true];exact ⟨_,List.getElem_mem h,by simpa using hn⟩
def xz (x:List Int) (d:Int) (r:List Int×Int) : Bool:=decide (dotN r.1 x x.length<=r.2*d)
def Lp.fits (p:Lp) (x:List Int) (d:Int) : Bool:=p.may && (x.length == p.costs.length) && dn d x
def Lp.goes (p:Lp) (x:List Int) (d:Int) : Bool:=p.fits x d && !bO x && p.rows.all (xz x d)
theorem Lp.aj (p:Lp) (h:p.may=true) : (1<=p.costs.length/\p.costs.length<=4)/\aB 400 p.costs=true/\(1<=p.rows.length/\p.rows.length<=4)/\p.rows.all (iL p.costs.length)=true:=by unfold Lp.may at h;simp only [Bool.and_eq_true,decide_eq_true_eq] at h;obtain ⟨⟨⟨⟨⟨h1,h2⟩,h3⟩,h4⟩,h5⟩,h6⟩:=h;exact ⟨⟨h1,h2⟩,h3,⟨h4,h5⟩,h6⟩
theorem Lp.VG (p:Lp) (n:Nat) (e:n=p.costs.length) (h:(n:Int) < 1) : p.may=false:=by
 unfold Lp.may;have:¬ 1<=p.costs.length:=by omega
 simp [this]
theorem Lp.VH (p:Lp) (n:Nat) (e:n=p.costs.length) (h:4 < (n:Int)) : p.may=false:=by
 unfold Lp.may;have:¬ p.costs.length<=4:=by omega
 simp [this]
theorem Lp.VI (p:Lp) (n:Nat) (e:n=p.rows.length) (h:(n:Int) < 1) : p.may=false:=by
 unfold Lp.may;have:¬ 1<=p.rows.length:=by omega
 simp [this]
theorem Lp.VJ (p:Lp) (n:Nat) (e:n=p.rows.length) (h:4 < (n:Int)) : p.may=false:=by
 unfold Lp.may;have:¬ p.rows.length<=4:=by omega
 simp [this]
theorem Lp.XJ (p:Lp) (h:aB 400 p.costs=false) : p.may=false:=by unfold Lp.may;rw [h];simp
theorem Lp.Od (p:Lp) (n m:Nat) (e:n=p.costs.length) (e':m=p.rows.length) (h1:1<=(n:Int)) (h2:(n:Int)<=4) (h3:aB 400 p.costs=true) (h4:1<=(m:Int)) (h5:(m:Int)<=4) : p.may=p.rows.all (iL n):=by
 unfold Lp.may;have a1:1<=p.costs.length:=by omega
 have a2:p.costs.length<=4:=by omega
 have a3:1<=p.rows.length:=by omega
 have a4:p.rows.length<=4:=by omega
 rw [h3,e];simp [a1,a2,a3,a4]
theorem Oe (n:Nat) (r:List Int) (m:Int) (k:Nat) (e:k=r.length) (h:k≠n) : iL n (r,m)=false:=by
 unfold iL;have:r.length≠n:=by omega
 simp [this]
theorem VK (n:Nat) (r:List Int) (m:Int) (h:aB 12 r=false) : iL n (r,m)=false:=by unfold iL;simp [h]
theorem VL (n:Nat) (r:List Int) (m:Int) (h:aB 12 [m]=false) : iL n (r,m)=false:=by unfold iL;simp [h]
theorem Sd (n:Nat) (r:List Int) (m:Int) (k:Nat) (e:k=r.length) (h:k=n) (h1:aB 12 r=true) (h2:aB 12 [m]=true) : iL n (r,m)=true:=by
 unfold iL;have:r.length=n:=by omega
 simp [this,h1,h2]
theorem Lp.row_of (p:Lp) (h:p.may=true) (k:Nat) (hk:k < p.rows.length) : (p.rows[k]?.getD ([],0)).1.length=p.costs.length/\aB 12 (p.rows[k]?.getD ([],0)).1=true/\(-12<=(p.rows[k]?.getD ([],0)).2/\(p.rows[k]?.getD ([],0)).2<=12):=by have:=(Lp.aj p h).2.2.2;rw [List.all_eq_true] at this;have:=this _ (List.getElem_mem hk);rw [List.getElem?_eq_getElem hk];simp only [Option.getD_some];unfold iL at this;rw [aW] at this;simp only [Bool.and_eq_true,decide_eq_true_eq,beq_iff_eq] at this;obtain ⟨⟨h1,h2⟩,h3⟩:=this;exact ⟨h1,h2,h3⟩
theorem Lp.JR (p:Lp) (x:List Int) (d:Int) (h:p.fits x d=true) : p.may=true/\x.length=p.costs.length/\(1<=d/\d<=1073741824)/\aB 1073741824 x=true:=by unfold Lp.fits at h;simp only [Bool.and_eq_true,beq_iff_eq] at h;obtain ⟨⟨h1,h2⟩,h3⟩:=h;unfold dn at h3;simp only [Bool.and_eq_true] at h3;obtain ⟨a,b,c,_⟩:=fw _ _ h3.1;exact ⟨h1,h2,⟨a,b⟩,c⟩
def at2 (ls:List (List Int)) (i j:Nat) : Int:=(ls[i]?.getD [])[j]?.getD 0
def aM (f:Nat->Int) (l:List Int) (t:Nat->Bool) : Nat->Int×Int
 | 0=>(0,1)
 | k+1=>if t k then aM f l t k else ((aM f l t k).1+(aM f l t k).2*l[k]?.getD 0*f k,-(aM f l t k).2)
def mark (t:Nat->Bool) (i j:Nat) : Bool:=if j=i then true else t j
def vol:List (List Int)->(Nat->Bool)->Int
 | [],_=>1
 | l :: r,t=>(aM (fun i=>vol r (mark t i)) l t l.length).1
def aI:Nat->Bool:=fun _=>false
def del (k:Nat) (l:List Int) : List Int:=l.take k ++ l.drop (k+1)
def detN:Nat->List (List Int)->Int
 | 0,_=>1
 | n+1,ls=>(aM (fun k=>detN n ((ls.drop 1).map (del k))) (ls[0]?.getD []) aI (n+1)).1
def bP (ls:List (List Int)) : List (List Int):=(List.range ls.length).map fun i=>(List.range ls.length).map fun k=>at2 ls k i
theorem wz (f:Nat->Int) (l:List Int) (t:Nat->Bool) (k:Nat) : (aM f l t k).2=1\/(aM f l t k).2=-1:=by
 induction k with
 | zero=>exact Or.inl rfl
 | succ k ih =>
  unfold aM;by_cases h:t k
  ·simp only [h,if_true];exact ih
  ·simp only [h];rcases ih with e|e
   ·right;simp [e]
   ·left;simp [e]
theorem uV (f:Nat->Int) (l:List Int) (t:Nat->Bool) (A F:Int) (hl:∀j:Nat,-A<=l[j]?.getD 0/\l[j]?.getD 0<=A) (hf:∀j:Nat,-F<=f j/\f j<=F) (k:Nat) :
  -(A*F*k)<=(aM f l t k).1/\(aM f l t k).1<=A*F*k:=by
 have h0:0<=A*F:=Int.mul_nonneg (by have:=hl 0;omega) (by have:=hf 0;omega)
 induction k with
 | zero=>simp [aM]
 | succ k ih =>
  have hm:=ko _ _ _ _ (hl k) (hf k);simp only [Int.natCast_add,Int.mul_add,Int.natCast_one,Int.mul_one];unfold aM;by_cases h:t k
  ·simp only [h,if_true];omega
  ·simp only [h];rcases wz f l t k with e|e
   ·simp [e];omega
   ·simp [e,Int.neg_mul];omega
def wB (B:Int) (ls:List (List Int)) : Prop:=∀i j:Nat,-B<=at2 ls i j/\at2 ls i j<=B
theorem wB.tail {B:Int} {l:List Int} {r:List (List Int)} (h:wB B (l :: r)) : wB B r:=fun i j=>by simpa [at2] using h (i+1) j
theorem wB.head {B:Int} {l:List Int} {r:List (List Int)} (h:wB B (l :: r)) (j:Nat) : -B<=l[j]?.getD 0/\l[j]?.getD 0<=B:=by simpa [at2] using h 0 j
theorem Sg (n:Nat) (h:n<=4) : (1600:Int) ^ n<=6553600000000/\1<=(1600:Int) ^ n:=by
 match n,h with
 | 0,_=>decide
 | 1,_=>decide
 | 2,_=>decide
 | 3,_=>decide
 | 4,_=>decide
theorem VM (ls:List (List Int)) (t:Nat->Bool) (h:wB 400 ls) (h4:∀l∈ls,l.length<=4) : -((1600:Int) ^ ls.length)<=vol ls t/\vol ls t<=(1600:Int) ^ ls.length:=by
 induction ls generalizing t with
 | nil=>simp [vol]
 | cons l r ih =>
  have hf:∀j:Nat,-((1600:Int) ^ r.length)<=vol r (mark t j)/\vol r (mark t j)<=(1600:Int) ^ r.length:=fun j=>ih _ h.tail (fun x hx=>h4 x (List.mem_cons_of_mem _ hx));have hs:=uV (fun i=>vol r (mark t i)) l t 400 ((1600:Int) ^ r.length) h.head hf l.length;have h5:=h4 l List.mem_cons_self;have hp:0<=(1600:Int) ^ r.length:=by have:=hf 0;omega
  have e:(1600:Int) ^ (l :: r).length=400*(1600:Int) ^ r.length*4:=by rw [List.length_cons,Int.pow_succ];omega
  have hm:400*(1600:Int) ^ r.length*(l.length:Int)<=400*(1600:Int) ^ r.length*4:=Int.mul_le_mul_of_nonneg_left (by omega) (by omega);rw [e];unfold vol;omega
theorem Cn (ls:List (List Int)) (t:Nat->Bool) (h:wB 400 ls) (h4:∀l∈ls,l.length<=4) (hn:ls.length<=4) : -6553600000000<=vol ls t/\vol ls t<=6553600000000:=by have:=VM ls t h h4;have:=Sg ls.length hn;omega
theorem Og (k:Nat) (l:List Int) (j:Nat) : (del k l)[j]?.getD 0=if j < k then l[j]?.getD 0 else l[j+1]?.getD 0:=by
 unfold del;by_cases hk:k<=l.length
 ·by_cases h:j < k
  ·rw [List.getElem?_append_left (by simp;omega),List.getElem?_take_of_lt h,if_pos h]
  ·rw [List.getElem?_append_right (by simp;omega),if_neg h,List.getElem?_drop,List.length_take,Nat.min_eq_left hk];congr 2;omega
 ·have e:l.drop (k+1)=[]:=List.drop_of_length_le (by omega);have e2:l.take k=l:=List.take_of_length_le (by omega);rw [e,e2,List.append_nil];by_cases h:j < k
  ·rw [if_pos h]
  ·rw [if_neg h,List.getElem?_eq_none (by omega),List.getElem?_eq_none (by omega)]
theorem wB.minor {B:Int} {ls:List (List Int)} (h:wB B ls) (h0:0<=B) (k:Nat) : wB B ((ls.drop 1).map (del k)):=fun i j=>by
 unfold at2;rw [List.getElem?_map,List.getElem?_drop];cases e:ls[1+i]? with
 | none=>simp;omega
 | some l =>
  simp only [Option.map_some,Option.getD_some];rw [Og];have hb:∀j:Nat,-B<=l[j]?.getD 0/\l[j]?.getD 0<=B:=fun j=>by simpa [at2,e] using h (1+i) j
  split
  ·exact hb _
  ·exact hb _
def Sq (n:Nat) (ls:List (List Int)) : Prop:=ls.length=n/\∀l∈ls,l.length=n
theorem uW {α:Type} (l:List α) (h:l.length=1) : ∃a,l=[a]:=by
 match l,h with
 | [a],_=>exact ⟨a,rfl⟩
theorem oW {α:Type} (l:List α) (h:l.length=2) : ∃a b,l=[a,b]:=by
 match l,h with
 | [a,b],_=>exact ⟨a,b,rfl⟩
theorem lN {α:Type} (l:List α) (h:l.length=3) : ∃a b c,l=[a,b,c]:=by
 match l,h with
 | [a,b,c],_=>exact ⟨a,b,c,rfl⟩
theorem jG {α:Type} (l:List α) (h:l.length=4) : ∃a b c d,l=[a,b,c,d]:=by
 match l,h with
 | [a,b,c,d],_=>exact ⟨a,b,c,d,rfl⟩
theorem Oh (a:Int) : vol [[a]] aI=detN 1 (bP [[a]]):=by simp [vol,aM,detN,aI,bP,List.range_succ,at2]
theorem Oi (a b c d:Int) : vol [[a,b],[c,d]] aI=detN 2 (bP [[a,b],[c,d]]):=by simp [vol,aM,detN,aI,mark,bP,List.range_succ,at2,del];grind
theorem Oj (a b c d e f g h i:Int) : vol [[a,b,c],[d,e,f],[g,h,i]] aI=detN 3 (bP [[a,b,c],[d,e,f],[g,h,i]]):=by simp [vol,aM,detN,aI,mark,bP,List.range_succ,at2,del];grind
set_option maxHeartbeats 1600000 in
theorem Ol (a b c d e f g h i j k l m n o p:Int) : vol [[a,b,c,d],[e,f,g,h],[i,j,k,l],[m,n,o,p]] aI=detN 4 (bP [[a,b,c,d],[e,f,g,h],[i,j,k,l],[m,n,o,p]]):=by simp [vol,aM,detN,aI,mark,bP,List.range_succ,at2,del];grind
theorem Si (n:Nat) (ls:List (List Int)) (h:Sq n ls) (h1:1<=n) (h4:n<=4) : vol ls aI=detN n (bP ls):=by
 obtain ⟨hl,ha⟩:=h
 match n,h1,h4 with
 | 1,_,_ =>obtain ⟨x,rfl⟩:=uW ls hl;obtain ⟨a,rfl⟩:=uW x (ha x (by simp));exact Oh a
 | 2,_,_ =>obtain ⟨x,y,rfl⟩:=oW ls hl;obtain ⟨a,b,rfl⟩:=oW x (ha x (by simp));obtain ⟨c,d,rfl⟩:=oW y (ha y (by simp));exact Oi ..
 | 3,_,_ =>obtain ⟨x,y,z,rfl⟩:=lN ls hl;obtain ⟨a,b,c,rfl⟩:=lN x (ha x (by simp));obtain ⟨d,e,f,rfl⟩:=lN y (ha y (by simp));obtain ⟨g,h,i,rfl⟩:=lN z (ha z (by simp));exact Oj ..
 | 4,_,_ =>obtain ⟨x,y,z,u,rfl⟩:=jG ls hl;obtain ⟨a,b,c,d,rfl⟩:=jG x (ha x (by simp));obtain ⟨e,f,g,h,rfl⟩:=jG y (ha y (by simp));obtain ⟨i,j,k,l,rfl⟩:=jG z (ha z (by simp));obtain ⟨m,n,o,p,rfl⟩:=jG u (ha u (by simp));exact Ol ..
end Num
end Go.Proofs.YtipcbhodlgoflabGreatDoor
