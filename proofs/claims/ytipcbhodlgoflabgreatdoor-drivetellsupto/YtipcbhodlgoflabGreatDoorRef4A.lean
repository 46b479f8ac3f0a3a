/- What the document's empty, Above, point, priced and most do. -/
import Derived.Test.YtipcbhodlgoflabGreatDoorPrfAB
import Derived.Test.YtipcbhodlgoflabGreatDoorRef2A
import Derived.Deep.CutRange
namespace Go.Proofs.YtipcbhodlgoflabGreatDoor
open Go.RowKit
set_option maxHeartbeats 400000 in
theorem JH (a:Option Addr) (len cap:Nat) (d:Int) (l:List Int) (w:World) (hi:Ints w a len l) (hlen:len<=9223372036854775807) :
  Calls Tryz.prog 26 #[.agg #[.slice a len cap,.int .i64 d]] w fun e w'=>e=.returned (.bool (!Num.bO l))/\Below w.heap.size w w':=by
 have HI:Hid (Ints w a len l):=hi;have HL:Hid (len=l.length):=hi.1;clear hi;go_enter Tryz.func26,Tryz.ntmps26;go_wp2_with fail;go_loop [3] (fun i=>∃k:Nat,k<=len/\i=.int .i64 k/\Num.bO (l.take k)=false) (fun i=>len - (intOf i).toNat)
 case atStart=>exact ⟨0,Nat.zero_le _,rfl,rfl⟩
 case round =>
  obtain ⟨k,hk,rfl,hw⟩:=hrel;have HW:Hid _:=hw;clear hw;by_cases hlt:k < len
  ·rcases (Ints.below HI.out (af w (.cells #[.slice a len cap,.int .i64 d] 64)) (Nat.le_refl _)).2 with hi|⟨b,off,ha,hb,hc⟩
   ·omega
   have hck:=hc k hlt;clear hc;have hs:=Num.nD l k (by have:=HL.out;omega);have hf:=Num.AR l k (by have:=HL.out;omega);generalize l[k]?.getD 0=x at hck hs hf;have HS:Hid _:=hs;have HF:Hid _:=hf;clear hs hf;subst ha;by_cases hx1:x < 0
   ·go_wp2_with fail;go_ret;exact ⟨aK (by rw [HF.out hx1];rfl),af _ _⟩
   have aL3:decide (x < 0)=false:=by simpa using hx1
   go_wp2_with fail;go_round
   case rel=>exact ⟨k+1,by omega,by go_num,by rw [HS.out,HW.out];simp;omega⟩
   case measure=>simp [intOf];omega
  ·go_wp2_with fail;go_ret;have hke:k=l.length:=by have:=HL.out;omega
   refine ⟨aK ?_,af _ _⟩;have:=HW.out;rw [hke,List.take_length] at this;rw [this];rfl
open Go.RowKit
end Go.Proofs.YtipcbhodlgoflabGreatDoor
