/- The law DriveOn, walked. -/
import Derived.Test.YtipcbhodlgoflabGreatDoorDrvW
namespace Go.Proofs.YtipcbhodlgoflabGreatDoor
open Go.RowKit
theorem Ry:Num.jM Num.bC [63]=[63,10]:=by
 have h1:Num.dR [63]=[[63]]:=by decide
 have hc:Lib.cut [63] [32]=([63],[],false):=Num.pR 32 [63] (by decide);have h2:Num.aS Num.bC ⟨[],none⟩ [63]=(⟨[],none⟩,[63]):=Num.nS _ _ _ (by decide) (by decide) (by decide) (by decide) (by decide) (Or.inr (by rw [hc];exact ⟨by decide,by decide,by decide⟩));unfold Num.jM;rw [h1];show (Num.aS Num.bC ⟨[],none⟩ [63]).2 ++ 10 :: Num.gX Num.bC (Num.aS Num.bC ⟨[],none⟩ [63]).1 []=_;rw [h2];rfl
set_option maxRecDepth 8000 in
set_option maxHeartbeats 1600000 in
theorem D8 (a b:List UInt8) (ha:a.length<=20000000) (hb:b.length<=20000000) (w:World) (hL:Laid w) :
  Calls Tryz.prog 4 #[.string (B8 a),.string (B8 b)] w fun e w'=>e=.returned (.bool true)/\Below w.heap.size w w':=by
 have HL:Hid (Laid w):=hL;clear hL;obtain ⟨t,ht⟩:=Num.Un Num.bC a b;have KA:Hid (∀w',Laid w'->Calls Tryz.prog 7 #[.string (B8 (a ++ [10]))] w' fun e w''=>e=.returned (.string (B8 (Num.jM Num.bC (a ++ [10]))))/\Below w'.heap.size w' w''):=fun w' h=>uT _ (by rw [List.length_append,List.length_singleton];omega) w' h;have KB:Hid (∀w',Laid w'->Calls Tryz.prog 7 #[.string (B8 (a ++ 10 :: b))] w' fun e w''=>e=.returned (.string (B8 (Num.jM Num.bC (a ++ [10]) ++ t)))/\Below w'.heap.size w' w''):=fun w' h=>by
  have:=uT (a ++ 10 :: b) (by rw [List.length_append,List.length_cons];omega) w' h;rw [ht] at this;exact this
 have KQ:Hid (∀w',Laid w'->Calls Tryz.prog 7 #[.string (B8 [63])] w' fun e w''=>e=.returned (.string (B8 [63,10]))/\Below w'.heap.size w' w''):=fun w' h=>by
  have:=uT [63] (by decide) w' h;rw [Ry] at this;exact this
 generalize Num.jM Num.bC (a ++ [10])=X at *;have E1:B8 a ++ ⟨#[10]⟩=B8 (a ++ [10]):=show B8 a ++ B8 [10]=_ from bL _ _;have E2:B8 (a ++ [10]) ++ B8 b=B8 (a ++ 10 :: b):=by rw [bL,List.append_assoc];rfl
 have s1:(B8 a).size<=20000000:=by rw [aQ];exact ha
 have s2:(B8 b).size<=20000000:=by rw [aQ];exact hb
 have s3:(B8 (a ++ [10])).size<=20000001:=by rw [aQ,List.length_append,List.length_singleton];omega
 have hle:((B8 X).size:Int)<=((B8 (X ++ t)).size:Int):=by rw [aQ,aQ,List.length_append];omega
 have hex:(B8 (X ++ t)).extract 0 (B8 X).size=B8 X:=by rw [aQ,lT,List.drop_zero,Nat.sub_zero,List.take_left]
 have hqq:((B8 [63,10]).toList == [63,10])=true:=(str_eq rfl).1;clear ht ha hb;generalize hX:B8 X=SX at KA hle hex;generalize hT:B8 (X ++ t)=ST at KB hle hex;generalize hA:B8 (a ++ [10])=SA at KA E1 E2 s3;generalize VR:B8 (a ++ 10 :: b)=SAB at KB E2;generalize hQ:B8 [63,10]=SQ at KQ hqq;clear hX hT hA VR hQ;go_enter Tryz.func4,Tryz.ntmps4;generalize B8 a=Sa at E1 s1 ⊢;generalize B8 b=Sb at E2 s2 ⊢;go_wp2_with fail;refine (KA.out w HL.out).mono ?_;rintro e w1 ⟨rfl,hb1⟩;go_wp2_with fail;refine (KB.out w1 (HL.out.later hb1)).mono ?_;rintro e w2 ⟨rfl,hb2⟩;have hB2:=ai hb1 hb2;go_wp2_with fail;refine (KQ.out w2 (HL.out.later hB2)).mono ?_;rintro e w3 ⟨rfl,hb3⟩;have hB3:=ai hB2 hb3;clear hb1 hb2 hb3 hB2 KA KB KQ;go_wp2_with fail;go_ret;exact ⟨rfl,hB3⟩
end Go.Proofs.YtipcbhodlgoflabGreatDoor
