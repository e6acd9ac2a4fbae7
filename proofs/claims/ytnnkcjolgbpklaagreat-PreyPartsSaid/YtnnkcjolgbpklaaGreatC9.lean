/- Texts G7 to G9. -/
import Derived.Test.YtnnkcjolgbpklaaGreatC8
set_option linter.unusedVariables false
section
open Go Go.Ev
set_option maxRecDepth 1000000
noncomputable section
namespace Go.Proofs.YtnnkcjolgbpklaaGreat.G
variable (cal:Cal) (k:Nat)
noncomputable def code135:Code:=codeOf 135
noncomputable def results135:List ResultVar:=resOf 135
noncomputable def K135_prr:KR:=(cutK (Lv.b (Lv.b (A 135))).c (codeE P cal (codeF P cal k) none 135 (cR (cR (cR code135))) (Lv.b (Lv.b (Lv.b (A 135)))) (doneK P results135) X0 (doneK P results135)))
noncomputable def K135_pxrrlr:XR:=(upX 0 (K135_prr cal k) X0)
noncomputable def K135_prrlrl (m1:Nat):KR:=(fun T H n D=>codeF P cal m1 (Lv.a (Lv.b (Lv.a (Lv.b (Lv.b (A 135)))))) none 135 (cL (cR (cL (cR (cR code135))))) (K135_prr cal k) (K135_pxrrlr cal k) (doneK P results135) (cutT (Lv.a (Lv.b (Lv.a (Lv.b (Lv.b (A 135)))))).c T) H n D)
noncomputable def K135_prrlrllr (m1:Nat):KR:=(cutK (Lv.b (Lv.a (Lv.a (Lv.b (Lv.a (Lv.b (Lv.b (A 135)))))))).c (codeE P cal (codeF P cal m1) none 135 (cR (cR (cL (cL (cR (cL (cR (cR code135)))))))) (Lv.b (Lv.b (Lv.a (Lv.a (Lv.b (Lv.a (Lv.b (Lv.b (A 135))))))))) (K135_prrlrl cal k m1) (K135_pxrrlr cal k) (doneK P results135)))
noncomputable def K135_pxrrlrllrl (m1:Nat):XR:=(upX 1 (K135_prrlrllr cal k m1) (K135_pxrrlr cal k))
noncomputable def K135_prrlrllrll (m1:Nat):KR:=(cutK (Lv.a (Lv.a (Lv.b (Lv.a (Lv.a (Lv.b (Lv.a (Lv.b (Lv.b (A 135)))))))))).c (codeE P cal (codeF P cal m1) none 135 (cR (cL (cL (cR (cL (cL (cR (cL (cR (cR code135)))))))))) (Lv.b (Lv.a (Lv.a (Lv.b (Lv.a (Lv.a (Lv.b (Lv.a (Lv.b (Lv.b (A 135))))))))))) (K135_prrlrllr cal k m1) (K135_pxrrlrllrl cal k m1) (doneK P results135)))
noncomputable def K135_pxrrlrllrlll (m1:Nat):XR:=(upX 2 (K135_prrlrllrll cal k m1) (K135_pxrrlrllrl cal k m1))
noncomputable def K135_prrlrllrllll (m1:Nat) (m2:Nat):KR:=(fun T H n D=>codeF P cal m2 (Lv.a (Lv.a (Lv.a (Lv.a (Lv.b (Lv.a (Lv.a (Lv.b (Lv.a (Lv.b (Lv.b (A 135)))))))))))) none 135 (cL (cL (cL (cL (cR (cL (cL (cR (cL (cR (cR code135))))))))))) (K135_prrlrllrll cal k m1) (K135_pxrrlrllrlll cal k m1) (doneK P results135) (cutT (Lv.a (Lv.a (Lv.a (Lv.a (Lv.b (Lv.a (Lv.a (Lv.b (Lv.a (Lv.b (Lv.b (A 135)))))))))))).c T) H n D)
noncomputable def K135_pxrrlrllrllrrrrrrlr (m1:Nat):XR:=(upX 6 (K135_prrlrllr cal k m1) (K135_pxrrlrllrl cal k m1))
noncomputable def K135_prrlrllrllrrrrrrlrl (m1:Nat) (m2:Nat):KR:=(fun T H n D=>codeF P cal m2 (Lv.a (Lv.b (Lv.a (Lv.b (Lv.b (Lv.b (Lv.b (Lv.b (Lv.b (Lv.a (Lv.a (Lv.b (Lv.a (Lv.a (Lv.b (Lv.a (Lv.b (Lv.b (A 135))))))))))))))))))) none 135 (cL (cR (cL (cR (cR (cR (cR (cR (cR (cL (cL (cR (cL (cL (cR (cL (cR (cR code135)))))))))))))))))) (K135_prrlrllr cal k m1) (K135_pxrrlrllrllrrrrrrlr cal k m1) (doneK P results135) (cutT (Lv.a (Lv.b (Lv.a (Lv.b (Lv.b (Lv.b (Lv.b (Lv.b (Lv.b (Lv.a (Lv.a (Lv.b (Lv.a (Lv.a (Lv.b (Lv.a (Lv.b (Lv.b (A 135))))))))))))))))))).c T) H n D)
noncomputable def K135_prrlrllrllrrrr (m1:Nat):KR:=(cutK (Lv.b (Lv.b (Lv.b (Lv.b (Lv.a (Lv.a (Lv.b (Lv.a (Lv.a (Lv.b (Lv.a (Lv.b (Lv.b (A 135)))))))))))))).c (codeE P cal (codeF P cal m1) none 135 (cR (cR (cR (cR (cR (cL (cL (cR (cL (cL (cR (cL (cR (cR code135)))))))))))))) (Lv.b (Lv.b (Lv.b (Lv.b (Lv.b (Lv.a (Lv.a (Lv.b (Lv.a (Lv.a (Lv.b (Lv.a (Lv.b (Lv.b (A 135))))))))))))))) (K135_prrlrllr cal k m1) (K135_pxrrlrllrl cal k m1) (doneK P results135)))
noncomputable def K135_pxrrlrllrllrrrrlrlr (m1:Nat):XR:=(upX 4 (K135_prrlrllrllrrrr cal k m1) (K135_pxrrlrllrl cal k m1))
noncomputable def K135_prrlrllrllrrrrlrlrl (m1:Nat) (m2:Nat):KR:=(fun T H n D=>codeF P cal m2 (Lv.a (Lv.b (Lv.a (Lv.b (Lv.a (Lv.b (Lv.b (Lv.b (Lv.b (Lv.a (Lv.a (Lv.b (Lv.a (Lv.a (Lv.b (Lv.a (Lv.b (Lv.b (A 135))))))))))))))))))) none 135 (cL (cR (cL (cR (cL (cR (cR (cR (cR (cL (cL (cR (cL (cL (cR (cL (cR (cR code135)))))))))))))))))) (K135_prrlrllrllrrrr cal k m1) (K135_pxrrlrllrllrrrrlrlr cal k m1) (doneK P results135) (cutT (Lv.a (Lv.b (Lv.a (Lv.b (Lv.a (Lv.b (Lv.b (Lv.b (Lv.b (Lv.a (Lv.a (Lv.b (Lv.a (Lv.a (Lv.b (Lv.a (Lv.b (Lv.b (A 135))))))))))))))))))).c T) H n D)
noncomputable def T135_2 (m1:Nat):=fun(u0 u1 u2 u3 u9 u10:Value) (H:Hp) (n:Nat)=>labK (codeE P cal (codeF P cal m1) none 135 (cR (cR (cL (cL (cR (cL (cR (cR code135)))))))) (Lv.b (Lv.b (Lv.a (Lv.a (Lv.b (Lv.a (Lv.b (Lv.b (A 135))))))))) (K135_prrlrl cal k m1) (K135_pxrrlr cal k) (doneK P results135)) (Tr.set (Tr.set (Tr.set (Tr.set (Tr.set (Tr.set Tr.nil 10 (some u10)) 9 (some u9)) 3 (some u3)) 2 (some u2)) 1 (some u1)) 0 (some u0)) H n []
noncomputable def T135_5 (m1 m2:Nat):=fun(u0 u1 u2 u3 u9 u10 u12:Value) (H:Hp) (n:Nat)=>labK (codeE P cal (codeF P cal m2) none 135 (cL (cL (cR (cL (cR (cR (cR (cR (cR (cR (cL (cL (cR (cL (cL (cR (cL (cR (cR code135))))))))))))))))))) (Lv.a (Lv.a (Lv.b (Lv.a (Lv.b (Lv.b (Lv.b (Lv.b (Lv.b (Lv.b (Lv.a (Lv.a (Lv.b (Lv.a (Lv.a (Lv.b (Lv.a (Lv.b (Lv.b (A 135)))))))))))))))))))) (K135_prrlrllrllrrrrrrlrl cal k m1 m2) (K135_pxrrlrllrllrrrrrrlr cal k m1) (doneK P results135)) (Tr.set (Tr.set (Tr.set (Tr.set (Tr.set (Tr.set (Tr.set Tr.nil 12 (some u12)) 10 (some u10)) 9 (some u9)) 3 (some u3)) 2 (some u2)) 1 (some u1)) 0 (some u0)) H n []
noncomputable def R135_5 (m1 m2:Nat):V7:=fun u0 u1 u2 u3 u9 u10 u12 H n=>codeF P cal m2 (Lv.a (Lv.b (Lv.a (Lv.b (Lv.b (Lv.b (Lv.b (Lv.b (Lv.b (Lv.a (Lv.a (Lv.b (Lv.a (Lv.a (Lv.b (Lv.a (Lv.b (Lv.b (A 135))))))))))))))))))) none 135 (cL (cR (cL (cR (cR (cR (cR (cR (cR (cL (cL (cR (cL (cL (cR (cL (cR (cR code135)))))))))))))))))) (K135_prrlrllr cal k m1) (K135_pxrrlrllrllrrrrrrlr cal k m1) (doneK P results135) (Tr.set (Tr.set (Tr.set (Tr.set (Tr.set (Tr.set (Tr.set Tr.nil 12 (some u12)) 10 (some u10)) 9 (some u9)) 3 (some u3)) 2 (some u2)) 1 (some u1)) 0 (some u0)) H n []
noncomputable def T135_4 (m1:Nat):=fun(u0 u1 u2 u3 u9 u10:Value) (H:Hp) (n:Nat)=>labK (codeE P cal (codeF P cal m1) none 135 (cR (cR (cR (cR (cR (cL (cL (cR (cL (cL (cR (cL (cR (cR code135)))))))))))))) (Lv.b (Lv.b (Lv.b (Lv.b (Lv.b (Lv.a (Lv.a (Lv.b (Lv.a (Lv.a (Lv.b (Lv.a (Lv.b (Lv.b (A 135))))))))))))))) (K135_prrlrllr cal k m1) (K135_pxrrlrllrl cal k m1) (doneK P results135)) (Tr.set (Tr.set (Tr.set (Tr.set (Tr.set (Tr.set Tr.nil 10 (some u10)) 9 (some u9)) 3 (some u3)) 2 (some u2)) 1 (some u1)) 0 (some u0)) H n []
noncomputable def T135_6 (m1 m2:Nat):=fun(u0 u1 u2 u3 u9 u10 u11:Value) (H:Hp) (n:Nat)=>labK (codeE P cal (codeF P cal m2) none 135 (cL (cL (cR (cL (cR (cL (cR (cR (cR (cR (cL (cL (cR (cL (cL (cR (cL (cR (cR code135))))))))))))))))))) (Lv.a (Lv.a (Lv.b (Lv.a (Lv.b (Lv.a (Lv.b (Lv.b (Lv.b (Lv.b (Lv.a (Lv.a (Lv.b (Lv.a (Lv.a (Lv.b (Lv.a (Lv.b (Lv.b (A 135)))))))))))))))))))) (K135_prrlrllrllrrrrlrlrl cal k m1 m2) (K135_pxrrlrllrllrrrrlrlr cal k m1) (doneK P results135)) (Tr.set (Tr.set (Tr.set (Tr.set (Tr.set (Tr.set (Tr.set Tr.nil 11 (some u11)) 10 (some u10)) 9 (some u9)) 3 (some u3)) 2 (some u2)) 1 (some u1)) 0 (some u0)) H n []
noncomputable def R135_6 (m1 m2:Nat):V7:=fun u0 u1 u2 u3 u9 u10 u11 H n=>codeF P cal m2 (Lv.a (Lv.b (Lv.a (Lv.b (Lv.a (Lv.b (Lv.b (Lv.b (Lv.b (Lv.a (Lv.a (Lv.b (Lv.a (Lv.a (Lv.b (Lv.a (Lv.b (Lv.b (A 135))))))))))))))))))) none 135 (cL (cR (cL (cR (cL (cR (cR (cR (cR (cL (cL (cR (cL (cL (cR (cL (cR (cR code135)))))))))))))))))) (K135_prrlrllrllrrrr cal k m1) (K135_pxrrlrllrllrrrrlrlr cal k m1) (doneK P results135) (Tr.set (Tr.set (Tr.set (Tr.set (Tr.set (Tr.set (Tr.set Tr.nil 11 (some u11)) 10 (some u10)) 9 (some u9)) 3 (some u3)) 2 (some u2)) 1 (some u1)) 0 (some u0)) H n []
noncomputable def T135_3 (m1 m2:Nat):=fun(u0 u1 u2 u3 u9 u10:Value) (H:Hp) (n:Nat)=>labK (codeE P cal (codeF P cal m2) none 135 (cL (cL (cL (cL (cL (cR (cL (cL (cR (cL (cR (cR code135)))))))))))) (Lv.a (Lv.a (Lv.a (Lv.a (Lv.a (Lv.b (Lv.a (Lv.a (Lv.b (Lv.a (Lv.b (Lv.b (A 135))))))))))))) (K135_prrlrllrllll cal k m1 m2) (K135_pxrrlrllrlll cal k m1) (doneK P results135)) (Tr.set (Tr.set (Tr.set (Tr.set (Tr.set (Tr.set Tr.nil 10 (some u10)) 9 (some u9)) 3 (some u3)) 2 (some u2)) 1 (some u1)) 0 (some u0)) H n []
noncomputable def R135_3 (m1 m2:Nat):V6:=fun u0 u1 u2 u3 u9 u10 H n=>codeF P cal m2 (Lv.a (Lv.a (Lv.a (Lv.a (Lv.b (Lv.a (Lv.a (Lv.b (Lv.a (Lv.b (Lv.b (A 135)))))))))))) none 135 (cL (cL (cL (cL (cR (cL (cL (cR (cL (cR (cR code135))))))))))) (K135_prrlrllrll cal k m1) (K135_pxrrlrllrlll cal k m1) (doneK P results135) (Tr.set (Tr.set (Tr.set (Tr.set (Tr.set (Tr.set Tr.nil 10 (some u10)) 9 (some u9)) 3 (some u3)) 2 (some u2)) 1 (some u1)) 0 (some u0)) H n []
noncomputable def T135_1 (m1:Nat):=fun(u0 u1 u2 u3 u9 u10:Value) (H:Hp) (n:Nat)=>labK (codeE P cal (codeF P cal m1) none 135 (cL (cL (cR (cL (cR (cR code135)))))) (Lv.a (Lv.a (Lv.b (Lv.a (Lv.b (Lv.b (A 135))))))) (K135_prrlrl cal k m1) (K135_pxrrlr cal k) (doneK P results135)) (Tr.set (Tr.set (Tr.set (Tr.set (Tr.set (Tr.set Tr.nil 10 (some u10)) 9 (some u9)) 3 (some u3)) 2 (some u2)) 1 (some u1)) 0 (some u0)) H n []
noncomputable def R135_1 (m1:Nat):V6:=fun u0 u1 u2 u3 u9 u10 H n=>codeF P cal m1 (Lv.a (Lv.b (Lv.a (Lv.b (Lv.b (A 135)))))) none 135 (cL (cR (cL (cR (cR code135))))) (K135_prr cal k) (K135_pxrrlr cal k) (doneK P results135) (Tr.set (Tr.set (Tr.set (Tr.set (Tr.set (Tr.set Tr.nil 10 (some u10)) 9 (some u9)) 3 (some u3)) 2 (some u2)) 1 (some u1)) 0 (some u0)) H n []
noncomputable def B135_2 (cal:Cal) (k m1:Nat) (b1:V6) (u0 u1 u2 u3 u9 u10:Value) (H:Hp) (n:Nat):Res:=
binK P BinOp.add 3 (Operand.tmp 17) (Operand.const (Value.int IntKind.i64 1)) u10 (Value.int IntKind.i64 1) fun v_9=>
b1 u0 u1 u2 u3 u9 v_9 H n
noncomputable def C135_2 (m1:Nat):=B135_2 cal k m1
theorem h135_2 (m1:Nat):T135_2 cal k m1=C135_2 cal k m1 (R135_1 cal k m1):=by kernel_rfl
noncomputable def B135_5 (cal:Cal) (k m1 m2:Nat) (j2:V6) (b1:V6) (b5:V7) (u0 u1 u2 u3 u9 u10 u12:Value) (H:Hp) (n:Nat):Res:=
binK P BinOp.lss 3 (Operand.tmp 107) (Operand.tmp 108) u12 u2 fun v_3x=>
ifK v_3x (
bindO (indexAddrV P 98 u0 u12) fun v_41=>
bindO (addrV v_41) fun a_42=>bindO (loadV P H 106 a_42) fun v_43=>
binK P BinOp.sub 3 (Operand.tmp 118) (Operand.const (Value.int IntKind.i64 1)) u12 (Value.int IntKind.i64 1) fun v_46=>
bindO (indexAddrV P 98 u0 v_46) fun v_47=>
bindO (addrV v_47) fun a_48=>bindO (loadV P H 106 a_48) fun v_49=>
callVK P cal u3 [v_43,v_49] H n fun v_4a H_4b n_4c=>
binK P BinOp.lss 3 (Operand.tmp 122) (Operand.const (Value.int IntKind.i64 0)) v_4a (Value.int IntKind.i64 0) fun v_4d=>
bindO (pureSem P v_4d (Op.unary UnOp.not v_4d)) fun v_4e=>
ifK v_4e (
j2 u0 u1 u2 u3 u9 u10 H_4b n_4c) (
binK P BinOp.sub 3 (Operand.tmp 128) (Operand.const (Value.int IntKind.i64 1)) u12 (Value.int IntKind.i64 1) fun v_4j=>
binK P BinOp.sub 3 (Operand.tmp 131) (Operand.const (Value.int IntKind.i64 1)) u12 (Value.int IntKind.i64 1) fun v_4m=>
bindO (indexAddrV P 98 u0 v_4m) fun v_4n=>
bindO (addrV v_4n) fun a_4o=>bindO (loadV P H_4b 106 a_4o) fun v_4p=>
bindO (indexAddrV P 98 u0 u12) fun v_4s=>
bindO (addrV v_4s) fun a_4t=>bindO (loadV P H_4b 106 a_4t) fun v_4u=>
bindO (indexAddrV P 98 u0 u12) fun v_4v=>
bindO (storeP P 106 v_4v v_4p H_4b) fun H_4x=>
bindO (indexAddrV P 98 u0 v_4j) fun v_4y=>
bindO (storeP P 106 v_4y v_4u H_4x) fun H_50=>
binK P BinOp.add 3 (Operand.tmp 110) (Operand.const (Value.int IntKind.i64 1)) u12 (Value.int IntKind.i64 1) fun v_52=>
b5 u0 u1 u2 u3 u9 u10 v_52 H_50 n_4c)) (
j2 u0 u1 u2 u3 u9 u10 H n)
noncomputable def C135_5 (m1 m2:Nat) (b1:V6):=B135_5 cal k m1 m2 (C135_2 cal k m1 b1) b1
noncomputable def S135_5 (m1:Nat) (b1:V6):Nat→V7:=fun m=>Nat.rec (motive:=fun _=>V7) (C135_5 cal k m1 0 b1 (fun _ _ _ _ _ _ _ _ _=>none)) (fun m ih=>C135_5 cal k m1 (m+1) b1 ih) m
theorem h135_5 (m1 m2:Nat):T135_5 cal k m1 m2=C135_5 cal k m1 m2 (R135_1 cal k m1) (R135_5 cal k m1 m2):=Eq.trans (b:=B135_5 cal k m1 m2 (T135_2 cal k m1) (R135_1 cal k m1) (R135_5 cal k m1 m2)) (by kernel_rfl) (by rw[h135_2]; rfl)
theorem q135_5 (m1:Nat) (m:Nat):T135_5 cal k m1 m=S135_5 cal k m1 (R135_1 cal k m1) m:=recS (h135_5 cal k m1) (by kernel_rfl) (fun m=>by kernel_rfl) m
noncomputable def B135_4 (cal:Cal) (k m1:Nat) (j5:V7) (j2:V6) (b1:V6) (u0 u1 u2 u3 u9 u10:Value) (H:Hp) (n:Nat):Res:=
binK P BinOp.sub 3 (Operand.tmp 101) (Operand.tmp 102) u2 u9 fun v_3q=>
binK P BinOp.geq 3 (Operand.tmp 103) (Operand.const (Value.int IntKind.i64 2)) v_3q (Value.int IntKind.i64 2) fun v_3r=>
ifK v_3r (
binK P BinOp.add 3 (Operand.tmp 105) (Operand.const (Value.int IntKind.i64 1)) u9 (Value.int IntKind.i64 1) fun v_3t=>
j5 u0 u1 u2 u3 u9 u10 v_3t H n) (
j2 u0 u1 u2 u3 u9 u10 H n)
noncomputable def C135_4 (m1:Nat) (b1:V6):=B135_4 cal k m1 (S135_5 cal k m1 b1 m1) (C135_2 cal k m1 b1) b1
theorem h135_4 (m1:Nat):T135_4 cal k m1=C135_4 cal k m1 (R135_1 cal k m1):=Eq.trans (b:=B135_4 cal k m1 (T135_5 cal k m1 m1) (T135_2 cal k m1) (R135_1 cal k m1)) (by kernel_rfl) (by rw[q135_5,h135_2]; rfl)
noncomputable def B135_6 (cal:Cal) (k m1 m2:Nat) (j4:V6) (b1:V6) (b6:V7) (u0 u1 u2 u3 u9 u10 u11:Value) (H:Hp) (n:Nat):Res:=
binK P BinOp.geq 3 (Operand.tmp 68) (Operand.const (Value.int IntKind.i64 1)) u11 (Value.int IntKind.i64 1) fun v_5c=>
ifK v_5c (
bindO (indexAddrV P 98 u0 u11) fun v_5g=>
bindO (addrV v_5g) fun a_5h=>bindO (loadV P H 106 a_5h) fun v_5i=>
binK P BinOp.sub 3 (Operand.tmp 78) (Operand.const (Value.int IntKind.i64 1)) u11 (Value.int IntKind.i64 1) fun v_5l=>
bindO (indexAddrV P 98 u0 v_5l) fun v_5m=>
bindO (addrV v_5m) fun a_5n=>bindO (loadV P H 106 a_5n) fun v_5o=>
callVK P cal u3 [v_5i,v_5o] H n fun v_5p H_5q n_5r=>
binK P BinOp.lss 3 (Operand.tmp 82) (Operand.const (Value.int IntKind.i64 0)) v_5p (Value.int IntKind.i64 0) fun v_5s=>
bindO (pureSem P v_5s (Op.unary UnOp.not v_5s)) fun v_5t=>
ifK v_5t (
j4 u0 u1 u2 u3 u9 u10 H_5q n_5r) (
binK P BinOp.sub 3 (Operand.tmp 88) (Operand.const (Value.int IntKind.i64 1)) u11 (Value.int IntKind.i64 1) fun v_5y=>
binK P BinOp.sub 3 (Operand.tmp 91) (Operand.const (Value.int IntKind.i64 1)) u11 (Value.int IntKind.i64 1) fun v_61=>
bindO (indexAddrV P 98 u0 v_61) fun v_62=>
bindO (addrV v_62) fun a_63=>bindO (loadV P H_5q 106 a_63) fun v_64=>
bindO (indexAddrV P 98 u0 u11) fun v_67=>
bindO (addrV v_67) fun a_68=>bindO (loadV P H_5q 106 a_68) fun v_69=>
bindO (indexAddrV P 98 u0 u11) fun v_6a=>
bindO (storeP P 106 v_6a v_64 H_5q) fun H_6c=>
bindO (indexAddrV P 98 u0 v_5y) fun v_6d=>
bindO (storeP P 106 v_6d v_69 H_6c) fun H_6f=>
binK P BinOp.sub 3 (Operand.tmp 70) (Operand.const (Value.int IntKind.i64 1)) u11 (Value.int IntKind.i64 1) fun v_6h=>
b6 u0 u1 u2 u3 u9 u10 v_6h H_6f n_5r)) (
j4 u0 u1 u2 u3 u9 u10 H n)
noncomputable def C135_6 (m1 m2:Nat) (b1:V6):=B135_6 cal k m1 m2 (C135_4 cal k m1 b1) b1
noncomputable def S135_6 (m1:Nat) (b1:V6):Nat→V7:=fun m=>Nat.rec (motive:=fun _=>V7) (C135_6 cal k m1 0 b1 (fun _ _ _ _ _ _ _ _ _=>none)) (fun m ih=>C135_6 cal k m1 (m+1) b1 ih) m
theorem h135_6 (m1 m2:Nat):T135_6 cal k m1 m2=C135_6 cal k m1 m2 (R135_1 cal k m1) (R135_6 cal k m1 m2):=Eq.trans (b:=B135_6 cal k m1 m2 (T135_4 cal k m1) (R135_1 cal k m1) (R135_6 cal k m1 m2)) (by kernel_rfl) (by rw[h135_4]; rfl)
theorem q135_6 (m1:Nat) (m:Nat):T135_6 cal k m1 m=S135_6 cal k m1 (R135_1 cal k m1) m:=recS (h135_6 cal k m1) (by kernel_rfl) (fun m=>by kernel_rfl) m
noncomputable def B135_3 (cal:Cal) (k m1 m2:Nat) (j6:V7) (j4:V6) (b1:V6) (b3:V6) (u0 u1 u2 u3 u9 u10:Value) (H:Hp) (n:Nat):Res:=
binK P BinOp.lss 3 (Operand.tmp 19) (Operand.tmp 20) u9 u2 fun v_d=>
guardD v_d true (fun k_f=>
k_f u3 .p H n) .p H n fun v_g x_h H_i n_j=>
guardD v_d true (fun k_l=>
k_l u0 .p H_i n_j) .p H_i n_j fun v_m x_n H_o n_p=>
guardD v_d true (fun k_r=>
k_r u9 .p H_o n_p) .p H_o n_p fun v_s x_t H_u n_v=>
guardD v_d true (fun k_x=>
bindO (indexAddrV P 98 v_m v_s) fun v_12=>
k_x v_12 .p H_u n_v) .p H_u n_v fun v_y x_z H_10 n_11=>
guardD v_d true (fun k_13=>
bindO (addrV v_y) fun a_18=>bindO (loadV P H_10 106 a_18) fun v_19=>
k_13 v_19 (.l 106 a_18) H_10 n_11) .p H_10 n_11 fun v_14 x_15 H_16 n_17=>
guardD v_d true (fun k_1a=>
k_1a u0 .p H_16 n_17) .p H_16 n_17 fun v_1b x_1c H_1d n_1e=>
guardD v_d true (fun k_1g=>
k_1g u9 .p H_1d n_1e) .p H_1d n_1e fun v_1h x_1i H_1j n_1k=>
guardD v_d true (fun k_1m=>
binK P BinOp.sub 3 (Operand.tmp 29) (Operand.const (Value.int IntKind.i64 1)) v_1h (Value.int IntKind.i64 1) fun v_1r=>
k_1m v_1r .p H_1j n_1k) .p H_1j n_1k fun v_1n x_1o H_1p n_1q=>
guardD v_d true (fun k_1s=>
bindO (indexAddrV P 98 v_1b v_1n) fun v_1x=>
k_1s v_1x .p H_1p n_1q) .p H_1p n_1q fun v_1t x_1u H_1v n_1w=>
guardD v_d true (fun k_1y=>
bindO (addrV v_1t) fun a_23=>bindO (loadV P H_1v 106 a_23) fun v_24=>
k_1y v_24 (.l 106 a_23) H_1v n_1w) .p H_1v n_1w fun v_1z x_20 H_21 n_22=>
guardD v_d true (fun k_25=>
callVK P cal v_g [v_14,v_1z] H_21 n_22 fun v_2a H_2b n_2c=>
k_25 v_2a .e H_2b n_2c) .e H_21 n_22 fun v_26 x_27 H_28 n_29=>
guardD v_d true (fun k_2d=>
binK P BinOp.lss 3 (Operand.tmp 33) (Operand.const (Value.int IntKind.i64 0)) v_26 (Value.int IntKind.i64 0) fun v_2i=>
k_2d v_2i .p H_28 n_29) .p H_28 n_29 fun v_2e x_2f H_2g n_2h=>
guardD v_d true (fun k_2j=>
bindO (pureSem P v_2e (Op.unary UnOp.not v_2e)) fun v_2o=>
k_2j v_2o .p H_2g n_2h) .p H_2g n_2h fun v_2k x_2l H_2m n_2n=>
bindO (pickV v_d v_2k (Value.bool false)) fun v_2p=>
ifK v_2p (
binK P BinOp.add 3 (Operand.tmp 37) (Operand.const (Value.int IntKind.i64 1)) u9 (Value.int IntKind.i64 1) fun v_2r=>
b3 u0 u1 u2 u3 v_2r u10 H_2m n_2n) (
binK P BinOp.eql 3 (Operand.tmp 39) (Operand.tmp 40) u9 u2 fun v_2v=>
ifK v_2v (
some ((Value.bool true),H_2m,n_2n)) (
binK P BinOp.sub 3 (Operand.tmp 42) (Operand.tmp 43) u2 u1 fun v_2z=>
binK P BinOp.lss 3 (Operand.tmp 44) (Operand.const (Value.int IntKind.i64 50)) v_2z (Value.int IntKind.i64 50) fun v_30=>
ifK v_30 (
some ((Value.bool false),H_2m,n_2n)) (
binK P BinOp.sub 3 (Operand.tmp 49) (Operand.const (Value.int IntKind.i64 1)) u9 (Value.int IntKind.i64 1) fun v_36=>
binK P BinOp.sub 3 (Operand.tmp 52) (Operand.const (Value.int IntKind.i64 1)) u9 (Value.int IntKind.i64 1) fun v_39=>
bindO (indexAddrV P 98 u0 v_39) fun v_3a=>
bindO (addrV v_3a) fun a_3b=>bindO (loadV P H_2m 106 a_3b) fun v_3c=>
bindO (indexAddrV P 98 u0 u9) fun v_3f=>
bindO (addrV v_3f) fun a_3g=>bindO (loadV P H_2m 106 a_3g) fun v_3h=>
bindO (indexAddrV P 98 u0 u9) fun v_3i=>
bindO (storeP P 106 v_3i v_3c H_2m) fun H_3k=>
bindO (indexAddrV P 98 u0 v_36) fun v_3l=>
bindO (storeP P 106 v_3l v_3h H_3k) fun H_3n=>
binK P BinOp.sub 3 (Operand.tmp 62) (Operand.tmp 63) u9 u1 fun v_56=>
binK P BinOp.geq 3 (Operand.tmp 64) (Operand.const (Value.int IntKind.i64 2)) v_56 (Value.int IntKind.i64 2) fun v_57=>
ifK v_57 (
binK P BinOp.sub 3 (Operand.tmp 66) (Operand.const (Value.int IntKind.i64 1)) u9 (Value.int IntKind.i64 1) fun v_59=>
j6 u0 u1 u2 u3 u9 u10 v_59 H_3n n_2n) (
j4 u0 u1 u2 u3 u9 u10 H_3n n_2n))))
noncomputable def C135_3 (m1 m2:Nat) (b1:V6):=B135_3 cal k m1 m2 (S135_6 cal k m1 b1 m1) (C135_4 cal k m1 b1) b1
noncomputable def S135_3 (m1:Nat) (b1:V6):Nat→V6:=fun m=>Nat.rec (motive:=fun _=>V6) (C135_3 cal k m1 0 b1 (fun _ _ _ _ _ _ _ _=>none)) (fun m ih=>C135_3 cal k m1 (m+1) b1 ih) m
theorem h135_3 (m1 m2:Nat):T135_3 cal k m1 m2=C135_3 cal k m1 m2 (R135_1 cal k m1) (R135_3 cal k m1 m2):=Eq.trans (b:=B135_3 cal k m1 m2 (T135_6 cal k m1 m1) (T135_4 cal k m1) (R135_1 cal k m1) (R135_3 cal k m1 m2)) (by kernel_rfl) (by rw[q135_6,h135_4]; rfl)
theorem q135_3 (m1:Nat) (m:Nat):T135_3 cal k m1 m=S135_3 cal k m1 (R135_1 cal k m1) m:=recS (h135_3 cal k m1) (by kernel_rfl) (fun m=>by kernel_rfl) m
noncomputable def B135_1 (cal:Cal) (k m1:Nat) (j3:V6) (b1:V6) (u0 u1 u2 u3 u9 u10:Value) (H:Hp) (n:Nat):Res:=
binK P BinOp.lss 3 (Operand.tmp 15) (Operand.const (Value.int IntKind.i64 5)) u10 (Value.int IntKind.i64 5) fun v_7=>
ifK v_7 (
j3 u0 u1 u2 u3 u9 u10 H n) (
some ((Value.bool false),H,n))
noncomputable def C135_1 (m1:Nat) (b1:V6):=B135_1 cal k m1 (S135_3 cal k m1 b1 m1) b1
noncomputable def S135_1:Nat→V6:=recF (C135_1 cal k) (fun _ _ _ _ _ _ _ _=>none)
theorem h135_1 (m1:Nat):T135_1 cal k m1=C135_1 cal k m1 (R135_1 cal k m1):=Eq.trans (b:=B135_1 cal k m1 (T135_3 cal k m1 m1) (R135_1 cal k m1)) (by kernel_rfl) (by rw[q135_3]; rfl)
theorem q135_1 (m:Nat):T135_1 cal k m=S135_1 cal k m:=recS (h135_1 cal k) (by kernel_rfl) (fun m=>by kernel_rfl) m
noncomputable def B135_0 (cal:Cal) (k:Nat) (j1:V6) (v0 v1 v2 v3:Value) (H:Hp) (n:Nat):Res:=
binK P BinOp.add 3 (Operand.tmp 13) (Operand.const (Value.int IntKind.i64 1)) v1 (Value.int IntKind.i64 1) fun v_3=>
j1 v0 v1 v2 v3 v_3 (Value.int IntKind.i64 0) H n
noncomputable def C135_0:=B135_0 cal k (S135_1 cal k k)
theorem h135_0 (v0 v1 v2 v3:Value) (H:Hp) (n:Nat):bodyE P cal A (k+1) 135 [v0,v1,v2,v3] H n=C135_0 cal k v0 v1 v2 v3 H n:=(bq Go.Proofs.Tryz.f135 code135 results135 (by kernel_rfl)).trans (Eq.trans (b:=B135_0 cal k (T135_1 cal k k) v0 v1 v2 v3 H n) (by kernel_rfl) (by rw[q135_1]; rfl))
noncomputable def code136:Code:=codeOf 136
noncomputable def results136:List ResultVar:=resOf 136
noncomputable def K136_prrr:KR:=(cutK (Lv.b (Lv.b (Lv.b (A 136)))).c (codeE P cal (codeF P cal k) none 136 (cR (cR (cR (cR code136)))) (Lv.b (Lv.b (Lv.b (Lv.b (A 136))))) (doneK P results136) X0 (doneK P results136)))
noncomputable def K136_pxrrrl:XR:=(upX 0 (K136_prrr cal k) X0)
noncomputable def K136_prrrll (m1:Nat):KR:=(fun T H n D=>codeF P cal m1 (Lv.a (Lv.a (Lv.b (Lv.b (Lv.b (A 136)))))) none 136 (cL (cL (cR (cR (cR code136))))) (K136_prrr cal k) (K136_pxrrrl cal k) (doneK P results136) (cutT (Lv.a (Lv.a (Lv.b (Lv.b (Lv.b (A 136)))))).c T) H n D)
noncomputable def K136_pxrrrlll (m1:Nat):XR:=(upX 1 (K136_prrrll cal k m1) (K136_pxrrrl cal k))
noncomputable def K136_prrrllll (m1:Nat):KR:=(cutK (Lv.a (Lv.a (Lv.a (Lv.a (Lv.b (Lv.b (Lv.b (A 136)))))))).c (codeE P cal (codeF P cal m1) none 136 (cR (cL (cL (cL (cL (cR (cR (cR code136)))))))) (Lv.b (Lv.a (Lv.a (Lv.a (Lv.a (Lv.b (Lv.b (Lv.b (A 136))))))))) (K136_prrrll cal k m1) (K136_pxrrrlll cal k m1) (doneK P results136)))
noncomputable def K136_pxrrrlllll (m1:Nat):XR:=(upX 2 (K136_prrrllll cal k m1) (K136_pxrrrlll cal k m1))
noncomputable def K136_prrrllllll (m1:Nat) (m2:Nat):KR:=(fun T H n D=>codeF P cal m2 (Lv.a (Lv.a (Lv.a (Lv.a (Lv.a (Lv.a (Lv.b (Lv.b (Lv.b (A 136)))))))))) none 136 (cL (cL (cL (cL (cL (cL (cR (cR (cR code136))))))))) (K136_prrrllll cal k m1) (K136_pxrrrlllll cal k m1) (doneK P results136) (cutT (Lv.a (Lv.a (Lv.a (Lv.a (Lv.a (Lv.a (Lv.b (Lv.b (Lv.b (A 136)))))))))).c T) H n D)
noncomputable def K136_prrrllllr (m1:Nat):KR:=(cutK (Lv.b (Lv.a (Lv.a (Lv.a (Lv.a (Lv.b (Lv.b (Lv.b (A 136))))))))).c (codeE P cal (codeF P cal m1) none 136 (cR (cR (cL (cL (cL (cL (cR (cR (cR code136))))))))) (Lv.b (Lv.b (Lv.a (Lv.a (Lv.a (Lv.a (Lv.b (Lv.b (Lv.b (A 136)))))))))) (K136_prrrll cal k m1) (K136_pxrrrlll cal k m1) (doneK P results136)))
noncomputable def K136_pxrrrllllrl (m1:Nat):XR:=(upX 4 (K136_prrrllllr cal k m1) (K136_pxrrrlll cal k m1))
noncomputable def K136_prrrllllrll (m1:Nat) (m2:Nat):KR:=(fun T H n D=>codeF P cal m2 (Lv.a (Lv.a (Lv.b (Lv.a (Lv.a (Lv.a (Lv.a (Lv.b (Lv.b (Lv.b (A 136))))))))))) none 136 (cL (cL (cR (cL (cL (cL (cL (cR (cR (cR code136)))))))))) (K136_prrrllllr cal k m1) (K136_pxrrrllllrl cal k m1) (doneK P results136) (cutT (Lv.a (Lv.a (Lv.b (Lv.a (Lv.a (Lv.a (Lv.a (Lv.b (Lv.b (Lv.b (A 136))))))))))).c T) H n D)
noncomputable def T136_3 (m1 m2:Nat):=fun(u0 u1 u4 u11 u12:Value) (H:Hp) (n:Nat)=>labK (codeE P cal (codeF P cal m2) none 136 (cL (cL (cL (cR (cL (cL (cL (cL (cR (cR (cR code136))))))))))) (Lv.a (Lv.a (Lv.a (Lv.b (Lv.a (Lv.a (Lv.a (Lv.a (Lv.b (Lv.b (Lv.b (A 136)))))))))))) (K136_prrrllllrll cal k m1 m2) (K136_pxrrrllllrl cal k m1) (doneK P results136)) (Tr.set (Tr.set (Tr.set (Tr.set (Tr.set Tr.nil 12 (some u12)) 11 (some u11)) 4 (some u4)) 1 (some u1)) 0 (some u0)) H n []
noncomputable def R136_3 (m1 m2:Nat):V5:=fun u0 u1 u4 u11 u12 H n=>codeF P cal m2 (Lv.a (Lv.a (Lv.b (Lv.a (Lv.a (Lv.a (Lv.a (Lv.b (Lv.b (Lv.b (A 136))))))))))) none 136 (cL (cL (cR (cL (cL (cL (cL (cR (cR (cR code136)))))))))) (K136_prrrllllr cal k m1) (K136_pxrrrllllrl cal k m1) (doneK P results136) (Tr.set (Tr.set (Tr.set (Tr.set (Tr.set Tr.nil 12 (some u12)) 11 (some u11)) 4 (some u4)) 1 (some u1)) 0 (some u0)) H n []
noncomputable def T136_2 (m1 m2:Nat):=fun(u0 u1 u4 u11 u12:Value) (H:Hp) (n:Nat)=>labK (codeE P cal (codeF P cal m2) none 136 (cL (cL (cL (cL (cL (cL (cL (cR (cR (cR code136)))))))))) (Lv.a (Lv.a (Lv.a (Lv.a (Lv.a (Lv.a (Lv.a (Lv.b (Lv.b (Lv.b (A 136))))))))))) (K136_prrrllllll cal k m1 m2) (K136_pxrrrlllll cal k m1) (doneK P results136)) (Tr.set (Tr.set (Tr.set (Tr.set (Tr.set Tr.nil 12 (some u12)) 11 (some u11)) 4 (some u4)) 1 (some u1)) 0 (some u0)) H n []
noncomputable def R136_2 (m1 m2:Nat):V5:=fun u0 u1 u4 u11 u12 H n=>codeF P cal m2 (Lv.a (Lv.a (Lv.a (Lv.a (Lv.a (Lv.a (Lv.b (Lv.b (Lv.b (A 136)))))))))) none 136 (cL (cL (cL (cL (cL (cL (cR (cR (cR code136))))))))) (K136_prrrllll cal k m1) (K136_pxrrrlllll cal k m1) (doneK P results136) (Tr.set (Tr.set (Tr.set (Tr.set (Tr.set Tr.nil 12 (some u12)) 11 (some u11)) 4 (some u4)) 1 (some u1)) 0 (some u0)) H n []
noncomputable def T136_1 (m1:Nat):=fun(u0 u1 u4 u11 u12:Value) (H:Hp) (n:Nat)=>labK (codeE P cal (codeF P cal m1) none 136 (cL (cL (cL (cR (cR (cR code136)))))) (Lv.a (Lv.a (Lv.a (Lv.b (Lv.b (Lv.b (A 136))))))) (K136_prrrll cal k m1) (K136_pxrrrl cal k) (doneK P results136)) (Tr.set (Tr.set (Tr.set (Tr.set (Tr.set Tr.nil 12 (some u12)) 11 (some u11)) 4 (some u4)) 1 (some u1)) 0 (some u0)) H n []
noncomputable def R136_1 (m1:Nat):V5:=fun u0 u1 u4 u11 u12 H n=>codeF P cal m1 (Lv.a (Lv.a (Lv.b (Lv.b (Lv.b (A 136)))))) none 136 (cL (cL (cR (cR (cR code136))))) (K136_prrr cal k) (K136_pxrrrl cal k) (doneK P results136) (Tr.set (Tr.set (Tr.set (Tr.set (Tr.set Tr.nil 12 (some u12)) 11 (some u11)) 4 (some u4)) 1 (some u1)) 0 (some u0)) H n []
noncomputable def B136_3 (cal:Cal) (k m1 m2:Nat) (b1:V5) (b3:V5) (u0 u1 u4 u11 u12:Value) (H:Hp) (n:Nat):Res:=
binK P BinOp.leq 3 (Operand.tmp 50) (Operand.tmp 51) u11 u12 fun v_36=>
guardD v_36 true (fun k_38=>
k_38 u4 .p H n) .p H n fun v_39 x_3a H_3b n_3c=>
guardD v_36 true (fun k_3e=>
k_3e u0 .p H_3b n_3c) .p H_3b n_3c fun v_3f x_3g H_3h n_3i=>
guardD v_36 true (fun k_3k=>
k_3k u1 .p H_3h n_3i) .p H_3h n_3i fun v_3l x_3m H_3n n_3o=>
guardD v_36 true (fun k_3q=>
bindO (indexAddrV P 98 v_3f v_3l) fun v_3v=>
k_3q v_3v .p H_3n n_3o) .p H_3n n_3o fun v_3r x_3s H_3t n_3u=>
guardD v_36 true (fun k_3w=>
bindO (addrV v_3r) fun a_41=>bindO (loadV P H_3t 106 a_41) fun v_42=>
k_3w v_42 (.l 106 a_41) H_3t n_3u) .p H_3t n_3u fun v_3x x_3y H_3z n_40=>
guardD v_36 true (fun k_43=>
k_43 u0 .p H_3z n_40) .p H_3z n_40 fun v_44 x_45 H_46 n_47=>
guardD v_36 true (fun k_49=>
k_49 u12 .p H_46 n_47) .p H_46 n_47 fun v_4a x_4b H_4c n_4d=>
guardD v_36 true (fun k_4f=>
bindO (indexAddrV P 98 v_44 v_4a) fun v_4k=>
k_4f v_4k .p H_4c n_4d) .p H_4c n_4d fun v_4g x_4h H_4i n_4j=>
guardD v_36 true (fun k_4l=>
bindO (addrV v_4g) fun a_4q=>bindO (loadV P H_4i 106 a_4q) fun v_4r=>
k_4l v_4r (.l 106 a_4q) H_4i n_4j) .p H_4i n_4j fun v_4m x_4n H_4o n_4p=>
guardD v_36 true (fun k_4s=>
callVK P cal v_39 [v_3x,v_4m] H_4o n_4p fun v_4x H_4y n_4z=>
k_4s v_4x .e H_4y n_4z) .e H_4o n_4p fun v_4t x_4u H_4v n_4w=>
guardD v_36 true (fun k_50=>
binK P BinOp.lss 3 (Operand.tmp 63) (Operand.const (Value.int IntKind.i64 0)) v_4t (Value.int IntKind.i64 0) fun v_55=>
k_50 v_55 .p H_4v n_4w) .p H_4v n_4w fun v_51 x_52 H_53 n_54=>
bindO (pickV v_36 v_51 (Value.bool false)) fun v_56=>
ifK v_56 (
binK P BinOp.sub 3 (Operand.tmp 66) (Operand.const (Value.int IntKind.i64 1)) u12 (Value.int IntKind.i64 1) fun v_58=>
b3 u0 u1 u4 u11 v_58 H_53 n_54) (
binK P BinOp.gtr 3 (Operand.tmp 68) (Operand.tmp 69) u11 u12 fun v_5c=>
ifK v_5c (
some (u11,H_53,n_54)) (
bindO (indexAddrV P 98 u0 u12) fun v_5l=>
bindO (addrV v_5l) fun a_5m=>bindO (loadV P H_53 106 a_5m) fun v_5n=>
bindO (indexAddrV P 98 u0 u11) fun v_5q=>
bindO (addrV v_5q) fun a_5r=>bindO (loadV P H_53 106 a_5r) fun v_5s=>
bindO (indexAddrV P 98 u0 u11) fun v_5t=>
bindO (storeP P 106 v_5t v_5n H_53) fun H_5v=>
bindO (indexAddrV P 98 u0 u12) fun v_5w=>
bindO (storeP P 106 v_5w v_5s H_5v) fun H_5y=>
binK P BinOp.add 3 (Operand.tmp 85) (Operand.const (Value.int IntKind.i64 1)) u11 (Value.int IntKind.i64 1) fun v_60=>
binK P BinOp.sub 3 (Operand.tmp 87) (Operand.const (Value.int IntKind.i64 1)) u12 (Value.int IntKind.i64 1) fun v_63=>
b1 u0 u1 u4 v_60 v_63 H_5y n_54))
noncomputable def C136_3 (m1 m2:Nat):=B136_3 cal k m1 m2
noncomputable def S136_3 (m1:Nat) (b1:V5):Nat→V5:=fun m=>Nat.rec (motive:=fun _=>V5) (C136_3 cal k m1 0 b1 (fun _ _ _ _ _ _ _=>none)) (fun m ih=>C136_3 cal k m1 (m+1) b1 ih) m
theorem h136_3 (m1 m2:Nat):T136_3 cal k m1 m2=C136_3 cal k m1 m2 (R136_1 cal k m1) (R136_3 cal k m1 m2):=by kernel_rfl
theorem q136_3 (m1:Nat) (m:Nat):T136_3 cal k m1 m=S136_3 cal k m1 (R136_1 cal k m1) m:=recS (h136_3 cal k m1) (by kernel_rfl) (fun m=>by kernel_rfl) m
noncomputable def B136_2 (cal:Cal) (k m1 m2:Nat) (j3:V5) (b1:V5) (b2:V5) (u0 u1 u4 u11 u12:Value) (H:Hp) (n:Nat):Res:=
binK P BinOp.leq 3 (Operand.tmp 31) (Operand.tmp 32) u11 u12 fun v_u=>
guardD v_u true (fun k_w=>
k_w u4 .p H n) .p H n fun v_x x_y H_z n_10=>
guardD v_u true (fun k_12=>
k_12 u0 .p H_z n_10) .p H_z n_10 fun v_13 x_14 H_15 n_16=>
guardD v_u true (fun k_18=>
k_18 u1 .p H_15 n_16) .p H_15 n_16 fun v_19 x_1a H_1b n_1c=>
guardD v_u true (fun k_1e=>
bindO (indexAddrV P 98 v_13 v_19) fun v_1j=>
k_1e v_1j .p H_1b n_1c) .p H_1b n_1c fun v_1f x_1g H_1h n_1i=>
guardD v_u true (fun k_1k=>
bindO (addrV v_1f) fun a_1p=>bindO (loadV P H_1h 106 a_1p) fun v_1q=>
k_1k v_1q (.l 106 a_1p) H_1h n_1i) .p H_1h n_1i fun v_1l x_1m H_1n n_1o=>
guardD v_u true (fun k_1r=>
k_1r u0 .p H_1n n_1o) .p H_1n n_1o fun v_1s x_1t H_1u n_1v=>
guardD v_u true (fun k_1x=>
k_1x u11 .p H_1u n_1v) .p H_1u n_1v fun v_1y x_1z H_20 n_21=>
guardD v_u true (fun k_23=>
bindO (indexAddrV P 98 v_1s v_1y) fun v_28=>
k_23 v_28 .p H_20 n_21) .p H_20 n_21 fun v_24 x_25 H_26 n_27=>
guardD v_u true (fun k_29=>
bindO (addrV v_24) fun a_2e=>bindO (loadV P H_26 106 a_2e) fun v_2f=>
k_29 v_2f (.l 106 a_2e) H_26 n_27) .p H_26 n_27 fun v_2a x_2b H_2c n_2d=>
guardD v_u true (fun k_2g=>
callVK P cal v_x [v_1l,v_2a] H_2c n_2d fun v_2l H_2m n_2n=>
k_2g v_2l .e H_2m n_2n) .e H_2c n_2d fun v_2h x_2i H_2j n_2k=>
guardD v_u true (fun k_2o=>
binK P BinOp.lss 3 (Operand.tmp 44) (Operand.const (Value.int IntKind.i64 0)) v_2h (Value.int IntKind.i64 0) fun v_2t=>
k_2o v_2t .p H_2j n_2k) .p H_2j n_2k fun v_2p x_2q H_2r n_2s=>
guardD v_u true (fun k_2u=>
bindO (pureSem P v_2p (Op.unary UnOp.not v_2p)) fun v_2z=>
k_2u v_2z .p H_2r n_2s) .p H_2r n_2s fun v_2v x_2w H_2x n_2y=>
bindO (pickV v_u v_2v (Value.bool false)) fun v_30=>
ifK v_30 (
binK P BinOp.add 3 (Operand.tmp 48) (Operand.const (Value.int IntKind.i64 1)) u11 (Value.int IntKind.i64 1) fun v_32=>
b2 u0 u1 u4 v_32 u12 H_2x n_2y) (
j3 u0 u1 u4 u11 u12 H_2x n_2y)
noncomputable def C136_2 (m1 m2:Nat) (b1:V5):=B136_2 cal k m1 m2 (S136_3 cal k m1 b1 m1) b1
noncomputable def S136_2 (m1:Nat) (b1:V5):Nat→V5:=fun m=>Nat.rec (motive:=fun _=>V5) (C136_2 cal k m1 0 b1 (fun _ _ _ _ _ _ _=>none)) (fun m ih=>C136_2 cal k m1 (m+1) b1 ih) m
theorem h136_2 (m1 m2:Nat):T136_2 cal k m1 m2=C136_2 cal k m1 m2 (R136_1 cal k m1) (R136_2 cal k m1 m2):=Eq.trans (b:=B136_2 cal k m1 m2 (T136_3 cal k m1 m1) (R136_1 cal k m1) (R136_2 cal k m1 m2)) (by kernel_rfl) (by rw[q136_3]; rfl)
theorem q136_2 (m1:Nat) (m:Nat):T136_2 cal k m1 m=S136_2 cal k m1 (R136_1 cal k m1) m:=recS (h136_2 cal k m1) (by kernel_rfl) (fun m=>by kernel_rfl) m
noncomputable def B136_1 (cal:Cal) (k m1:Nat) (j2:V5) (b1:V5) (u0 u1 u4 u11 u12:Value) (H:Hp) (n:Nat):Res:=
j2 u0 u1 u4 u11 u12 H n
noncomputable def C136_1 (m1:Nat) (b1:V5):=B136_1 cal k m1 (S136_2 cal k m1 b1 m1) b1
noncomputable def S136_1:Nat→V5:=recF (C136_1 cal k) (fun _ _ _ _ _ _ _=>none)
theorem h136_1 (m1:Nat):T136_1 cal k m1=C136_1 cal k m1 (R136_1 cal k m1):=Eq.trans (b:=B136_1 cal k m1 (T136_2 cal k m1 m1) (R136_1 cal k m1)) (by funext u0 u1 u4 u11 u12 H n; kernel_rfl) (by rw[q136_2]; rfl)
theorem q136_1 (m:Nat):T136_1 cal k m=S136_1 cal k m:=recS (h136_1 cal k) (by kernel_rfl) (fun m=>by kernel_rfl) m
noncomputable def B136_0 (cal:Cal) (k:Nat) (j1:V5) (v0 v1 v2 v3 v4:Value) (H:Hp) (n:Nat):Res:=
bindO (indexAddrV P 98 v0 v3) fun v_8=>
bindO (addrV v_8) fun a_9=>bindO (loadV P H 106 a_9) fun v_a=>
bindO (indexAddrV P 98 v0 v1) fun v_d=>
bindO (addrV v_d) fun a_e=>bindO (loadV P H 106 a_e) fun v_f=>
bindO (indexAddrV P 98 v0 v1) fun v_g=>
bindO (storeP P 106 v_g v_a H) fun H_i=>
bindO (indexAddrV P 98 v0 v3) fun v_j=>
bindO (storeP P 106 v_j v_f H_i) fun H_l=>
binK P BinOp.add 3 (Operand.tmp 27) (Operand.const (Value.int IntKind.i64 1)) v1 (Value.int IntKind.i64 1) fun v_n=>
binK P BinOp.sub 3 (Operand.tmp 29) (Operand.const (Value.int IntKind.i64 1)) v2 (Value.int IntKind.i64 1) fun v_p=>
j1 v0 v1 v4 v_n v_p H_l n
noncomputable def C136_0:=B136_0 cal k (S136_1 cal k k)
theorem h136_0 (v0 v1 v2 v3 v4:Value) (H:Hp) (n:Nat):bodyE P cal A (k+1) 136 [v0,v1,v2,v3,v4] H n=C136_0 cal k v0 v1 v2 v3 v4 H n:=(bq Go.Proofs.Tryz.f136 code136 results136 (by kernel_rfl)).trans (Eq.trans (b:=B136_0 cal k (T136_1 cal k k) v0 v1 v2 v3 v4 H n) (by kernel_rfl) (by rw[q136_1]; rfl))
end Go.Proofs.YtnnkcjolgbpklaaGreat.G
end
end
section
open Go Go.Ev
set_option maxRecDepth 1000000
noncomputable section
namespace Go.Proofs.YtnnkcjolgbpklaaGreat.G
variable (cal:Cal) (k:Nat)
noncomputable def code137:Code:=codeOf 137
noncomputable def results137:List ResultVar:=resOf 137
noncomputable def K137_prrr:KR:=(cutK (Lv.b (Lv.b (Lv.b (A 137)))).c (codeE P cal (codeF P cal k) none 137 (cR (cR (cR (cR code137)))) (Lv.b (Lv.b (Lv.b (Lv.b (A 137))))) (doneK P results137) X0 (doneK P results137)))
noncomputable def K137_pxrrrl:XR:=(upX 0 (K137_prrr cal k) X0)
noncomputable def K137_prrrll (m1:Nat):KR:=(fun T H n D=>codeF P cal m1 (Lv.a (Lv.a (Lv.b (Lv.b (Lv.b (A 137)))))) none 137 (cL (cL (cR (cR (cR code137))))) (K137_prrr cal k) (K137_pxrrrl cal k) (doneK P results137) (cutT (Lv.a (Lv.a (Lv.b (Lv.b (Lv.b (A 137)))))).c T) H n D)
noncomputable def K137_prrrr:KR:=(cutK (Lv.b (Lv.b (Lv.b (Lv.b (A 137))))).c (codeE P cal (codeF P cal k) none 137 (cR (cR (cR (cR (cR code137))))) (Lv.b (Lv.b (Lv.b (Lv.b (Lv.b (A 137)))))) (doneK P results137) X0 (doneK P results137)))
noncomputable def K137_pxrrrrl:XR:=(upX 2 (K137_prrrr cal k) X0)
noncomputable def K137_prrrrll (m1:Nat):KR:=(fun T H n D=>codeF P cal m1 (Lv.a (Lv.a (Lv.b (Lv.b (Lv.b (Lv.b (A 137))))))) none 137 (cL (cL (cR (cR (cR (cR code137)))))) (K137_prrrr cal k) (K137_pxrrrrl cal k) (doneK P results137) (cutT (Lv.a (Lv.a (Lv.b (Lv.b (Lv.b (Lv.b (A 137))))))).c T) H n D)
noncomputable def K137_prrrrrrrrr:KR:=(cutK (Lv.b (Lv.b (Lv.b (Lv.b (Lv.b (Lv.b (Lv.b (Lv.b (Lv.b (A 137)))))))))).c (codeE P cal (codeF P cal k) none 137 (cR (cR (cR (cR (cR (cR (cR (cR (cR (cR code137)))))))))) (Lv.b (Lv.b (Lv.b (Lv.b (Lv.b (Lv.b (Lv.b (Lv.b (Lv.b (Lv.b (A 137))))))))))) (doneK P results137) X0 (doneK P results137)))
noncomputable def K137_pxrrrrrrrrrl:XR:=(upX 4 (K137_prrrrrrrrr cal k) X0)
noncomputable def K137_prrrrrrrrrll (m1:Nat):KR:=(fun T H n D=>codeF P cal m1 (Lv.a (Lv.a (Lv.b (Lv.b (Lv.b (Lv.b (Lv.b (Lv.b (Lv.b (Lv.b (Lv.b (A 137)))))))))))) none 137 (cL (cL (cR (cR (cR (cR (cR (cR (cR (cR (cR code137))))))))))) (K137_prrrrrrrrr cal k) (K137_pxrrrrrrrrrl cal k) (doneK P results137) (cutT (Lv.a (Lv.a (Lv.b (Lv.b (Lv.b (Lv.b (Lv.b (Lv.b (Lv.b (Lv.b (Lv.b (A 137)))))))))))).c T) H n D)
noncomputable def K137_pxrrrrrrrrrlll (m1:Nat):XR:=(upX 5 (K137_prrrrrrrrrll cal k m1) (K137_pxrrrrrrrrrl cal k))
noncomputable def K137_prrrrrrrrrllll (m1:Nat):KR:=(cutK (Lv.a (Lv.a (Lv.a (Lv.a (Lv.b (Lv.b (Lv.b (Lv.b (Lv.b (Lv.b (Lv.b (Lv.b (Lv.b (A 137)))))))))))))).c (codeE P cal (codeF P cal m1) none 137 (cR (cL (cL (cL (cL (cR (cR (cR (cR (cR (cR (cR (cR (cR code137)))))))))))))) (Lv.b (Lv.a (Lv.a (Lv.a (Lv.a (Lv.b (Lv.b (Lv.b (Lv.b (Lv.b (Lv.b (Lv.b (Lv.b (Lv.b (A 137))))))))))))))) (K137_prrrrrrrrrll cal k m1) (K137_pxrrrrrrrrrlll cal k m1) (doneK P results137)))
noncomputable def K137_pxrrrrrrrrrlllll (m1:Nat):XR:=(upX 6 (K137_prrrrrrrrrllll cal k m1) (K137_pxrrrrrrrrrlll cal k m1))
noncomputable def K137_prrrrrrrrrllllll (m1:Nat) (m2:Nat):KR:=(fun T H n D=>codeF P cal m2 (Lv.a (Lv.a (Lv.a (Lv.a (Lv.a (Lv.a (Lv.b (Lv.b (Lv.b (Lv.b (Lv.b (Lv.b (Lv.b (Lv.b (Lv.b (A 137)))))))))))))))) none 137 (cL (cL (cL (cL (cL (cL (cR (cR (cR (cR (cR (cR (cR (cR (cR code137))))))))))))))) (K137_prrrrrrrrrllll cal k m1) (K137_pxrrrrrrrrrlllll cal k m1) (doneK P results137) (cutT (Lv.a (Lv.a (Lv.a (Lv.a (Lv.a (Lv.a (Lv.b (Lv.b (Lv.b (Lv.b (Lv.b (Lv.b (Lv.b (Lv.b (Lv.b (A 137)))))))))))))))).c T) H n D)
noncomputable def K137_prrrrrrrrrllllr (m1:Nat):KR:=(cutK (Lv.b (Lv.a (Lv.a (Lv.a (Lv.a (Lv.b (Lv.b (Lv.b (Lv.b (Lv.b (Lv.b (Lv.b (Lv.b (Lv.b (A 137))))))))))))))).c (codeE P cal (codeF P cal m1) none 137 (cR (cR (cL (cL (cL (cL (cR (cR (cR (cR (cR (cR (cR (cR (cR code137))))))))))))))) (Lv.b (Lv.b (Lv.a (Lv.a (Lv.a (Lv.a (Lv.b (Lv.b (Lv.b (Lv.b (Lv.b (Lv.b (Lv.b (Lv.b (Lv.b (A 137)))))))))))))))) (K137_prrrrrrrrrll cal k m1) (K137_pxrrrrrrrrrlll cal k m1) (doneK P results137)))
noncomputable def K137_pxrrrrrrrrrllllrl (m1:Nat):XR:=(upX 8 (K137_prrrrrrrrrllllr cal k m1) (K137_pxrrrrrrrrrlll cal k m1))
noncomputable def K137_prrrrrrrrrllllrll (m1:Nat) (m2:Nat):KR:=(fun T H n D=>codeF P cal m2 (Lv.a (Lv.a (Lv.b (Lv.a (Lv.a (Lv.a (Lv.a (Lv.b (Lv.b (Lv.b (Lv.b (Lv.b (Lv.b (Lv.b (Lv.b (Lv.b (A 137))))))))))))))))) none 137 (cL (cL (cR (cL (cL (cL (cL (cR (cR (cR (cR (cR (cR (cR (cR (cR code137)))))))))))))))) (K137_prrrrrrrrrllllr cal k m1) (K137_pxrrrrrrrrrllllrl cal k m1) (doneK P results137) (cutT (Lv.a (Lv.a (Lv.b (Lv.a (Lv.a (Lv.a (Lv.a (Lv.b (Lv.b (Lv.b (Lv.b (Lv.b (Lv.b (Lv.b (Lv.b (Lv.b (A 137))))))))))))))))).c T) H n D)
noncomputable def T137_5 (m1 m2:Nat):=fun(u0 u1 u4 u12 u13:Value) (H:Hp) (n:Nat)=>labK (codeE P cal (codeF P cal m2) none 137 (cL (cL (cL (cR (cL (cL (cL (cL (cR (cR (cR (cR (cR (cR (cR (cR (cR code137))))))))))))))))) (Lv.a (Lv.a (Lv.a (Lv.b (Lv.a (Lv.a (Lv.a (Lv.a (Lv.b (Lv.b (Lv.b (Lv.b (Lv.b (Lv.b (Lv.b (Lv.b (Lv.b (A 137)))))))))))))))))) (K137_prrrrrrrrrllllrll cal k m1 m2) (K137_pxrrrrrrrrrllllrl cal k m1) (doneK P results137)) (Tr.set (Tr.set (Tr.set (Tr.set (Tr.set Tr.nil 13 (some u13)) 12 (some u12)) 4 (some u4)) 1 (some u1)) 0 (some u0)) H n []
noncomputable def R137_5 (m1 m2:Nat):V5:=fun u0 u1 u4 u12 u13 H n=>codeF P cal m2 (Lv.a (Lv.a (Lv.b (Lv.a (Lv.a (Lv.a (Lv.a (Lv.b (Lv.b (Lv.b (Lv.b (Lv.b (Lv.b (Lv.b (Lv.b (Lv.b (A 137))))))))))))))))) none 137 (cL (cL (cR (cL (cL (cL (cL (cR (cR (cR (cR (cR (cR (cR (cR (cR code137)))))))))))))))) (K137_prrrrrrrrrllllr cal k m1) (K137_pxrrrrrrrrrllllrl cal k m1) (doneK P results137) (Tr.set (Tr.set (Tr.set (Tr.set (Tr.set Tr.nil 13 (some u13)) 12 (some u12)) 4 (some u4)) 1 (some u1)) 0 (some u0)) H n []
noncomputable def T137_4 (m1 m2:Nat):=fun(u0 u1 u4 u12 u13:Value) (H:Hp) (n:Nat)=>labK (codeE P cal (codeF P cal m2) none 137 (cL (cL (cL (cL (cL (cL (cL (cR (cR (cR (cR (cR (cR (cR (cR (cR code137)))))))))))))))) (Lv.a (Lv.a (Lv.a (Lv.a (Lv.a (Lv.a (Lv.a (Lv.b (Lv.b (Lv.b (Lv.b (Lv.b (Lv.b (Lv.b (Lv.b (Lv.b (A 137))))))))))))))))) (K137_prrrrrrrrrllllll cal k m1 m2) (K137_pxrrrrrrrrrlllll cal k m1) (doneK P results137)) (Tr.set (Tr.set (Tr.set (Tr.set (Tr.set Tr.nil 13 (some u13)) 12 (some u12)) 4 (some u4)) 1 (some u1)) 0 (some u0)) H n []
noncomputable def R137_4 (m1 m2:Nat):V5:=fun u0 u1 u4 u12 u13 H n=>codeF P cal m2 (Lv.a (Lv.a (Lv.a (Lv.a (Lv.a (Lv.a (Lv.b (Lv.b (Lv.b (Lv.b (Lv.b (Lv.b (Lv.b (Lv.b (Lv.b (A 137)))))))))))))))) none 137 (cL (cL (cL (cL (cL (cL (cR (cR (cR (cR (cR (cR (cR (cR (cR code137))))))))))))))) (K137_prrrrrrrrrllll cal k m1) (K137_pxrrrrrrrrrlllll cal k m1) (doneK P results137) (Tr.set (Tr.set (Tr.set (Tr.set (Tr.set Tr.nil 13 (some u13)) 12 (some u12)) 4 (some u4)) 1 (some u1)) 0 (some u0)) H n []
noncomputable def T137_3 (m1:Nat):=fun(u0 u1 u4 u12 u13:Value) (H:Hp) (n:Nat)=>labK (codeE P cal (codeF P cal m1) none 137 (cL (cL (cL (cR (cR (cR (cR (cR (cR (cR (cR (cR code137)))))))))))) (Lv.a (Lv.a (Lv.a (Lv.b (Lv.b (Lv.b (Lv.b (Lv.b (Lv.b (Lv.b (Lv.b (Lv.b (A 137))))))))))))) (K137_prrrrrrrrrll cal k m1) (K137_pxrrrrrrrrrl cal k) (doneK P results137)) (Tr.set (Tr.set (Tr.set (Tr.set (Tr.set Tr.nil 13 (some u13)) 12 (some u12)) 4 (some u4)) 1 (some u1)) 0 (some u0)) H n []
noncomputable def R137_3 (m1:Nat):V5:=fun u0 u1 u4 u12 u13 H n=>codeF P cal m1 (Lv.a (Lv.a (Lv.b (Lv.b (Lv.b (Lv.b (Lv.b (Lv.b (Lv.b (Lv.b (Lv.b (A 137)))))))))))) none 137 (cL (cL (cR (cR (cR (cR (cR (cR (cR (cR (cR code137))))))))))) (K137_prrrrrrrrr cal k) (K137_pxrrrrrrrrrl cal k) (doneK P results137) (Tr.set (Tr.set (Tr.set (Tr.set (Tr.set Tr.nil 13 (some u13)) 12 (some u12)) 4 (some u4)) 1 (some u1)) 0 (some u0)) H n []
noncomputable def T137_2 (m1:Nat):=fun(u0 u1 u4 u12 u13:Value) (H:Hp) (n:Nat)=>labK (codeE P cal (codeF P cal m1) none 137 (cL (cL (cL (cR (cR (cR (cR code137))))))) (Lv.a (Lv.a (Lv.a (Lv.b (Lv.b (Lv.b (Lv.b (A 137)))))))) (K137_prrrrll cal k m1) (K137_pxrrrrl cal k) (doneK P results137)) (Tr.set (Tr.set (Tr.set (Tr.set (Tr.set Tr.nil 13 (some u13)) 12 (some u12)) 4 (some u4)) 1 (some u1)) 0 (some u0)) H n []
noncomputable def R137_2 (m1:Nat):V5:=fun u0 u1 u4 u12 u13 H n=>codeF P cal m1 (Lv.a (Lv.a (Lv.b (Lv.b (Lv.b (Lv.b (A 137))))))) none 137 (cL (cL (cR (cR (cR (cR code137)))))) (K137_prrrr cal k) (K137_pxrrrrl cal k) (doneK P results137) (Tr.set (Tr.set (Tr.set (Tr.set (Tr.set Tr.nil 13 (some u13)) 12 (some u12)) 4 (some u4)) 1 (some u1)) 0 (some u0)) H n []
noncomputable def T137_1 (m1:Nat):=fun(u0 u1 u4 u12 u13:Value) (H:Hp) (n:Nat)=>labK (codeE P cal (codeF P cal m1) none 137 (cL (cL (cL (cR (cR (cR code137)))))) (Lv.a (Lv.a (Lv.a (Lv.b (Lv.b (Lv.b (A 137))))))) (K137_prrrll cal k m1) (K137_pxrrrl cal k) (doneK P results137)) (Tr.set (Tr.set (Tr.set (Tr.set (Tr.set Tr.nil 13 (some u13)) 12 (some u12)) 4 (some u4)) 1 (some u1)) 0 (some u0)) H n []
noncomputable def R137_1 (m1:Nat):V5:=fun u0 u1 u4 u12 u13 H n=>codeF P cal m1 (Lv.a (Lv.a (Lv.b (Lv.b (Lv.b (A 137)))))) none 137 (cL (cL (cR (cR (cR code137))))) (K137_prrr cal k) (K137_pxrrrl cal k) (doneK P results137) (Tr.set (Tr.set (Tr.set (Tr.set (Tr.set Tr.nil 13 (some u13)) 12 (some u12)) 4 (some u4)) 1 (some u1)) 0 (some u0)) H n []
noncomputable def B137_5 (cal:Cal) (k m1 m2:Nat) (b3:V5) (b5:V5) (u0 u1 u4 u12 u13:Value) (H:Hp) (n:Nat):Res:=
binK P BinOp.leq 3 (Operand.tmp 123) (Operand.tmp 124) u12 u13 fun v_8z=>
guardD v_8z true (fun k_91=>
k_91 u4 .p H n) .p H n fun v_92 x_93 H_94 n_95=>
guardD v_8z true (fun k_97=>
k_97 u0 .p H_94 n_95) .p H_94 n_95 fun v_98 x_99 H_9a n_9b=>
guardD v_8z true (fun k_9d=>
k_9d u13 .p H_9a n_9b) .p H_9a n_9b fun v_9e x_9f H_9g n_9h=>
guardD v_8z true (fun k_9j=>
bindO (indexAddrV P 98 v_98 v_9e) fun v_9o=>
k_9j v_9o .p H_9g n_9h) .p H_9g n_9h fun v_9k x_9l H_9m n_9n=>
guardD v_8z true (fun k_9p=>
bindO (addrV v_9k) fun a_9u=>bindO (loadV P H_9m 106 a_9u) fun v_9v=>
k_9p v_9v (.l 106 a_9u) H_9m n_9n) .p H_9m n_9n fun v_9q x_9r H_9s n_9t=>
guardD v_8z true (fun k_9w=>
k_9w u0 .p H_9s n_9t) .p H_9s n_9t fun v_9x x_9y H_9z n_a0=>
guardD v_8z true (fun k_a2=>
k_a2 u1 .p H_9z n_a0) .p H_9z n_a0 fun v_a3 x_a4 H_a5 n_a6=>
guardD v_8z true (fun k_a8=>
bindO (indexAddrV P 98 v_9x v_a3) fun v_ad=>
k_a8 v_ad .p H_a5 n_a6) .p H_a5 n_a6 fun v_a9 x_aa H_ab n_ac=>
guardD v_8z true (fun k_ae=>
bindO (addrV v_a9) fun a_aj=>bindO (loadV P H_ab 106 a_aj) fun v_ak=>
k_ae v_ak (.l 106 a_aj) H_ab n_ac) .p H_ab n_ac fun v_af x_ag H_ah n_ai=>
guardD v_8z true (fun k_al=>
callVK P cal v_92 [v_9q,v_af] H_ah n_ai fun v_aq H_ar n_as=>
k_al v_aq .e H_ar n_as) .e H_ah n_ai fun v_am x_an H_ao n_ap=>
guardD v_8z true (fun k_at=>
binK P BinOp.lss 3 (Operand.tmp 136) (Operand.const (Value.int IntKind.i64 0)) v_am (Value.int IntKind.i64 0) fun v_ay=>
k_at v_ay .p H_ao n_ap) .p H_ao n_ap fun v_au x_av H_aw n_ax=>
guardD v_8z true (fun k_az=>
bindO (pureSem P v_au (Op.unary UnOp.not v_au)) fun v_b4=>
k_az v_b4 .p H_aw n_ax) .p H_aw n_ax fun v_b0 x_b1 H_b2 n_b3=>
bindO (pickV v_8z v_b0 (Value.bool false)) fun v_b5=>
ifK v_b5 (
binK P BinOp.sub 3 (Operand.tmp 140) (Operand.const (Value.int IntKind.i64 1)) u13 (Value.int IntKind.i64 1) fun v_b7=>
b5 u0 u1 u4 u12 v_b7 H_b2 n_b3) (
binK P BinOp.gtr 3 (Operand.tmp 142) (Operand.tmp 143) u12 u13 fun v_bb=>
ifK v_bb (
bindO (indexAddrV P 98 u0 u1) fun v_bi=>
bindO (addrV v_bi) fun a_bj=>bindO (loadV P H_b2 106 a_bj) fun v_bk=>
bindO (indexAddrV P 98 u0 u13) fun v_bn=>
bindO (addrV v_bn) fun a_bo=>bindO (loadV P H_b2 106 a_bo) fun v_bp=>
bindO (indexAddrV P 98 u0 u13) fun v_bq=>
bindO (storeP P 106 v_bq v_bk H_b2) fun H_bs=>
bindO (indexAddrV P 98 u0 u1) fun v_bt=>
bindO (storeP P 106 v_bt v_bp H_bs) fun H_bv=>
some ((Value.tuple ⟨[u13,(Value.bool false)]⟩),H_bv,n_b3)) (
bindO (indexAddrV P 98 u0 u13) fun v_c5=>
bindO (addrV v_c5) fun a_c6=>bindO (loadV P H_b2 106 a_c6) fun v_c7=>
bindO (indexAddrV P 98 u0 u12) fun v_ca=>
bindO (addrV v_ca) fun a_cb=>bindO (loadV P H_b2 106 a_cb) fun v_cc=>
bindO (indexAddrV P 98 u0 u12) fun v_cd=>
bindO (storeP P 106 v_cd v_c7 H_b2) fun H_cf=>
bindO (indexAddrV P 98 u0 u13) fun v_cg=>
bindO (storeP P 106 v_cg v_cc H_cf) fun H_ci=>
binK P BinOp.add 3 (Operand.tmp 159) (Operand.const (Value.int IntKind.i64 1)) u12 (Value.int IntKind.i64 1) fun v_ck=>
binK P BinOp.sub 3 (Operand.tmp 161) (Operand.const (Value.int IntKind.i64 1)) u13 (Value.int IntKind.i64 1) fun v_cn=>
b3 u0 u1 u4 v_ck v_cn H_ci n_b3))
noncomputable def C137_5 (m1 m2:Nat):=B137_5 cal k m1 m2
noncomputable def S137_5 (m1:Nat) (b3:V5):Nat→V5:=fun m=>Nat.rec (motive:=fun _=>V5) (C137_5 cal k m1 0 b3 (fun _ _ _ _ _ _ _=>none)) (fun m ih=>C137_5 cal k m1 (m+1) b3 ih) m
theorem h137_5 (m1 m2:Nat):T137_5 cal k m1 m2=C137_5 cal k m1 m2 (R137_3 cal k m1) (R137_5 cal k m1 m2):=by kernel_rfl
theorem q137_5 (m1:Nat) (m:Nat):T137_5 cal k m1 m=S137_5 cal k m1 (R137_3 cal k m1) m:=recS (h137_5 cal k m1) (by kernel_rfl) (fun m=>by kernel_rfl) m
noncomputable def B137_4 (cal:Cal) (k m1 m2:Nat) (j5:V5) (b3:V5) (b4:V5) (u0 u1 u4 u12 u13:Value) (H:Hp) (n:Nat):Res:=
binK P BinOp.leq 3 (Operand.tmp 105) (Operand.tmp 106) u12 u13 fun v_6t=>
guardD v_6t true (fun k_6v=>
k_6v u4 .p H n) .p H n fun v_6w x_6x H_6y n_6z=>
guardD v_6t true (fun k_71=>
k_71 u0 .p H_6y n_6z) .p H_6y n_6z fun v_72 x_73 H_74 n_75=>
guardD v_6t true (fun k_77=>
k_77 u12 .p H_74 n_75) .p H_74 n_75 fun v_78 x_79 H_7a n_7b=>
guardD v_6t true (fun k_7d=>
bindO (indexAddrV P 98 v_72 v_78) fun v_7i=>
k_7d v_7i .p H_7a n_7b) .p H_7a n_7b fun v_7e x_7f H_7g n_7h=>
guardD v_6t true (fun k_7j=>
bindO (addrV v_7e) fun a_7o=>bindO (loadV P H_7g 106 a_7o) fun v_7p=>
k_7j v_7p (.l 106 a_7o) H_7g n_7h) .p H_7g n_7h fun v_7k x_7l H_7m n_7n=>
guardD v_6t true (fun k_7q=>
k_7q u0 .p H_7m n_7n) .p H_7m n_7n fun v_7r x_7s H_7t n_7u=>
guardD v_6t true (fun k_7w=>
k_7w u1 .p H_7t n_7u) .p H_7t n_7u fun v_7x x_7y H_7z n_80=>
guardD v_6t true (fun k_82=>
bindO (indexAddrV P 98 v_7r v_7x) fun v_87=>
k_82 v_87 .p H_7z n_80) .p H_7z n_80 fun v_83 x_84 H_85 n_86=>
guardD v_6t true (fun k_88=>
bindO (addrV v_83) fun a_8d=>bindO (loadV P H_85 106 a_8d) fun v_8e=>
k_88 v_8e (.l 106 a_8d) H_85 n_86) .p H_85 n_86 fun v_89 x_8a H_8b n_8c=>
guardD v_6t true (fun k_8f=>
callVK P cal v_6w [v_7k,v_89] H_8b n_8c fun v_8k H_8l n_8m=>
k_8f v_8k .e H_8l n_8m) .e H_8b n_8c fun v_8g x_8h H_8i n_8j=>
guardD v_6t true (fun k_8n=>
binK P BinOp.lss 3 (Operand.tmp 118) (Operand.const (Value.int IntKind.i64 0)) v_8g (Value.int IntKind.i64 0) fun v_8s=>
k_8n v_8s .p H_8i n_8j) .p H_8i n_8j fun v_8o x_8p H_8q n_8r=>
bindO (pickV v_6t v_8o (Value.bool false)) fun v_8t=>
ifK v_8t (
binK P BinOp.add 3 (Operand.tmp 121) (Operand.const (Value.int IntKind.i64 1)) u12 (Value.int IntKind.i64 1) fun v_8v=>
b4 u0 u1 u4 v_8v u13 H_8q n_8r) (
j5 u0 u1 u4 u12 u13 H_8q n_8r)
noncomputable def C137_4 (m1 m2:Nat) (b3:V5):=B137_4 cal k m1 m2 (S137_5 cal k m1 b3 m1) b3
noncomputable def S137_4 (m1:Nat) (b3:V5):Nat→V5:=fun m=>Nat.rec (motive:=fun _=>V5) (C137_4 cal k m1 0 b3 (fun _ _ _ _ _ _ _=>none)) (fun m ih=>C137_4 cal k m1 (m+1) b3 ih) m
theorem h137_4 (m1 m2:Nat):T137_4 cal k m1 m2=C137_4 cal k m1 m2 (R137_3 cal k m1) (R137_4 cal k m1 m2):=Eq.trans (b:=B137_4 cal k m1 m2 (T137_5 cal k m1 m1) (R137_3 cal k m1) (R137_4 cal k m1 m2)) (by kernel_rfl) (by rw[q137_5]; rfl)
theorem q137_4 (m1:Nat) (m:Nat):T137_4 cal k m1 m=S137_4 cal k m1 (R137_3 cal k m1) m:=recS (h137_4 cal k m1) (by kernel_rfl) (fun m=>by kernel_rfl) m
noncomputable def B137_3 (cal:Cal) (k m1:Nat) (j4:V5) (b3:V5) (u0 u1 u4 u12 u13:Value) (H:Hp) (n:Nat):Res:=
j4 u0 u1 u4 u12 u13 H n
noncomputable def C137_3 (m1:Nat) (b3:V5):=B137_3 cal k m1 (S137_4 cal k m1 b3 m1) b3
noncomputable def S137_3:Nat→V5:=recF (C137_3 cal k) (fun _ _ _ _ _ _ _=>none)
theorem h137_3 (m1:Nat):T137_3 cal k m1=C137_3 cal k m1 (R137_3 cal k m1):=Eq.trans (b:=B137_3 cal k m1 (T137_4 cal k m1 m1) (R137_3 cal k m1)) (by funext u0 u1 u4 u12 u13 H n; kernel_rfl) (by rw[q137_4]; rfl)
theorem q137_3 (m:Nat):T137_3 cal k m=S137_3 cal k m:=recS (h137_3 cal k) (by kernel_rfl) (fun m=>by kernel_rfl) m
noncomputable def B137_2 (cal:Cal) (k m1:Nat) (j3:V5) (b2:V5) (u0 u1 u4 u12 u13:Value) (H:Hp) (n:Nat):Res:=
binK P BinOp.leq 3 (Operand.tmp 50) (Operand.tmp 51) u12 u13 fun v_31=>
guardD v_31 true (fun k_33=>
k_33 u4 .p H n) .p H n fun v_34 x_35 H_36 n_37=>
guardD v_31 true (fun k_39=>
k_39 u0 .p H_36 n_37) .p H_36 n_37 fun v_3a x_3b H_3c n_3d=>
guardD v_31 true (fun k_3f=>
k_3f u13 .p H_3c n_3d) .p H_3c n_3d fun v_3g x_3h H_3i n_3j=>
guardD v_31 true (fun k_3l=>
bindO (indexAddrV P 98 v_3a v_3g) fun v_3q=>
k_3l v_3q .p H_3i n_3j) .p H_3i n_3j fun v_3m x_3n H_3o n_3p=>
guardD v_31 true (fun k_3r=>
bindO (addrV v_3m) fun a_3w=>bindO (loadV P H_3o 106 a_3w) fun v_3x=>
k_3r v_3x (.l 106 a_3w) H_3o n_3p) .p H_3o n_3p fun v_3s x_3t H_3u n_3v=>
guardD v_31 true (fun k_3y=>
k_3y u0 .p H_3u n_3v) .p H_3u n_3v fun v_3z x_40 H_41 n_42=>
guardD v_31 true (fun k_44=>
k_44 u1 .p H_41 n_42) .p H_41 n_42 fun v_45 x_46 H_47 n_48=>
guardD v_31 true (fun k_4a=>
bindO (indexAddrV P 98 v_3z v_45) fun v_4f=>
k_4a v_4f .p H_47 n_48) .p H_47 n_48 fun v_4b x_4c H_4d n_4e=>
guardD v_31 true (fun k_4g=>
bindO (addrV v_4b) fun a_4l=>bindO (loadV P H_4d 106 a_4l) fun v_4m=>
k_4g v_4m (.l 106 a_4l) H_4d n_4e) .p H_4d n_4e fun v_4h x_4i H_4j n_4k=>
guardD v_31 true (fun k_4n=>
callVK P cal v_34 [v_3s,v_4h] H_4j n_4k fun v_4s H_4t n_4u=>
k_4n v_4s .e H_4t n_4u) .e H_4j n_4k fun v_4o x_4p H_4q n_4r=>
guardD v_31 true (fun k_4v=>
binK P BinOp.lss 3 (Operand.tmp 63) (Operand.const (Value.int IntKind.i64 0)) v_4o (Value.int IntKind.i64 0) fun v_50=>
k_4v v_50 .p H_4q n_4r) .p H_4q n_4r fun v_4w x_4x H_4y n_4z=>
guardD v_31 true (fun k_51=>
bindO (pureSem P v_4w (Op.unary UnOp.not v_4w)) fun v_56=>
k_51 v_56 .p H_4y n_4z) .p H_4y n_4z fun v_52 x_53 H_54 n_55=>
bindO (pickV v_31 v_52 (Value.bool false)) fun v_57=>
ifK v_57 (
binK P BinOp.sub 3 (Operand.tmp 67) (Operand.const (Value.int IntKind.i64 1)) u13 (Value.int IntKind.i64 1) fun v_59=>
b2 u0 u1 u4 u12 v_59 H_54 n_55) (
binK P BinOp.gtr 3 (Operand.tmp 69) (Operand.tmp 70) u12 u13 fun v_5d=>
ifK v_5d (
bindO (indexAddrV P 98 u0 u1) fun v_5k=>
bindO (addrV v_5k) fun a_5l=>bindO (loadV P H_54 106 a_5l) fun v_5m=>
bindO (indexAddrV P 98 u0 u13) fun v_5p=>
bindO (addrV v_5p) fun a_5q=>bindO (loadV P H_54 106 a_5q) fun v_5r=>
bindO (indexAddrV P 98 u0 u13) fun v_5s=>
bindO (storeP P 106 v_5s v_5m H_54) fun H_5u=>
bindO (indexAddrV P 98 u0 u1) fun v_5v=>
bindO (storeP P 106 v_5v v_5r H_5u) fun H_5x=>
some ((Value.tuple ⟨[u13,(Value.bool true)]⟩),H_5x,n_55)) (
bindO (indexAddrV P 98 u0 u13) fun v_67=>
bindO (addrV v_67) fun a_68=>bindO (loadV P H_54 106 a_68) fun v_69=>
bindO (indexAddrV P 98 u0 u12) fun v_6c=>
bindO (addrV v_6c) fun a_6d=>bindO (loadV P H_54 106 a_6d) fun v_6e=>
bindO (indexAddrV P 98 u0 u12) fun v_6f=>
bindO (storeP P 106 v_6f v_69 H_54) fun H_6h=>
bindO (indexAddrV P 98 u0 u13) fun v_6i=>
bindO (storeP P 106 v_6i v_6e H_6h) fun H_6k=>
binK P BinOp.add 3 (Operand.tmp 101) (Operand.const (Value.int IntKind.i64 1)) u12 (Value.int IntKind.i64 1) fun v_6m=>
binK P BinOp.sub 3 (Operand.tmp 103) (Operand.const (Value.int IntKind.i64 1)) u13 (Value.int IntKind.i64 1) fun v_6p=>
j3 u0 u1 u4 v_6m v_6p H_6k n_55))
noncomputable def C137_2 (m1:Nat):=B137_2 cal k m1 (S137_3 cal k k)
noncomputable def S137_2:Nat→V5:=recF (C137_2 cal k) (fun _ _ _ _ _ _ _=>none)
theorem h137_2 (m1:Nat):T137_2 cal k m1=C137_2 cal k m1 (R137_2 cal k m1):=Eq.trans (b:=B137_2 cal k m1 (T137_3 cal k k) (R137_2 cal k m1)) (by kernel_rfl) (by rw[q137_3]; rfl)
theorem q137_2 (m:Nat):T137_2 cal k m=S137_2 cal k m:=recS (h137_2 cal k) (by kernel_rfl) (fun m=>by kernel_rfl) m
noncomputable def B137_1 (cal:Cal) (k m1:Nat) (j2:V5) (b1:V5) (u0 u1 u4 u12 u13:Value) (H:Hp) (n:Nat):Res:=
binK P BinOp.leq 3 (Operand.tmp 32) (Operand.tmp 33) u12 u13 fun v_v=>
guardD v_v true (fun k_x=>
k_x u4 .p H n) .p H n fun v_y x_z H_10 n_11=>
guardD v_v true (fun k_13=>
k_13 u0 .p H_10 n_11) .p H_10 n_11 fun v_14 x_15 H_16 n_17=>
guardD v_v true (fun k_19=>
k_19 u12 .p H_16 n_17) .p H_16 n_17 fun v_1a x_1b H_1c n_1d=>
guardD v_v true (fun k_1f=>
bindO (indexAddrV P 98 v_14 v_1a) fun v_1k=>
k_1f v_1k .p H_1c n_1d) .p H_1c n_1d fun v_1g x_1h H_1i n_1j=>
guardD v_v true (fun k_1l=>
bindO (addrV v_1g) fun a_1q=>bindO (loadV P H_1i 106 a_1q) fun v_1r=>
k_1l v_1r (.l 106 a_1q) H_1i n_1j) .p H_1i n_1j fun v_1m x_1n H_1o n_1p=>
guardD v_v true (fun k_1s=>
k_1s u0 .p H_1o n_1p) .p H_1o n_1p fun v_1t x_1u H_1v n_1w=>
guardD v_v true (fun k_1y=>
k_1y u1 .p H_1v n_1w) .p H_1v n_1w fun v_1z x_20 H_21 n_22=>
guardD v_v true (fun k_24=>
bindO (indexAddrV P 98 v_1t v_1z) fun v_29=>
k_24 v_29 .p H_21 n_22) .p H_21 n_22 fun v_25 x_26 H_27 n_28=>
guardD v_v true (fun k_2a=>
bindO (addrV v_25) fun a_2f=>bindO (loadV P H_27 106 a_2f) fun v_2g=>
k_2a v_2g (.l 106 a_2f) H_27 n_28) .p H_27 n_28 fun v_2b x_2c H_2d n_2e=>
guardD v_v true (fun k_2h=>
callVK P cal v_y [v_1m,v_2b] H_2d n_2e fun v_2m H_2n n_2o=>
k_2h v_2m .e H_2n n_2o) .e H_2d n_2e fun v_2i x_2j H_2k n_2l=>
guardD v_v true (fun k_2p=>
binK P BinOp.lss 3 (Operand.tmp 45) (Operand.const (Value.int IntKind.i64 0)) v_2i (Value.int IntKind.i64 0) fun v_2u=>
k_2p v_2u .p H_2k n_2l) .p H_2k n_2l fun v_2q x_2r H_2s n_2t=>
bindO (pickV v_v v_2q (Value.bool false)) fun v_2v=>
ifK v_2v (
binK P BinOp.add 3 (Operand.tmp 48) (Operand.const (Value.int IntKind.i64 1)) u12 (Value.int IntKind.i64 1) fun v_2x=>
b1 u0 u1 u4 v_2x u13 H_2s n_2t) (
j2 u0 u1 u4 u12 u13 H_2s n_2t)
noncomputable def C137_1 (m1:Nat):=B137_1 cal k m1 (S137_2 cal k k)
noncomputable def S137_1:Nat→V5:=recF (C137_1 cal k) (fun _ _ _ _ _ _ _=>none)
theorem h137_1 (m1:Nat):T137_1 cal k m1=C137_1 cal k m1 (R137_1 cal k m1):=Eq.trans (b:=B137_1 cal k m1 (T137_2 cal k k) (R137_1 cal k m1)) (by kernel_rfl) (by rw[q137_2]; rfl)
theorem q137_1 (m:Nat):T137_1 cal k m=S137_1 cal k m:=recS (h137_1 cal k) (by kernel_rfl) (fun m=>by kernel_rfl) m
noncomputable def B137_0 (cal:Cal) (k:Nat) (j1:V5) (v0 v1 v2 v3 v4:Value) (H:Hp) (n:Nat):Res:=
bindO (indexAddrV P 98 v0 v3) fun v_9=>
bindO (addrV v_9) fun a_a=>bindO (loadV P H 106 a_a) fun v_b=>
bindO (indexAddrV P 98 v0 v1) fun v_e=>
bindO (addrV v_e) fun a_f=>bindO (loadV P H 106 a_f) fun v_g=>
bindO (indexAddrV P 98 v0 v1) fun v_h=>
bindO (storeP P 106 v_h v_b H) fun H_j=>
bindO (indexAddrV P 98 v0 v3) fun v_k=>
bindO (storeP P 106 v_k v_g H_j) fun H_m=>
binK P BinOp.add 3 (Operand.tmp 28) (Operand.const (Value.int IntKind.i64 1)) v1 (Value.int IntKind.i64 1) fun v_o=>
binK P BinOp.sub 3 (Operand.tmp 30) (Operand.const (Value.int IntKind.i64 1)) v2 (Value.int IntKind.i64 1) fun v_q=>
j1 v0 v1 v4 v_o v_q H_m n
noncomputable def C137_0:=B137_0 cal k (S137_1 cal k k)
theorem h137_0 (v0 v1 v2 v3 v4:Value) (H:Hp) (n:Nat):bodyE P cal A (k+1) 137 [v0,v1,v2,v3,v4] H n=C137_0 cal k v0 v1 v2 v3 v4 H n:=(bq Go.Proofs.Tryz.f137 code137 results137 (by kernel_rfl)).trans (Eq.trans (b:=B137_0 cal k (T137_1 cal k k) v0 v1 v2 v3 v4 H n) (by kernel_rfl) (by rw[q137_1]; rfl))
noncomputable def code138:Code:=codeOf 138
noncomputable def results138:List ResultVar:=resOf 138
noncomputable def T138_2:=fun(u0 u2:Value) (H:Hp) (n:Nat)=>labK (codeE P cal (codeF P cal k) none 138 (cR (cR (cR code138))) (Lv.b (Lv.b (Lv.b (A 138)))) (doneK P results138) X0 (doneK P results138)) (Tr.set (Tr.set Tr.nil 2 (some u2)) 0 (some u0)) H n []
noncomputable def T138_1:=fun(u0 u2:Value) (H:Hp) (n:Nat)=>labK (codeE P cal (codeF P cal k) none 138 (cR (cR code138)) (Lv.b (Lv.b (A 138))) (doneK P results138) X0 (doneK P results138)) (Tr.set (Tr.set Tr.nil 2 (some u2)) 0 (some u0)) H n []
noncomputable def B138_2 (cal:Cal) (k:Nat) (u0 u2:Value) (H:Hp) (n:Nat):Res:=
bindO (pureSem P u0 (convert 187 5 u0)) fun v_4=>
bindO (indexV P 9 (Value.string (ByteArray.mk #[0,1,2,2,3,3,3,3,4,4,4,4,4,4,4,4,5,5,5,5,5,5,5,5,5,5,5,5,5,5,5,5,6,6,6,6,6,6,6,6,6,6,6,6,6,6,6,6,6,6,6,6,6,6,6,6,6,6,6,6,6,6,6,6,7,7,7,7,7,7,7,7,7,7,7,7,7,7,7,7,7,7,7,7,7,7,7,7,7,7,7,7,7,7,7,7,7,7,7,7,7,7,7,7,7,7,7,7,7,7,7,7,7,7,7,7,7,7,7,7,7,7,7,7,7,7,7,7,8,8,8,8,8,8,8,8,8,8,8,8,8,8,8,8,8,8,8,8,8,8,8,8,8,8,8,8,8,8,8,8,8,8,8,8,8,8,8,8,8,8,8,8,8,8,8,8,8,8,8,8,8,8,8,8,8,8,8,8,8,8,8,8,8,8,8,8,8,8,8,8,8,8,8,8,8,8,8,8,8,8,8,8,8,8,8,8,8,8,8,8,8,8,8,8,8,8,8,8,8,8,8,8,8,8,8,8,8,8,8,8,8,8,8,8,8,8,8,8,8,8,8,8,8,8,8,8])) v_4) fun v_5=>
bindO (pureSem P v_5 (convert 5 3 v_5)) fun v_6=>
binK P BinOp.add 3 (Operand.tmp 13) (Operand.tmp 17) u2 v_6 fun v_7=>
some (v_7,H,n)
noncomputable def C138_2:=B138_2 cal k
theorem h138_2:T138_2 cal k=C138_2 cal k:=by kernel_rfl
noncomputable def B138_1 (cal:Cal) (k:Nat) (j2:V2) (u0 u2:Value) (H:Hp) (n:Nat):Res:=
binK P BinOp.geq 187 (Operand.tmp 7) (Operand.const (Value.int IntKind.u32 256)) u0 (Value.int IntKind.u32 256) fun v_a=>
ifK v_a (
binK P BinOp.shr 187 (Operand.tmp 9) (Operand.const (Value.int IntKind.u64 8)) u0 (Value.int IntKind.u64 8) fun v_c=>
binK P BinOp.add 3 (Operand.tmp 11) (Operand.const (Value.int IntKind.i64 8)) u2 (Value.int IntKind.i64 8) fun v_f=>
j2 v_c v_f H n) (
j2 u0 u2 H n)
noncomputable def C138_1:=B138_1 cal k (C138_2 cal k)
theorem h138_1:T138_1 cal k=C138_1 cal k:=Eq.trans (b:=B138_1 cal k (T138_2 cal k)) (by kernel_rfl) (by rw[h138_2]; rfl)
noncomputable def B138_0 (cal:Cal) (k:Nat) (j1:V2) (v0:Value) (H:Hp) (n:Nat):Res:=
binK P BinOp.geq 187 (Operand.tmp 3) (Operand.const (Value.int IntKind.u32 65536)) v0 (Value.int IntKind.u32 65536) fun v_i=>
ifK v_i (
binK P BinOp.shr 187 (Operand.tmp 5) (Operand.const (Value.int IntKind.u64 16)) v0 (Value.int IntKind.u64 16) fun v_k=>
j1 v_k (Value.int IntKind.i64 16) H n) (
j1 v0 (Value.int IntKind.i64 0) H n)
noncomputable def C138_0:=B138_0 cal k (C138_1 cal k)
theorem h138_0 (v0:Value) (H:Hp) (n:Nat):bodyE P cal A (k+1) 138 [v0] H n=C138_0 cal k v0 H n:=(bq Go.Proofs.Tryz.f138 code138 results138 (by kernel_rfl)).trans (Eq.trans (b:=B138_0 cal k (T138_1 cal k) v0 H n) (by kernel_rfl) (by rw[h138_1]; rfl))
noncomputable def code139:Code:=codeOf 139
noncomputable def results139:List ResultVar:=resOf 139
noncomputable def T139_3:=fun(u0 u2:Value) (H:Hp) (n:Nat)=>labK (codeE P cal (codeF P cal k) none 139 (cR (cR (cR (cR code139)))) (Lv.b (Lv.b (Lv.b (Lv.b (A 139))))) (doneK P results139) X0 (doneK P results139)) (Tr.set (Tr.set Tr.nil 2 (some u2)) 0 (some u0)) H n []
noncomputable def T139_2:=fun(u0 u2:Value) (H:Hp) (n:Nat)=>labK (codeE P cal (codeF P cal k) none 139 (cR (cR (cR code139))) (Lv.b (Lv.b (Lv.b (A 139)))) (doneK P results139) X0 (doneK P results139)) (Tr.set (Tr.set Tr.nil 2 (some u2)) 0 (some u0)) H n []
noncomputable def T139_1:=fun(u0 u2:Value) (H:Hp) (n:Nat)=>labK (codeE P cal (codeF P cal k) none 139 (cR (cR code139)) (Lv.b (Lv.b (A 139))) (doneK P results139) X0 (doneK P results139)) (Tr.set (Tr.set Tr.nil 2 (some u2)) 0 (some u0)) H n []
noncomputable def B139_3 (cal:Cal) (k:Nat) (u0 u2:Value) (H:Hp) (n:Nat):Res:=
bindO (pureSem P u0 (convert 189 5 u0)) fun v_4=>
bindO (indexV P 9 (Value.string (ByteArray.mk #[0,1,2,2,3,3,3,3,4,4,4,4,4,4,4,4,5,5,5,5,5,5,5,5,5,5,5,5,5,5,5,5,6,6,6,6,6,6,6,6,6,6,6,6,6,6,6,6,6,6,6,6,6,6,6,6,6,6,6,6,6,6,6,6,7,7,7,7,7,7,7,7,7,7,7,7,7,7,7,7,7,7,7,7,7,7,7,7,7,7,7,7,7,7,7,7,7,7,7,7,7,7,7,7,7,7,7,7,7,7,7,7,7,7,7,7,7,7,7,7,7,7,7,7,7,7,7,7,8,8,8,8,8,8,8,8,8,8,8,8,8,8,8,8,8,8,8,8,8,8,8,8,8,8,8,8,8,8,8,8,8,8,8,8,8,8,8,8,8,8,8,8,8,8,8,8,8,8,8,8,8,8,8,8,8,8,8,8,8,8,8,8,8,8,8,8,8,8,8,8,8,8,8,8,8,8,8,8,8,8,8,8,8,8,8,8,8,8,8,8,8,8,8,8,8,8,8,8,8,8,8,8,8,8,8,8,8,8,8,8,8,8,8,8,8,8,8,8,8,8,8,8,8,8,8,8])) v_4) fun v_5=>
bindO (pureSem P v_5 (convert 5 3 v_5)) fun v_6=>
binK P BinOp.add 3 (Operand.tmp 19) (Operand.tmp 23) u2 v_6 fun v_7=>
some (v_7,H,n)
noncomputable def C139_3:=B139_3 cal k
theorem h139_3:T139_3 cal k=C139_3 cal k:=by kernel_rfl
noncomputable def B139_2 (cal:Cal) (k:Nat) (j3:V2) (u0 u2:Value) (H:Hp) (n:Nat):Res:=
binK P BinOp.geq 189 (Operand.tmp 13) (Operand.const (Value.int IntKind.u64 256)) u0 (Value.int IntKind.u64 256) fun v_a=>
ifK v_a (
binK P BinOp.shr 189 (Operand.tmp 15) (Operand.const (Value.int IntKind.u64 8)) u0 (Value.int IntKind.u64 8) fun v_c=>
binK P BinOp.add 3 (Operand.tmp 17) (Operand.const (Value.int IntKind.i64 8)) u2 (Value.int IntKind.i64 8) fun v_f=>
j3 v_c v_f H n) (
j3 u0 u2 H n)
noncomputable def C139_2:=B139_2 cal k (C139_3 cal k)
theorem h139_2:T139_2 cal k=C139_2 cal k:=Eq.trans (b:=B139_2 cal k (T139_3 cal k)) (by kernel_rfl) (by rw[h139_3]; rfl)
noncomputable def B139_1 (cal:Cal) (k:Nat) (j2:V2) (u0 u2:Value) (H:Hp) (n:Nat):Res:=
binK P BinOp.geq 189 (Operand.tmp 7) (Operand.const (Value.int IntKind.u64 65536)) u0 (Value.int IntKind.u64 65536) fun v_i=>
ifK v_i (
binK P BinOp.shr 189 (Operand.tmp 9) (Operand.const (Value.int IntKind.u64 16)) u0 (Value.int IntKind.u64 16) fun v_k=>
binK P BinOp.add 3 (Operand.tmp 11) (Operand.const (Value.int IntKind.i64 16)) u2 (Value.int IntKind.i64 16) fun v_n=>
j2 v_k v_n H n) (
j2 u0 u2 H n)
noncomputable def C139_1:=B139_1 cal k (C139_2 cal k)
theorem h139_1:T139_1 cal k=C139_1 cal k:=Eq.trans (b:=B139_1 cal k (T139_2 cal k)) (by kernel_rfl) (by rw[h139_2]; rfl)
noncomputable def B139_0 (cal:Cal) (k:Nat) (j1:V2) (v0:Value) (H:Hp) (n:Nat):Res:=
binK P BinOp.geq 189 (Operand.tmp 3) (Operand.const (Value.int IntKind.u64 4294967296)) v0 (Value.int IntKind.u64 4294967296) fun v_q=>
ifK v_q (
binK P BinOp.shr 189 (Operand.tmp 5) (Operand.const (Value.int IntKind.u64 32)) v0 (Value.int IntKind.u64 32) fun v_s=>
j1 v_s (Value.int IntKind.i64 32) H n) (
j1 v0 (Value.int IntKind.i64 0) H n)
noncomputable def C139_0:=B139_0 cal k (C139_1 cal k)
theorem h139_0 (v0:Value) (H:Hp) (n:Nat):bodyE P cal A (k+1) 139 [v0] H n=C139_0 cal k v0 H n:=(bq Go.Proofs.Tryz.f139 code139 results139 (by kernel_rfl)).trans (Eq.trans (b:=B139_0 cal k (T139_1 cal k) v0 H n) (by kernel_rfl) (by rw[h139_1]; rfl))
noncomputable def code140:Code:=codeOf 140
noncomputable def results140:List ResultVar:=resOf 140
noncomputable def B140_0 (cal:Cal) (k:Nat) (v0 v1:Value) (H:Hp) (n:Nat):Res:=
callFK P cal 146 [v0] H n fun v_3 H_4 n_5=>
callFK P cal 146 [v1] H_4 n_5 fun v_8 H_9 n_a=>
ifK v_3 (
ifK v_8 (
some ((Value.int IntKind.i64 0),H_9,n_a)) (
some ((Value.int IntKind.i64 (-1)),H_9,n_a))) (
ifK v_8 (
some ((Value.int IntKind.i64 1),H_9,n_a)) (
binK P BinOp.lss 106 (Operand.tmp 14) (Operand.tmp 15) v0 v1 fun v_k=>
ifK v_k (
some ((Value.int IntKind.i64 (-1)),H_9,n_a)) (
binK P BinOp.gtr 106 (Operand.tmp 17) (Operand.tmp 18) v0 v1 fun v_o=>
ifK v_o (
some ((Value.int IntKind.i64 1),H_9,n_a)) (
some ((Value.int IntKind.i64 0),H_9,n_a)))))
noncomputable def C140_0:=B140_0 cal k
theorem h140_0 (v0 v1:Value) (H:Hp) (n:Nat):bodyE P cal A (k+1) 140 [v0,v1] H n=C140_0 cal k v0 v1 H n:=(bq Go.Proofs.Tryz.f140 code140 results140 (by kernel_rfl)).trans (by kernel_rfl)
noncomputable def code141:Code:=codeOf 141
noncomputable def results141:List ResultVar:=resOf 141
noncomputable def K141_pxr (cal:Cal) (k:Nat):XR:=(upX 0 (doneK P results141) X0)
noncomputable def K141_prl (m1:Nat):KR:=(fun T H n D=>codeF P cal m1 (Lv.a (Lv.b (A 141))) none 141 (cL (cR code141)) (doneK P results141) (K141_pxr cal k) (doneK P results141) (cutT (Lv.a (Lv.b (A 141))).c T) H n D)
noncomputable def K141_pxrll (m1:Nat):XR:=(upX 1 (K141_prl cal k m1) (K141_pxr cal k))
noncomputable def T141_2 (m1:Nat):=fun(u0 u2 u3 u4 u10 u11:Value) (H:Hp) (n:Nat)=>labK (codeE P cal (codeF P cal m1) none 141 (cR (cR (cR (cL (cL (cL (cR code141))))))) (Lv.b (Lv.b (Lv.b (Lv.a (Lv.a (Lv.a (Lv.b (A 141)))))))) (K141_prl cal k m1) (K141_pxrll cal k m1) (doneK P results141)) (Tr.set (Tr.set (Tr.set (Tr.set (Tr.set (Tr.set Tr.nil 11 (some u11)) 10 (some u10)) 4 (some u4)) 3 (some u3)) 2 (some u2)) 0 (some u0)) H n []
noncomputable def T141_1 (m1:Nat):=fun(u0 u2 u3 u4 u10:Value) (H:Hp) (n:Nat)=>labK (codeE P cal (codeF P cal m1) none 141 (cL (cL (cR code141))) (Lv.a (Lv.a (Lv.b (A 141)))) (K141_prl cal k m1) (K141_pxr cal k) (doneK P results141)) (Tr.set (Tr.set (Tr.set (Tr.set (Tr.set Tr.nil 10 (some u10)) 4 (some u4)) 3 (some u3)) 2 (some u2)) 0 (some u0)) H n []
noncomputable def R141_1 (m1:Nat):V5:=fun u0 u2 u3 u4 u10 H n=>codeF P cal m1 (Lv.a (Lv.b (A 141))) none 141 (cL (cR code141)) (doneK P results141) (K141_pxr cal k) (doneK P results141) (Tr.set (Tr.set (Tr.set (Tr.set (Tr.set Tr.nil 10 (some u10)) 4 (some u4)) 3 (some u3)) 2 (some u2)) 0 (some u0)) H n []
noncomputable def B141_2 (cal:Cal) (k m1:Nat) (b1:V5) (u0 u2 u3 u4 u10 u11:Value) (H:Hp) (n:Nat):Res:=
binK P BinOp.add 3 (Operand.tmp 45) (Operand.tmp 46) u3 u10 fun v_e=>
bindO (indexAddrV P 98 u0 v_e) fun v_f=>
bindO (addrV v_f) fun a_g=>bindO (loadV P H 106 a_g) fun v_h=>
binK P BinOp.add 3 (Operand.tmp 51) (Operand.tmp 52) u3 u11 fun v_l=>
bindO (indexAddrV P 98 u0 v_l) fun v_m=>
bindO (addrV v_m) fun a_n=>bindO (loadV P H 106 a_n) fun v_o=>
callVK P cal u4 [v_h,v_o] H n fun v_p H_q n_r=>
binK P BinOp.lss 3 (Operand.tmp 56) (Operand.const (Value.int IntKind.i64 0)) v_p (Value.int IntKind.i64 0) fun v_s=>
bindO (pureSem P v_s (Op.unary UnOp.not v_s)) fun v_t=>
ifK v_t (
some ((Value.tuple ⟨[]⟩),H_q,n_r)) (
binK P BinOp.add 3 (Operand.tmp 60) (Operand.tmp 61) u3 u10 fun v_x=>
binK P BinOp.add 3 (Operand.tmp 64) (Operand.tmp 65) u3 u11 fun v_11=>
binK P BinOp.add 3 (Operand.tmp 68) (Operand.tmp 69) u3 u11 fun v_15=>
bindO (indexAddrV P 98 u0 v_15) fun v_16=>
bindO (addrV v_16) fun a_17=>bindO (loadV P H_q 106 a_17) fun v_18=>
binK P BinOp.add 3 (Operand.tmp 74) (Operand.tmp 75) u3 u10 fun v_1c=>
bindO (indexAddrV P 98 u0 v_1c) fun v_1d=>
bindO (addrV v_1d) fun a_1e=>bindO (loadV P H_q 106 a_1e) fun v_1f=>
bindO (indexAddrV P 98 u0 v_x) fun v_1g=>
bindO (storeP P 106 v_1g v_18 H_q) fun H_1i=>
bindO (indexAddrV P 98 u0 v_11) fun v_1j=>
bindO (storeP P 106 v_1j v_1f H_1i) fun H_1l=>
b1 u0 u2 u3 u4 u11 H_1l n_r)
noncomputable def C141_2 (m1:Nat):=B141_2 cal k m1
theorem h141_2 (m1:Nat):T141_2 cal k m1=C141_2 cal k m1 (R141_1 cal k m1):=by kernel_rfl
noncomputable def B141_1 (cal:Cal) (k m1:Nat) (j2:V6) (b1:V5) (u0 u2 u3 u4 u10:Value) (H:Hp) (n:Nat):Res:=
binK P BinOp.mul 3 (Operand.const (Value.int IntKind.i64 2)) (Operand.tmp 13) (Value.int IntKind.i64 2) u10 fun v_4=>
binK P BinOp.add 3 (Operand.tmp 14) (Operand.const (Value.int IntKind.i64 1)) v_4 (Value.int IntKind.i64 1) fun v_5=>
binK P BinOp.geq 3 (Operand.tmp 16) (Operand.tmp 17) v_5 u2 fun v_9=>
ifK v_9 (
some ((Value.tuple ⟨[]⟩),H,n)) (
binK P BinOp.add 3 (Operand.tmp 19) (Operand.const (Value.int IntKind.i64 1)) v_5 (Value.int IntKind.i64 1) fun v_1p=>
binK P BinOp.lss 3 (Operand.tmp 20) (Operand.tmp 21) v_1p u2 fun v_1r=>
guardD v_1r true (fun k_1t=>
k_1t u4 .p H n) .p H n fun v_1u x_1v H_1w n_1x=>
guardD v_1r true (fun k_1z=>
k_1z u0 .p H_1w n_1x) .p H_1w n_1x fun v_20 x_21 H_22 n_23=>
guardD v_1r true (fun k_25=>
k_25 u3 .p H_22 n_23) .p H_22 n_23 fun v_26 x_27 H_28 n_29=>
guardD v_1r true (fun k_2b=>
k_2b v_5 .p H_28 n_29) .p H_28 n_29 fun v_2c x_2d H_2e n_2f=>
guardD v_1r true (fun k_2h=>
binK P BinOp.add 3 (Operand.tmp 26) (Operand.tmp 27) v_26 v_2c fun v_2m=>
k_2h v_2m .p H_2e n_2f) .p H_2e n_2f fun v_2i x_2j H_2k n_2l=>
guardD v_1r true (fun k_2n=>
bindO (indexAddrV P 98 v_20 v_2i) fun v_2s=>
k_2n v_2s .p H_2k n_2l) .p H_2k n_2l fun v_2o x_2p H_2q n_2r=>
guardD v_1r true (fun k_2t=>
bindO (addrV v_2o) fun a_2y=>bindO (loadV P H_2q 106 a_2y) fun v_2z=>
k_2t v_2z (.l 106 a_2y) H_2q n_2r) .p H_2q n_2r fun v_2u x_2v H_2w n_2x=>
guardD v_1r true (fun k_30=>
k_30 u0 .p H_2w n_2x) .p H_2w n_2x fun v_31 x_32 H_33 n_34=>
guardD v_1r true (fun k_36=>
k_36 u3 .p H_33 n_34) .p H_33 n_34 fun v_37 x_38 H_39 n_3a=>
guardD v_1r true (fun k_3c=>
k_3c v_5 .p H_39 n_3a) .p H_39 n_3a fun v_3d x_3e H_3f n_3g=>
guardD v_1r true (fun k_3i=>
binK P BinOp.add 3 (Operand.tmp 32) (Operand.tmp 33) v_37 v_3d fun v_3n=>
k_3i v_3n .p H_3f n_3g) .p H_3f n_3g fun v_3j x_3k H_3l n_3m=>
guardD v_1r true (fun k_3o=>
binK P BinOp.add 3 (Operand.tmp 34) (Operand.const (Value.int IntKind.i64 1)) v_3j (Value.int IntKind.i64 1) fun v_3t=>
k_3o v_3t .p H_3l n_3m) .p H_3l n_3m fun v_3p x_3q H_3r n_3s=>
guardD v_1r true (fun k_3u=>
bindO (indexAddrV P 98 v_31 v_3p) fun v_3z=>
k_3u v_3z .p H_3r n_3s) .p H_3r n_3s fun v_3v x_3w H_3x n_3y=>
guardD v_1r true (fun k_40=>
bindO (addrV v_3v) fun a_45=>bindO (loadV P H_3x 106 a_45) fun v_46=>
k_40 v_46 (.l 106 a_45) H_3x n_3y) .p H_3x n_3y fun v_41 x_42 H_43 n_44=>
guardD v_1r true (fun k_47=>
callVK P cal v_1u [v_2u,v_41] H_43 n_44 fun v_4c H_4d n_4e=>
k_47 v_4c .e H_4d n_4e) .e H_43 n_44 fun v_48 x_49 H_4a n_4b=>
guardD v_1r true (fun k_4f=>
binK P BinOp.lss 3 (Operand.tmp 38) (Operand.const (Value.int IntKind.i64 0)) v_48 (Value.int IntKind.i64 0) fun v_4k=>
k_4f v_4k .p H_4a n_4b) .p H_4a n_4b fun v_4g x_4h H_4i n_4j=>
bindO (pickV v_1r v_4g (Value.bool false)) fun v_4l=>
ifK v_4l (
binK P BinOp.add 3 (Operand.tmp 41) (Operand.const (Value.int IntKind.i64 1)) v_5 (Value.int IntKind.i64 1) fun v_4n=>
j2 u0 u2 u3 u4 u10 v_4n H_4i n_4j) (
j2 u0 u2 u3 u4 u10 v_5 H_4i n_4j))
noncomputable def C141_1 (m1:Nat) (b1:V5):=B141_1 cal k m1 (C141_2 cal k m1 b1) b1
noncomputable def S141_1:Nat→V5:=recF (C141_1 cal k) (fun _ _ _ _ _ _ _=>none)
theorem h141_1 (m1:Nat):T141_1 cal k m1=C141_1 cal k m1 (R141_1 cal k m1):=Eq.trans (b:=B141_1 cal k m1 (T141_2 cal k m1) (R141_1 cal k m1)) (by kernel_rfl) (by rw[h141_2]; rfl)
theorem q141_1 (m:Nat):T141_1 cal k m=S141_1 cal k m:=recS (h141_1 cal k) (by kernel_rfl) (fun m=>by kernel_rfl) m
noncomputable def B141_0 (cal:Cal) (k:Nat) (j1:V5) (v0 v1 v2 v3 v4:Value) (H:Hp) (n:Nat):Res:=
j1 v0 v2 v3 v4 v1 H n
noncomputable def C141_0:=B141_0 cal k (S141_1 cal k k)
theorem h141_0 (v0 v1 v2 v3 v4:Value) (H:Hp) (n:Nat):bodyE P cal A (k+1) 141 [v0,v1,v2,v3,v4] H n=C141_0 cal k v0 v1 v2 v3 v4 H n:=(bq Go.Proofs.Tryz.f141 code141 results141 (by kernel_rfl)).trans (Eq.trans (b:=B141_0 cal k (T141_1 cal k k) v0 v1 v2 v3 v4 H n) (by kernel_rfl) (by rw[q141_1]; rfl))
noncomputable def code142:Code:=codeOf 142
noncomputable def results142:List ResultVar:=resOf 142
noncomputable def B142_0 (cal:Cal) (k:Nat) (v0:Value) (H:Hp) (n:Nat):Res:=
bindO (pureSem P v0 (convert 3 80 v0)) fun v_3=>
callFK P cal 122 [v_3] H n fun v_4 H_5 n_6=>
binK P BinOp.shl 80 (Operand.const (Value.int IntKind.u64 1)) (Operand.tmp 5) (Value.int IntKind.u64 1) v_4 fun v_7=>
some (v_7,H_5,n_6)
noncomputable def C142_0:=B142_0 cal k
theorem h142_0 (v0:Value) (H:Hp) (n:Nat):bodyE P cal A (k+1) 142 [v0] H n=C142_0 cal k v0 H n:=(bq Go.Proofs.Tryz.f142 code142 results142 (by kernel_rfl)).trans (by kernel_rfl)
noncomputable def code143:Code:=codeOf 143
noncomputable def results143:List ResultVar:=resOf 143
noncomputable def B143_0 (cal:Cal) (k:Nat) (v0:Value) (H:Hp) (n:Nat):Res:=
bindO (nilV v0) fun v_3=>
bindO (addrV v_3) fun a_4=>bindO (loadV P H 197 a_4) fun v_5=>
bindO (nilV v0) fun v_7=>
bindO (addrV v_7) fun a_8=>bindO (loadV P H 197 a_8) fun v_9=>
binK P BinOp.shl 197 (Operand.tmp 8) (Operand.const (Value.int IntKind.u64 13)) v_9 (Value.int IntKind.u64 13) fun v_a=>
binK P BinOp.xor 197 (Operand.tmp 5) (Operand.tmp 9) v_5 v_a fun v_b=>
bindO (nilV v0) fun v_c=>
bindO (storeP P 197 v_c v_b H) fun H_e=>
bindO (nilV v0) fun v_g=>
bindO (addrV v_g) fun a_h=>bindO (loadV P H_e 197 a_h) fun v_i=>
bindO (nilV v0) fun v_k=>
bindO (addrV v_k) fun a_l=>bindO (loadV P H_e 197 a_l) fun v_m=>
binK P BinOp.shr 197 (Operand.tmp 17) (Operand.const (Value.int IntKind.u64 7)) v_m (Value.int IntKind.u64 7) fun v_n=>
binK P BinOp.xor 197 (Operand.tmp 14) (Operand.tmp 18) v_i v_n fun v_o=>
bindO (nilV v0) fun v_p=>
bindO (storeP P 197 v_p v_o H_e) fun H_r=>
bindO (nilV v0) fun v_t=>
bindO (addrV v_t) fun a_u=>bindO (loadV P H_r 197 a_u) fun v_v=>
bindO (nilV v0) fun v_x=>
bindO (addrV v_x) fun a_y=>bindO (loadV P H_r 197 a_y) fun v_z=>
binK P BinOp.shl 197 (Operand.tmp 26) (Operand.const (Value.int IntKind.u64 17)) v_z (Value.int IntKind.u64 17) fun v_10=>
binK P BinOp.xor 197 (Operand.tmp 23) (Operand.tmp 27) v_v v_10 fun v_11=>
bindO (nilV v0) fun v_12=>
bindO (storeP P 197 v_12 v_11 H_r) fun H_14=>
bindO (nilV v0) fun v_16=>
bindO (addrV v_16) fun a_18=>bindO (loadV P H_14 197 a_18) fun v_17=>
some (v_17,H_14,n)
noncomputable def C143_0:=B143_0 cal k
theorem h143_0 (v0:Value) (H:Hp) (n:Nat):bodyE P cal A (k+1) 143 [v0] H n=C143_0 cal k v0 H n:=(bq Go.Proofs.Tryz.f143 code143 results143 (by kernel_rfl)).trans (by kernel_rfl)
noncomputable def code144:Code:=codeOf 144
noncomputable def results144:List ResultVar:=resOf 144
noncomputable def B144_0 (cal:Cal) (k:Nat) (v0 v1 v2 v3:Value) (H:Hp) (n:Nat):Res:=
binK P BinOp.sub 3 (Operand.tmp 10) (Operand.const (Value.int IntKind.i64 1)) v1 (Value.int IntKind.i64 1) fun v_4=>
binK P BinOp.add 3 (Operand.tmp 13) (Operand.const (Value.int IntKind.i64 1)) v1 (Value.int IntKind.i64 1) fun v_7=>
callFK P cal 145 [v0,v_4,v1,v_7,v2,v3] H n fun v_a H_b n_c=>
some (v_a,H_b,n_c)
noncomputable def C144_0:=B144_0 cal k
theorem h144_0 (v0 v1 v2 v3:Value) (H:Hp) (n:Nat):bodyE P cal A (k+1) 144 [v0,v1,v2,v3] H n=C144_0 cal k v0 v1 v2 v3 H n:=(bq Go.Proofs.Tryz.f144 code144 results144 (by kernel_rfl)).trans (by kernel_rfl)
noncomputable def code145:Code:=codeOf 145
noncomputable def results145:List ResultVar:=resOf 145
noncomputable def B145_0 (cal:Cal) (k:Nat) (v0 v1 v2 v3 v4 v5:Value) (H:Hp) (n:Nat):Res:=
callFK P cal 147 [v0,v1,v2,v4,v5] H n fun v_7 H_8 n_9=>
bindO (tupV v_7 0) fun v_b=>
bindO (tupV v_7 1) fun v_c=>
callFK P cal 147 [v0,v_c,v3,v4,v5] H_8 n_9 fun v_k H_l n_m=>
bindO (tupV v_k 0) fun v_o=>
bindO (tupV v_k 1) fun v_p=>
callFK P cal 147 [v0,v_b,v_o,v4,v5] H_l n_m fun v_x H_y n_z=>
bindO (tupV v_x 0) fun v_11=>
bindO (tupV v_x 1) fun v_12=>
some (v_12,H_y,n_z)
noncomputable def C145_0:=B145_0 cal k
theorem h145_0 (v0 v1 v2 v3 v4 v5:Value) (H:Hp) (n:Nat):bodyE P cal A (k+1) 145 [v0,v1,v2,v3,v4,v5] H n=C145_0 cal k v0 v1 v2 v3 v4 v5 H n:=(bq Go.Proofs.Tryz.f145 code145 results145 (by kernel_rfl)).trans (by kernel_rfl)
noncomputable def code146:Code:=codeOf 146
noncomputable def results146:List ResultVar:=resOf 146
noncomputable def B146_0 (cal:Cal) (k:Nat) (v0:Value) (H:Hp) (n:Nat):Res:=
binK P BinOp.neq 106 (Operand.tmp 3) (Operand.tmp 4) v0 v0 fun v_4=>
some (v_4,H,n)
noncomputable def C146_0:=B146_0 cal k
theorem h146_0 (v0:Value) (H:Hp) (n:Nat):bodyE P cal A (k+1) 146 [v0] H n=C146_0 cal k v0 H n:=(bq Go.Proofs.Tryz.f146 code146 results146 (by kernel_rfl)).trans (by kernel_rfl)
noncomputable def code147:Code:=codeOf 147
noncomputable def results147:List ResultVar:=resOf 147
noncomputable def B147_0 (cal:Cal) (k:Nat) (v0 v1 v2 v3 v4:Value) (H:Hp) (n:Nat):Res:=
bindO (indexAddrV P 98 v0 v2) fun v_6=>
bindO (addrV v_6) fun a_7=>bindO (loadV P H 106 a_7) fun v_8=>
bindO (indexAddrV P 98 v0 v1) fun v_b=>
bindO (addrV v_b) fun a_c=>bindO (loadV P H 106 a_c) fun v_d=>
callVK P cal v4 [v_8,v_d] H n fun v_e H_f n_g=>
binK P BinOp.lss 3 (Operand.tmp 21) (Operand.const (Value.int IntKind.i64 0)) v_e (Value.int IntKind.i64 0) fun v_h=>
ifK v_h (
bindO (nilV v3) fun v_j=>
bindO (addrV v_j) fun a_l=>bindO (loadV P H_f 3 a_l) fun v_k=>
binK P BinOp.add 3 (Operand.tmp 25) (Operand.const (Value.int IntKind.i64 1)) v_k (Value.int IntKind.i64 1) fun v_m=>
bindO (nilV v3) fun v_n=>
bindO (storeP P 3 v_n v_m H_f) fun H_p=>
some ((Value.tuple ⟨[v2,v1]⟩),H_p,n_g)) (
some ((Value.tuple ⟨[v1,v2]⟩),H_f,n_g))
noncomputable def C147_0:=B147_0 cal k
theorem h147_0 (v0 v1 v2 v3 v4:Value) (H:Hp) (n:Nat):bodyE P cal A (k+1) 147 [v0,v1,v2,v3,v4] H n=C147_0 cal k v0 v1 v2 v3 v4 H n:=(bq Go.Proofs.Tryz.f147 code147 results147 (by kernel_rfl)).trans (by kernel_rfl)
end Go.Proofs.YtnnkcjolgbpklaaGreat.G
end
end
section
open Go Go.Ev
set_option maxRecDepth 1000000
noncomputable section
namespace Go.Proofs.YtnnkcjolgbpklaaGreat.G
variable (cal:Cal) (k:Nat)
noncomputable def KK:Nat:=19999
theorem tbl_nil (F:Nat):TblOk P A F ((Tr.nil:Tr (Cal→List Value→Hp→Nat→Res)).get):=by
  intro f S h
  rw[Tr.get_nil] at h
  cases h
theorem tbl_set {F:Nat} {t:Tr (Cal→List Value→Hp→Nat→Res)} {f:Nat} {S:Cal→List Value→Hp→Nat→Res} (ht:TblOk P A F t.get)
    (h:∀ cal args H n r,S cal args H n=some r→bodyE P cal A F f args H n=some r):TblOk P A F (t.set f (some S)).get:=by
  intro g S' e
  rw[Tr.get_set] at e
  split at e
  · rename_i e1
    cases e
    rw[e1]
    exact h
  · exact ht g S' e
section
variable {ρ:Type}
end
noncomputable def ent16 (args:List Value) (H:Hp) (n:Nat):Res:=match args with
  | []=>C16_0 cal KK  H n
  | _=>none
theorem ok16 (args:List Value) (H:Hp) (n:Nat) (r:Value × Hp × Nat) (e:ent16 cal args H n=some r):bodyE P cal A (KK+1) 16 args H n=some r:=by
  unfold ent16 at e
  split at e
  · exact(h16_0 ..).trans e
  · cases e
noncomputable def ent19 (args:List Value) (H:Hp) (n:Nat):Res:=match args with
  | [v0,v1]=>C19_0 cal KK v0 v1 H n
  | _=>none
theorem ok19 (args:List Value) (H:Hp) (n:Nat) (r:Value × Hp × Nat) (e:ent19 cal args H n=some r):bodyE P cal A (KK+1) 19 args H n=some r:=by
  unfold ent19 at e
  split at e
  · exact(h19_0 ..).trans e
  · cases e
noncomputable def ent23 (args:List Value) (H:Hp) (n:Nat):Res:=match args with
  | [v0,v1]=>C23_0 cal KK v0 v1 H n
  | _=>none
theorem ok23 (args:List Value) (H:Hp) (n:Nat) (r:Value × Hp × Nat) (e:ent23 cal args H n=some r):bodyE P cal A (KK+1) 23 args H n=some r:=by
  unfold ent23 at e
  split at e
  · exact(h23_0 ..).trans e
  · cases e
noncomputable def ent25 (args:List Value) (H:Hp) (n:Nat):Res:=match args with
  | [v0,v1]=>C25_0 cal KK v0 v1 H n
  | _=>none
theorem ok25 (args:List Value) (H:Hp) (n:Nat) (r:Value × Hp × Nat) (e:ent25 cal args H n=some r):bodyE P cal A (KK+1) 25 args H n=some r:=by
  unfold ent25 at e
  split at e
  · exact(h25_0 ..).trans e
  · cases e
noncomputable def ent32 (args:List Value) (H:Hp) (n:Nat):Res:=match args with
  | [v0]=>C32_0 cal KK v0 H n
  | _=>none
theorem ok32 (args:List Value) (H:Hp) (n:Nat) (r:Value × Hp × Nat) (e:ent32 cal args H n=some r):bodyE P cal A (KK+1) 32 args H n=some r:=by
  unfold ent32 at e
  split at e
  · exact(h32_0 ..).trans e
  · cases e
noncomputable def ent34 (args:List Value) (H:Hp) (n:Nat):Res:=match args with
  | [v0,v1,v2]=>C34_0 cal KK v0 v1 v2 H n
  | _=>none
theorem ok34 (args:List Value) (H:Hp) (n:Nat) (r:Value × Hp × Nat) (e:ent34 cal args H n=some r):bodyE P cal A (KK+1) 34 args H n=some r:=by
  unfold ent34 at e
  split at e
  · exact(h34_0 ..).trans e
  · cases e
noncomputable def ent42 (args:List Value) (H:Hp) (n:Nat):Res:=match args with
  | [v0,v1]=>C42_0 cal KK v0 v1 H n
  | _=>none
theorem ok42 (args:List Value) (H:Hp) (n:Nat) (r:Value × Hp × Nat) (e:ent42 cal args H n=some r):bodyE P cal A (KK+1) 42 args H n=some r:=by
  unfold ent42 at e
  split at e
  · exact(h42_0 ..).trans e
  · cases e
noncomputable def ent48 (args:List Value) (H:Hp) (n:Nat):Res:=match args with
  | [v0,v1]=>C48_0 cal KK v0 v1 H n
  | _=>none
theorem ok48 (args:List Value) (H:Hp) (n:Nat) (r:Value × Hp × Nat) (e:ent48 cal args H n=some r):bodyE P cal A (KK+1) 48 args H n=some r:=by
  unfold ent48 at e
  split at e
  · exact(h48_0 ..).trans e
  · cases e
noncomputable def ent53 (args:List Value) (H:Hp) (n:Nat):Res:=match args with
  | []=>C53_0 cal KK  H n
  | _=>none
theorem ok53 (args:List Value) (H:Hp) (n:Nat) (r:Value × Hp × Nat) (e:ent53 cal args H n=some r):bodyE P cal A (KK+1) 53 args H n=some r:=by
  unfold ent53 at e
  split at e
  · exact(h53_0 ..).trans e
  · cases e
noncomputable def ent54 (args:List Value) (H:Hp) (n:Nat):Res:=match args with
  | []=>C54_0 cal KK  H n
  | _=>none
theorem ok54 (args:List Value) (H:Hp) (n:Nat) (r:Value × Hp × Nat) (e:ent54 cal args H n=some r):bodyE P cal A (KK+1) 54 args H n=some r:=by
  unfold ent54 at e
  split at e
  · exact(h54_0 ..).trans e
  · cases e
noncomputable def ent55 (args:List Value) (H:Hp) (n:Nat):Res:=match args with
  | [v0]=>C55_0 cal KK v0 H n
  | _=>none
theorem ok55 (args:List Value) (H:Hp) (n:Nat) (r:Value × Hp × Nat) (e:ent55 cal args H n=some r):bodyE P cal A (KK+1) 55 args H n=some r:=by
  unfold ent55 at e
  split at e
  · exact(h55_0 ..).trans e
  · cases e
noncomputable def ent57 (args:List Value) (H:Hp) (n:Nat):Res:=match args with
  | [v0,v1]=>C57_0 cal KK v0 v1 H n
  | _=>none
theorem ok57 (args:List Value) (H:Hp) (n:Nat) (r:Value × Hp × Nat) (e:ent57 cal args H n=some r):bodyE P cal A (KK+1) 57 args H n=some r:=by
  unfold ent57 at e
  split at e
  · exact(h57_0 ..).trans e
  · cases e
noncomputable def ent58 (args:List Value) (H:Hp) (n:Nat):Res:=match args with
  | [v0]=>C58_0 cal KK v0 H n
  | _=>none
theorem ok58 (args:List Value) (H:Hp) (n:Nat) (r:Value × Hp × Nat) (e:ent58 cal args H n=some r):bodyE P cal A (KK+1) 58 args H n=some r:=by
  unfold ent58 at e
  split at e
  · exact(h58_0 ..).trans e
  · cases e
noncomputable def ent59 (args:List Value) (H:Hp) (n:Nat):Res:=match args with
  | [v0,v1]=>C59_0 cal KK v0 v1 H n
  | _=>none
theorem ok59 (args:List Value) (H:Hp) (n:Nat) (r:Value × Hp × Nat) (e:ent59 cal args H n=some r):bodyE P cal A (KK+1) 59 args H n=some r:=by
  unfold ent59 at e
  split at e
  · exact(h59_0 ..).trans e
  · cases e
noncomputable def ent63 (args:List Value) (H:Hp) (n:Nat):Res:=match args with
  | [v0,v1]=>C63_0 cal KK v0 v1 H n
  | _=>none
theorem ok63 (args:List Value) (H:Hp) (n:Nat) (r:Value × Hp × Nat) (e:ent63 cal args H n=some r):bodyE P cal A (KK+1) 63 args H n=some r:=by
  unfold ent63 at e
  split at e
  · exact(h63_0 ..).trans e
  · cases e
noncomputable def ent64 (args:List Value) (H:Hp) (n:Nat):Res:=match args with
  | [v0,v1]=>C64_0 cal KK v0 v1 H n
  | _=>none
theorem ok64 (args:List Value) (H:Hp) (n:Nat) (r:Value × Hp × Nat) (e:ent64 cal args H n=some r):bodyE P cal A (KK+1) 64 args H n=some r:=by
  unfold ent64 at e
  split at e
  · exact(h64_0 ..).trans e
  · cases e
noncomputable def ent66 (args:List Value) (H:Hp) (n:Nat):Res:=match args with
  | [v0]=>C66_0 cal KK v0 H n
  | _=>none
theorem ok66 (args:List Value) (H:Hp) (n:Nat) (r:Value × Hp × Nat) (e:ent66 cal args H n=some r):bodyE P cal A (KK+1) 66 args H n=some r:=by
  unfold ent66 at e
  split at e
  · exact(h66_0 ..).trans e
  · cases e
noncomputable def ent67 (args:List Value) (H:Hp) (n:Nat):Res:=match args with
  | [v0]=>C67_0 cal KK v0 H n
  | _=>none
theorem ok67 (args:List Value) (H:Hp) (n:Nat) (r:Value × Hp × Nat) (e:ent67 cal args H n=some r):bodyE P cal A (KK+1) 67 args H n=some r:=by
  unfold ent67 at e
  split at e
  · exact(h67_0 ..).trans e
  · cases e
noncomputable def ent71 (args:List Value) (H:Hp) (n:Nat):Res:=match args with
  | [v0,v1,v2]=>C71_0 cal KK v0 v1 v2 H n
  | _=>none
theorem ok71 (args:List Value) (H:Hp) (n:Nat) (r:Value × Hp × Nat) (e:ent71 cal args H n=some r):bodyE P cal A (KK+1) 71 args H n=some r:=by
  unfold ent71 at e
  split at e
  · exact(h71_0 ..).trans e
  · cases e
noncomputable def ent76 (args:List Value) (H:Hp) (n:Nat):Res:=match args with
  | [v0,v1]=>C76_0 cal KK v0 v1 H n
  | _=>none
theorem ok76 (args:List Value) (H:Hp) (n:Nat) (r:Value × Hp × Nat) (e:ent76 cal args H n=some r):bodyE P cal A (KK+1) 76 args H n=some r:=by
  unfold ent76 at e
  split at e
  · exact(h76_0 ..).trans e
  · cases e
noncomputable def ent77 (args:List Value) (H:Hp) (n:Nat):Res:=match args with
  | [v0]=>C77_0 cal KK v0 H n
  | _=>none
theorem ok77 (args:List Value) (H:Hp) (n:Nat) (r:Value × Hp × Nat) (e:ent77 cal args H n=some r):bodyE P cal A (KK+1) 77 args H n=some r:=by
  unfold ent77 at e
  split at e
  · exact(h77_0 ..).trans e
  · cases e
noncomputable def ent78 (args:List Value) (H:Hp) (n:Nat):Res:=match args with
  | [v0,v1]=>C78_0 cal KK v0 v1 H n
  | _=>none
theorem ok78 (args:List Value) (H:Hp) (n:Nat) (r:Value × Hp × Nat) (e:ent78 cal args H n=some r):bodyE P cal A (KK+1) 78 args H n=some r:=by
  unfold ent78 at e
  split at e
  · exact(h78_0 ..).trans e
  · cases e
noncomputable def ent79 (args:List Value) (H:Hp) (n:Nat):Res:=match args with
  | [v0,v1]=>C79_0 cal KK v0 v1 H n
  | _=>none
theorem ok79 (args:List Value) (H:Hp) (n:Nat) (r:Value × Hp × Nat) (e:ent79 cal args H n=some r):bodyE P cal A (KK+1) 79 args H n=some r:=by
  unfold ent79 at e
  split at e
  · exact(h79_0 ..).trans e
  · cases e
noncomputable def ent80 (args:List Value) (H:Hp) (n:Nat):Res:=match args with
  | [v0]=>C80_0 cal KK v0 H n
  | _=>none
theorem ok80 (args:List Value) (H:Hp) (n:Nat) (r:Value × Hp × Nat) (e:ent80 cal args H n=some r):bodyE P cal A (KK+1) 80 args H n=some r:=by
  unfold ent80 at e
  split at e
  · exact(h80_0 ..).trans e
  · cases e
noncomputable def ent82 (args:List Value) (H:Hp) (n:Nat):Res:=match args with
  | [v0,v1]=>C82_0 cal KK v0 v1 H n
  | _=>none
theorem ok82 (args:List Value) (H:Hp) (n:Nat) (r:Value × Hp × Nat) (e:ent82 cal args H n=some r):bodyE P cal A (KK+1) 82 args H n=some r:=by
  unfold ent82 at e
  split at e
  · exact(h82_0 ..).trans e
  · cases e
noncomputable def ent83 (args:List Value) (H:Hp) (n:Nat):Res:=match args with
  | [v0]=>C83_0 cal KK v0 H n
  | _=>none
theorem ok83 (args:List Value) (H:Hp) (n:Nat) (r:Value × Hp × Nat) (e:ent83 cal args H n=some r):bodyE P cal A (KK+1) 83 args H n=some r:=by
  unfold ent83 at e
  split at e
  · exact(h83_0 ..).trans e
  · cases e
noncomputable def ent84 (args:List Value) (H:Hp) (n:Nat):Res:=match args with
  | [v0]=>C84_0 cal KK v0 H n
  | _=>none
theorem ok84 (args:List Value) (H:Hp) (n:Nat) (r:Value × Hp × Nat) (e:ent84 cal args H n=some r):bodyE P cal A (KK+1) 84 args H n=some r:=by
  unfold ent84 at e
  split at e
  · exact(h84_0 ..).trans e
  · cases e
noncomputable def ent86 (args:List Value) (H:Hp) (n:Nat):Res:=match args with
  | [v0,v1]=>C86_0 cal KK v0 v1 H n
  | _=>none
theorem ok86 (args:List Value) (H:Hp) (n:Nat) (r:Value × Hp × Nat) (e:ent86 cal args H n=some r):bodyE P cal A (KK+1) 86 args H n=some r:=by
  unfold ent86 at e
  split at e
  · exact(h86_0 ..).trans e
  · cases e
noncomputable def ent90 (args:List Value) (H:Hp) (n:Nat):Res:=match args with
  | [v0,v1]=>C90_0 cal KK v0 v1 H n
  | _=>none
theorem ok90 (args:List Value) (H:Hp) (n:Nat) (r:Value × Hp × Nat) (e:ent90 cal args H n=some r):bodyE P cal A (KK+1) 90 args H n=some r:=by
  unfold ent90 at e
  split at e
  · exact(h90_0 ..).trans e
  · cases e
noncomputable def ent91 (args:List Value) (H:Hp) (n:Nat):Res:=match args with
  | [v0,v1,v2,v3]=>C91_0 cal KK v0 v1 v2 v3 H n
  | _=>none
theorem ok91 (args:List Value) (H:Hp) (n:Nat) (r:Value × Hp × Nat) (e:ent91 cal args H n=some r):bodyE P cal A (KK+1) 91 args H n=some r:=by
  unfold ent91 at e
  split at e
  · exact(h91_0 ..).trans e
  · cases e
noncomputable def ent92 (args:List Value) (H:Hp) (n:Nat):Res:=match args with
  | [v0,v1]=>C92_0 cal KK v0 v1 H n
  | _=>none
theorem ok92 (args:List Value) (H:Hp) (n:Nat) (r:Value × Hp × Nat) (e:ent92 cal args H n=some r):bodyE P cal A (KK+1) 92 args H n=some r:=by
  unfold ent92 at e
  split at e
  · exact(h92_0 ..).trans e
  · cases e
noncomputable def ent93 (args:List Value) (H:Hp) (n:Nat):Res:=match args with
  | [v0,v1]=>C93_0 cal KK v0 v1 H n
  | _=>none
theorem ok93 (args:List Value) (H:Hp) (n:Nat) (r:Value × Hp × Nat) (e:ent93 cal args H n=some r):bodyE P cal A (KK+1) 93 args H n=some r:=by
  unfold ent93 at e
  split at e
  · exact(h93_0 ..).trans e
  · cases e
noncomputable def ent94 (args:List Value) (H:Hp) (n:Nat):Res:=match args with
  | [v0,v1]=>C94_0 cal KK v0 v1 H n
  | _=>none
theorem ok94 (args:List Value) (H:Hp) (n:Nat) (r:Value × Hp × Nat) (e:ent94 cal args H n=some r):bodyE P cal A (KK+1) 94 args H n=some r:=by
  unfold ent94 at e
  split at e
  · exact(h94_0 ..).trans e
  · cases e
noncomputable def ent95 (args:List Value) (H:Hp) (n:Nat):Res:=match args with
  | [v0,v1]=>C95_0 cal KK v0 v1 H n
  | _=>none
theorem ok95 (args:List Value) (H:Hp) (n:Nat) (r:Value × Hp × Nat) (e:ent95 cal args H n=some r):bodyE P cal A (KK+1) 95 args H n=some r:=by
  unfold ent95 at e
  split at e
  · exact(h95_0 ..).trans e
  · cases e
noncomputable def ent96 (args:List Value) (H:Hp) (n:Nat):Res:=match args with
  | [v0,v1]=>C96_0 cal KK v0 v1 H n
  | _=>none
theorem ok96 (args:List Value) (H:Hp) (n:Nat) (r:Value × Hp × Nat) (e:ent96 cal args H n=some r):bodyE P cal A (KK+1) 96 args H n=some r:=by
  unfold ent96 at e
  split at e
  · exact(h96_0 ..).trans e
  · cases e
noncomputable def ent97 (args:List Value) (H:Hp) (n:Nat):Res:=match args with
  | [v0,v1,v2,v3,v4,v5,v6]=>C97_0 cal KK v0 v1 v2 v3 v4 v5 v6 H n
  | _=>none
theorem ok97 (args:List Value) (H:Hp) (n:Nat) (r:Value × Hp × Nat) (e:ent97 cal args H n=some r):bodyE P cal A (KK+1) 97 args H n=some r:=by
  unfold ent97 at e
  split at e
  · exact(h97_0 ..).trans e
  · cases e
noncomputable def ent98 (args:List Value) (H:Hp) (n:Nat):Res:=match args with
  | [v0]=>C98_0 cal KK v0 H n
  | _=>none
theorem ok98 (args:List Value) (H:Hp) (n:Nat) (r:Value × Hp × Nat) (e:ent98 cal args H n=some r):bodyE P cal A (KK+1) 98 args H n=some r:=by
  unfold ent98 at e
  split at e
  · exact(h98_0 ..).trans e
  · cases e
noncomputable def ent99 (args:List Value) (H:Hp) (n:Nat):Res:=match args with
  | [v0]=>C99_0 cal KK v0 H n
  | _=>none
theorem ok99 (args:List Value) (H:Hp) (n:Nat) (r:Value × Hp × Nat) (e:ent99 cal args H n=some r):bodyE P cal A (KK+1) 99 args H n=some r:=by
  unfold ent99 at e
  split at e
  · exact(h99_0 ..).trans e
  · cases e
noncomputable def ent100 (args:List Value) (H:Hp) (n:Nat):Res:=match args with
  | [v0,v1]=>C100_0 cal KK v0 v1 H n
  | _=>none
theorem ok100 (args:List Value) (H:Hp) (n:Nat) (r:Value × Hp × Nat) (e:ent100 cal args H n=some r):bodyE P cal A (KK+1) 100 args H n=some r:=by
  unfold ent100 at e
  split at e
  · exact(h100_0 ..).trans e
  · cases e
noncomputable def ent101 (args:List Value) (H:Hp) (n:Nat):Res:=match args with
  | [v0]=>C101_0 cal KK v0 H n
  | _=>none
theorem ok101 (args:List Value) (H:Hp) (n:Nat) (r:Value × Hp × Nat) (e:ent101 cal args H n=some r):bodyE P cal A (KK+1) 101 args H n=some r:=by
  unfold ent101 at e
  split at e
  · exact(h101_0 ..).trans e
  · cases e
noncomputable def ent102 (args:List Value) (H:Hp) (n:Nat):Res:=match args with
  | [v0]=>C102_0 cal KK v0 H n
  | _=>none
theorem ok102 (args:List Value) (H:Hp) (n:Nat) (r:Value × Hp × Nat) (e:ent102 cal args H n=some r):bodyE P cal A (KK+1) 102 args H n=some r:=by
  unfold ent102 at e
  split at e
  · exact(h102_0 ..).trans e
  · cases e
noncomputable def ent103 (args:List Value) (H:Hp) (n:Nat):Res:=match args with
  | [v0]=>C103_0 cal KK v0 H n
  | _=>none
theorem ok103 (args:List Value) (H:Hp) (n:Nat) (r:Value × Hp × Nat) (e:ent103 cal args H n=some r):bodyE P cal A (KK+1) 103 args H n=some r:=by
  unfold ent103 at e
  split at e
  · exact(h103_0 ..).trans e
  · cases e
noncomputable def ent104 (args:List Value) (H:Hp) (n:Nat):Res:=match args with
  | [v0,v1]=>C104_0 cal KK v0 v1 H n
  | _=>none
theorem ok104 (args:List Value) (H:Hp) (n:Nat) (r:Value × Hp × Nat) (e:ent104 cal args H n=some r):bodyE P cal A (KK+1) 104 args H n=some r:=by
  unfold ent104 at e
  split at e
  · exact(h104_0 ..).trans e
  · cases e
noncomputable def ent106 (args:List Value) (H:Hp) (n:Nat):Res:=match args with
  | [v0]=>C106_0 cal KK v0 H n
  | _=>none
theorem ok106 (args:List Value) (H:Hp) (n:Nat) (r:Value × Hp × Nat) (e:ent106 cal args H n=some r):bodyE P cal A (KK+1) 106 args H n=some r:=by
  unfold ent106 at e
  split at e
  · exact(h106_0 ..).trans e
  · cases e
noncomputable def ent107 (args:List Value) (H:Hp) (n:Nat):Res:=match args with
  | [v0]=>C107_0 cal KK v0 H n
  | _=>none
theorem ok107 (args:List Value) (H:Hp) (n:Nat) (r:Value × Hp × Nat) (e:ent107 cal args H n=some r):bodyE P cal A (KK+1) 107 args H n=some r:=by
  unfold ent107 at e
  split at e
  · exact(h107_0 ..).trans e
  · cases e
noncomputable def ent108 (args:List Value) (H:Hp) (n:Nat):Res:=match args with
  | [v0,v1]=>C108_0 cal KK v0 v1 H n
  | _=>none
theorem ok108 (args:List Value) (H:Hp) (n:Nat) (r:Value × Hp × Nat) (e:ent108 cal args H n=some r):bodyE P cal A (KK+1) 108 args H n=some r:=by
  unfold ent108 at e
  split at e
  · exact(h108_0 ..).trans e
  · cases e
noncomputable def ent109 (args:List Value) (H:Hp) (n:Nat):Res:=match args with
  | []=>C109_0 cal KK  H n
  | _=>none
theorem ok109 (args:List Value) (H:Hp) (n:Nat) (r:Value × Hp × Nat) (e:ent109 cal args H n=some r):bodyE P cal A (KK+1) 109 args H n=some r:=by
  unfold ent109 at e
  split at e
  · exact(h109_0 ..).trans e
  · cases e
noncomputable def ent110 (args:List Value) (H:Hp) (n:Nat):Res:=match args with
  | [v0,v1,v2]=>C110_0 cal KK v0 v1 v2 H n
  | _=>none
theorem ok110 (args:List Value) (H:Hp) (n:Nat) (r:Value × Hp × Nat) (e:ent110 cal args H n=some r):bodyE P cal A (KK+1) 110 args H n=some r:=by
  unfold ent110 at e
  split at e
  · exact(h110_0 ..).trans e
  · cases e
noncomputable def ent111 (args:List Value) (H:Hp) (n:Nat):Res:=match args with
  | [v0]=>C111_0 cal KK v0 H n
  | _=>none
theorem ok111 (args:List Value) (H:Hp) (n:Nat) (r:Value × Hp × Nat) (e:ent111 cal args H n=some r):bodyE P cal A (KK+1) 111 args H n=some r:=by
  unfold ent111 at e
  split at e
  · exact(h111_0 ..).trans e
  · cases e
noncomputable def ent112 (args:List Value) (H:Hp) (n:Nat):Res:=match args with
  | [v0]=>C112_0 cal KK v0 H n
  | _=>none
theorem ok112 (args:List Value) (H:Hp) (n:Nat) (r:Value × Hp × Nat) (e:ent112 cal args H n=some r):bodyE P cal A (KK+1) 112 args H n=some r:=by
  unfold ent112 at e
  split at e
  · exact(h112_0 ..).trans e
  · cases e
noncomputable def ent113 (args:List Value) (H:Hp) (n:Nat):Res:=match args with
  | [v0,v1]=>C113_0 cal KK v0 v1 H n
  | _=>none
theorem ok113 (args:List Value) (H:Hp) (n:Nat) (r:Value × Hp × Nat) (e:ent113 cal args H n=some r):bodyE P cal A (KK+1) 113 args H n=some r:=by
  unfold ent113 at e
  split at e
  · exact(h113_0 ..).trans e
  · cases e
noncomputable def ent114 (args:List Value) (H:Hp) (n:Nat):Res:=match args with
  | [v0]=>C114_0 cal KK v0 H n
  | _=>none
theorem ok114 (args:List Value) (H:Hp) (n:Nat) (r:Value × Hp × Nat) (e:ent114 cal args H n=some r):bodyE P cal A (KK+1) 114 args H n=some r:=by
  unfold ent114 at e
  split at e
  · exact(h114_0 ..).trans e
  · cases e
noncomputable def ent115 (args:List Value) (H:Hp) (n:Nat):Res:=match args with
  | [v0,v1]=>C115_0 cal KK v0 v1 H n
  | _=>none
theorem ok115 (args:List Value) (H:Hp) (n:Nat) (r:Value × Hp × Nat) (e:ent115 cal args H n=some r):bodyE P cal A (KK+1) 115 args H n=some r:=by
  unfold ent115 at e
  split at e
  · exact(h115_0 ..).trans e
  · cases e
noncomputable def ent116 (args:List Value) (H:Hp) (n:Nat):Res:=match args with
  | [v0,v1]=>C116_0 cal KK v0 v1 H n
  | _=>none
theorem ok116 (args:List Value) (H:Hp) (n:Nat) (r:Value × Hp × Nat) (e:ent116 cal args H n=some r):bodyE P cal A (KK+1) 116 args H n=some r:=by
  unfold ent116 at e
  split at e
  · exact(h116_0 ..).trans e
  · cases e
noncomputable def ent117 (args:List Value) (H:Hp) (n:Nat):Res:=match args with
  | [v0,v1]=>C117_0 cal KK v0 v1 H n
  | _=>none
theorem ok117 (args:List Value) (H:Hp) (n:Nat) (r:Value × Hp × Nat) (e:ent117 cal args H n=some r):bodyE P cal A (KK+1) 117 args H n=some r:=by
  unfold ent117 at e
  split at e
  · exact(h117_0 ..).trans e
  · cases e
noncomputable def ent118 (args:List Value) (H:Hp) (n:Nat):Res:=match args with
  | [v0]=>C118_0 cal KK v0 H n
  | _=>none
theorem ok118 (args:List Value) (H:Hp) (n:Nat) (r:Value × Hp × Nat) (e:ent118 cal args H n=some r):bodyE P cal A (KK+1) 118 args H n=some r:=by
  unfold ent118 at e
  split at e
  · exact(h118_0 ..).trans e
  · cases e
noncomputable def ent119 (args:List Value) (H:Hp) (n:Nat):Res:=match args with
  | [v0,v1,v2]=>C119_0 cal KK v0 v1 v2 H n
  | _=>none
theorem ok119 (args:List Value) (H:Hp) (n:Nat) (r:Value × Hp × Nat) (e:ent119 cal args H n=some r):bodyE P cal A (KK+1) 119 args H n=some r:=by
  unfold ent119 at e
  split at e
  · exact(h119_0 ..).trans e
  · cases e
noncomputable def ent120 (args:List Value) (H:Hp) (n:Nat):Res:=match args with
  | [v0,v1]=>C120_0 cal KK v0 v1 H n
  | _=>none
theorem ok120 (args:List Value) (H:Hp) (n:Nat) (r:Value × Hp × Nat) (e:ent120 cal args H n=some r):bodyE P cal A (KK+1) 120 args H n=some r:=by
  unfold ent120 at e
  split at e
  · exact(h120_0 ..).trans e
  · cases e
noncomputable def ent121 (args:List Value) (H:Hp) (n:Nat):Res:=match args with
  | [v0,v1,v2,v3,v4]=>C121_0 cal KK v0 v1 v2 v3 v4 H n
  | _=>none
theorem ok121 (args:List Value) (H:Hp) (n:Nat) (r:Value × Hp × Nat) (e:ent121 cal args H n=some r):bodyE P cal A (KK+1) 121 args H n=some r:=by
  unfold ent121 at e
  split at e
  · exact(h121_0 ..).trans e
  · cases e
noncomputable def ent122 (args:List Value) (H:Hp) (n:Nat):Res:=match args with
  | [v0]=>C122_0 cal KK v0 H n
  | _=>none
theorem ok122 (args:List Value) (H:Hp) (n:Nat) (r:Value × Hp × Nat) (e:ent122 cal args H n=some r):bodyE P cal A (KK+1) 122 args H n=some r:=by
  unfold ent122 at e
  split at e
  · exact(h122_0 ..).trans e
  · cases e
noncomputable def ent123 (args:List Value) (H:Hp) (n:Nat):Res:=match args with
  | [v0,v1]=>C123_0 cal KK v0 v1 H n
  | _=>none
theorem ok123 (args:List Value) (H:Hp) (n:Nat) (r:Value × Hp × Nat) (e:ent123 cal args H n=some r):bodyE P cal A (KK+1) 123 args H n=some r:=by
  unfold ent123 at e
  split at e
  · exact(h123_0 ..).trans e
  · cases e
noncomputable def ent124 (args:List Value) (H:Hp) (n:Nat):Res:=match args with
  | [v0,v1]=>C124_0 cal KK v0 v1 H n
  | _=>none
theorem ok124 (args:List Value) (H:Hp) (n:Nat) (r:Value × Hp × Nat) (e:ent124 cal args H n=some r):bodyE P cal A (KK+1) 124 args H n=some r:=by
  unfold ent124 at e
  split at e
  · exact(h124_0 ..).trans e
  · cases e
noncomputable def ent125 (args:List Value) (H:Hp) (n:Nat):Res:=match args with
  | [v0]=>C125_0 cal KK v0 H n
  | _=>none
theorem ok125 (args:List Value) (H:Hp) (n:Nat) (r:Value × Hp × Nat) (e:ent125 cal args H n=some r):bodyE P cal A (KK+1) 125 args H n=some r:=by
  unfold ent125 at e
  split at e
  · exact(h125_0 ..).trans e
  · cases e
noncomputable def ent126 (args:List Value) (H:Hp) (n:Nat):Res:=match args with
  | [v0]=>C126_0 cal KK v0 H n
  | _=>none
theorem ok126 (args:List Value) (H:Hp) (n:Nat) (r:Value × Hp × Nat) (e:ent126 cal args H n=some r):bodyE P cal A (KK+1) 126 args H n=some r:=by
  unfold ent126 at e
  split at e
  · exact(h126_0 ..).trans e
  · cases e
noncomputable def ent127 (args:List Value) (H:Hp) (n:Nat):Res:=match args with
  | [v0]=>C127_0 cal KK v0 H n
  | _=>none
theorem ok127 (args:List Value) (H:Hp) (n:Nat) (r:Value × Hp × Nat) (e:ent127 cal args H n=some r):bodyE P cal A (KK+1) 127 args H n=some r:=by
  unfold ent127 at e
  split at e
  · exact(h127_0 ..).trans e
  · cases e
noncomputable def ent128 (args:List Value) (H:Hp) (n:Nat):Res:=match args with
  | [v0,v1]=>C128_0 cal KK v0 v1 H n
  | _=>none
theorem ok128 (args:List Value) (H:Hp) (n:Nat) (r:Value × Hp × Nat) (e:ent128 cal args H n=some r):bodyE P cal A (KK+1) 128 args H n=some r:=by
  unfold ent128 at e
  split at e
  · exact(h128_0 ..).trans e
  · cases e
noncomputable def ent129 (args:List Value) (H:Hp) (n:Nat):Res:=match args with
  | [v0]=>C129_0 cal KK v0 H n
  | _=>none
theorem ok129 (args:List Value) (H:Hp) (n:Nat) (r:Value × Hp × Nat) (e:ent129 cal args H n=some r):bodyE P cal A (KK+1) 129 args H n=some r:=by
  unfold ent129 at e
  split at e
  · exact(h129_0 ..).trans e
  · cases e
noncomputable def ent130 (args:List Value) (H:Hp) (n:Nat):Res:=match args with
  | [v0,v1,v2,v3]=>C130_0 cal KK v0 v1 v2 v3 H n
  | _=>none
theorem ok130 (args:List Value) (H:Hp) (n:Nat) (r:Value × Hp × Nat) (e:ent130 cal args H n=some r):bodyE P cal A (KK+1) 130 args H n=some r:=by
  unfold ent130 at e
  split at e
  · exact(h130_0 ..).trans e
  · cases e
noncomputable def ent131 (args:List Value) (H:Hp) (n:Nat):Res:=match args with
  | [v0,v1,v2,v3]=>C131_0 cal KK v0 v1 v2 v3 H n
  | _=>none
theorem ok131 (args:List Value) (H:Hp) (n:Nat) (r:Value × Hp × Nat) (e:ent131 cal args H n=some r):bodyE P cal A (KK+1) 131 args H n=some r:=by
  unfold ent131 at e
  split at e
  · exact(h131_0 ..).trans e
  · cases e
noncomputable def ent132 (args:List Value) (H:Hp) (n:Nat):Res:=match args with
  | [v0,v1,v2,v3]=>C132_0 cal KK v0 v1 v2 v3 H n
  | _=>none
theorem ok132 (args:List Value) (H:Hp) (n:Nat) (r:Value × Hp × Nat) (e:ent132 cal args H n=some r):bodyE P cal A (KK+1) 132 args H n=some r:=by
  unfold ent132 at e
  split at e
  · exact(h132_0 ..).trans e
  · cases e
noncomputable def ent133 (args:List Value) (H:Hp) (n:Nat):Res:=match args with
  | [v0,v1,v2,v3]=>C133_0 cal KK v0 v1 v2 v3 H n
  | _=>none
theorem ok133 (args:List Value) (H:Hp) (n:Nat) (r:Value × Hp × Nat) (e:ent133 cal args H n=some r):bodyE P cal A (KK+1) 133 args H n=some r:=by
  unfold ent133 at e
  split at e
  · exact(h133_0 ..).trans e
  · cases e
noncomputable def ent134 (args:List Value) (H:Hp) (n:Nat):Res:=match args with
  | [v0,v1,v2,v3]=>C134_0 cal KK v0 v1 v2 v3 H n
  | _=>none
theorem ok134 (args:List Value) (H:Hp) (n:Nat) (r:Value × Hp × Nat) (e:ent134 cal args H n=some r):bodyE P cal A (KK+1) 134 args H n=some r:=by
  unfold ent134 at e
  split at e
  · exact(h134_0 ..).trans e
  · cases e
noncomputable def ent135 (args:List Value) (H:Hp) (n:Nat):Res:=match args with
  | [v0,v1,v2,v3]=>C135_0 cal KK v0 v1 v2 v3 H n
  | _=>none
theorem ok135 (args:List Value) (H:Hp) (n:Nat) (r:Value × Hp × Nat) (e:ent135 cal args H n=some r):bodyE P cal A (KK+1) 135 args H n=some r:=by
  unfold ent135 at e
  split at e
  · exact(h135_0 ..).trans e
  · cases e
noncomputable def ent136 (args:List Value) (H:Hp) (n:Nat):Res:=match args with
  | [v0,v1,v2,v3,v4]=>C136_0 cal KK v0 v1 v2 v3 v4 H n
  | _=>none
theorem ok136 (args:List Value) (H:Hp) (n:Nat) (r:Value × Hp × Nat) (e:ent136 cal args H n=some r):bodyE P cal A (KK+1) 136 args H n=some r:=by
  unfold ent136 at e
  split at e
  · exact(h136_0 ..).trans e
  · cases e
noncomputable def ent137 (args:List Value) (H:Hp) (n:Nat):Res:=match args with
  | [v0,v1,v2,v3,v4]=>C137_0 cal KK v0 v1 v2 v3 v4 H n
  | _=>none
theorem ok137 (args:List Value) (H:Hp) (n:Nat) (r:Value × Hp × Nat) (e:ent137 cal args H n=some r):bodyE P cal A (KK+1) 137 args H n=some r:=by
  unfold ent137 at e
  split at e
  · exact(h137_0 ..).trans e
  · cases e
noncomputable def ent138 (args:List Value) (H:Hp) (n:Nat):Res:=match args with
  | [v0]=>C138_0 cal KK v0 H n
  | _=>none
theorem ok138 (args:List Value) (H:Hp) (n:Nat) (r:Value × Hp × Nat) (e:ent138 cal args H n=some r):bodyE P cal A (KK+1) 138 args H n=some r:=by
  unfold ent138 at e
  split at e
  · exact(h138_0 ..).trans e
  · cases e
noncomputable def ent139 (args:List Value) (H:Hp) (n:Nat):Res:=match args with
  | [v0]=>C139_0 cal KK v0 H n
  | _=>none
theorem ok139 (args:List Value) (H:Hp) (n:Nat) (r:Value × Hp × Nat) (e:ent139 cal args H n=some r):bodyE P cal A (KK+1) 139 args H n=some r:=by
  unfold ent139 at e
  split at e
  · exact(h139_0 ..).trans e
  · cases e
noncomputable def ent140 (args:List Value) (H:Hp) (n:Nat):Res:=match args with
  | [v0,v1]=>C140_0 cal KK v0 v1 H n
  | _=>none
theorem ok140 (args:List Value) (H:Hp) (n:Nat) (r:Value × Hp × Nat) (e:ent140 cal args H n=some r):bodyE P cal A (KK+1) 140 args H n=some r:=by
  unfold ent140 at e
  split at e
  · exact(h140_0 ..).trans e
  · cases e
noncomputable def ent141 (args:List Value) (H:Hp) (n:Nat):Res:=match args with
  | [v0,v1,v2,v3,v4]=>C141_0 cal KK v0 v1 v2 v3 v4 H n
  | _=>none
theorem ok141 (args:List Value) (H:Hp) (n:Nat) (r:Value × Hp × Nat) (e:ent141 cal args H n=some r):bodyE P cal A (KK+1) 141 args H n=some r:=by
  unfold ent141 at e
  split at e
  · exact(h141_0 ..).trans e
  · cases e
noncomputable def ent142 (args:List Value) (H:Hp) (n:Nat):Res:=match args with
  | [v0]=>C142_0 cal KK v0 H n
  | _=>none
theorem ok142 (args:List Value) (H:Hp) (n:Nat) (r:Value × Hp × Nat) (e:ent142 cal args H n=some r):bodyE P cal A (KK+1) 142 args H n=some r:=by
  unfold ent142 at e
  split at e
  · exact(h142_0 ..).trans e
  · cases e
noncomputable def ent143 (args:List Value) (H:Hp) (n:Nat):Res:=match args with
  | [v0]=>C143_0 cal KK v0 H n
  | _=>none
theorem ok143 (args:List Value) (H:Hp) (n:Nat) (r:Value × Hp × Nat) (e:ent143 cal args H n=some r):bodyE P cal A (KK+1) 143 args H n=some r:=by
  unfold ent143 at e
  split at e
  · exact(h143_0 ..).trans e
  · cases e
noncomputable def ent144 (args:List Value) (H:Hp) (n:Nat):Res:=match args with
  | [v0,v1,v2,v3]=>C144_0 cal KK v0 v1 v2 v3 H n
  | _=>none
theorem ok144 (args:List Value) (H:Hp) (n:Nat) (r:Value × Hp × Nat) (e:ent144 cal args H n=some r):bodyE P cal A (KK+1) 144 args H n=some r:=by
  unfold ent144 at e
  split at e
  · exact(h144_0 ..).trans e
  · cases e
noncomputable def ent145 (args:List Value) (H:Hp) (n:Nat):Res:=match args with
  | [v0,v1,v2,v3,v4,v5]=>C145_0 cal KK v0 v1 v2 v3 v4 v5 H n
  | _=>none
theorem ok145 (args:List Value) (H:Hp) (n:Nat) (r:Value × Hp × Nat) (e:ent145 cal args H n=some r):bodyE P cal A (KK+1) 145 args H n=some r:=by
  unfold ent145 at e
  split at e
  · exact(h145_0 ..).trans e
  · cases e
noncomputable def ent146 (args:List Value) (H:Hp) (n:Nat):Res:=match args with
  | [v0]=>C146_0 cal KK v0 H n
  | _=>none
theorem ok146 (args:List Value) (H:Hp) (n:Nat) (r:Value × Hp × Nat) (e:ent146 cal args H n=some r):bodyE P cal A (KK+1) 146 args H n=some r:=by
  unfold ent146 at e
  split at e
  · exact(h146_0 ..).trans e
  · cases e
noncomputable def ent147 (args:List Value) (H:Hp) (n:Nat):Res:=match args with
  | [v0,v1,v2,v3,v4]=>C147_0 cal KK v0 v1 v2 v3 v4 H n
  | _=>none
theorem ok147 (args:List Value) (H:Hp) (n:Nat) (r:Value × Hp × Nat) (e:ent147 cal args H n=some r):bodyE P cal A (KK+1) 147 args H n=some r:=by
  unfold ent147 at e
  split at e
  · exact(h147_0 ..).trans e
  · cases e
noncomputable def tab:Tr (Cal→List Value→Hp→Nat→Res):=Tr.set (Tr.set (Tr.set (Tr.set (Tr.set (Tr.set (Tr.set (Tr.set (Tr.set (Tr.set (Tr.set (Tr.set (Tr.set (Tr.set (Tr.set (Tr.set (Tr.set (Tr.set (Tr.set (Tr.set (Tr.set (Tr.set (Tr.set (Tr.set (Tr.set (Tr.set (Tr.set (Tr.set (Tr.set (Tr.set (Tr.set (Tr.set (Tr.set (Tr.set (Tr.set (Tr.set (Tr.set (Tr.set (Tr.set (Tr.set (Tr.set (Tr.set (Tr.set (Tr.set (Tr.set (Tr.set (Tr.set (Tr.set (Tr.set (Tr.set (Tr.set (Tr.set (Tr.set (Tr.set (Tr.set (Tr.set (Tr.set (Tr.set (Tr.set (Tr.set (Tr.set (Tr.set (Tr.set (Tr.set (Tr.set (Tr.set (Tr.set (Tr.set (Tr.set (Tr.set (Tr.set (Tr.set (Tr.set (Tr.set (Tr.set (Tr.set (Tr.set (Tr.set (Tr.set (Tr.set (Tr.set (Tr.set (Tr.set (Tr.set (Tr.set (.nil) 16 (some ent16)) 19 (some ent19)) 23 (some ent23)) 25 (some ent25)) 32 (some ent32)) 34 (some ent34)) 42 (some ent42)) 48 (some ent48)) 53 (some ent53)) 54 (some ent54)) 55 (some ent55)) 57 (some ent57)) 58 (some ent58)) 59 (some ent59)) 63 (some ent63)) 64 (some ent64)) 66 (some ent66)) 67 (some ent67)) 71 (some ent71)) 76 (some ent76)) 77 (some ent77)) 78 (some ent78)) 79 (some ent79)) 80 (some ent80)) 82 (some ent82)) 83 (some ent83)) 84 (some ent84)) 86 (some ent86)) 90 (some ent90)) 91 (some ent91)) 92 (some ent92)) 93 (some ent93)) 94 (some ent94)) 95 (some ent95)) 96 (some ent96)) 97 (some ent97)) 98 (some ent98)) 99 (some ent99)) 100 (some ent100)) 101 (some ent101)) 102 (some ent102)) 103 (some ent103)) 104 (some ent104)) 106 (some ent106)) 107 (some ent107)) 108 (some ent108)) 109 (some ent109)) 110 (some ent110)) 111 (some ent111)) 112 (some ent112)) 113 (some ent113)) 114 (some ent114)) 115 (some ent115)) 116 (some ent116)) 117 (some ent117)) 118 (some ent118)) 119 (some ent119)) 120 (some ent120)) 121 (some ent121)) 122 (some ent122)) 123 (some ent123)) 124 (some ent124)) 125 (some ent125)) 126 (some ent126)) 127 (some ent127)) 128 (some ent128)) 129 (some ent129)) 130 (some ent130)) 131 (some ent131)) 132 (some ent132)) 133 (some ent133)) 134 (some ent134)) 135 (some ent135)) 136 (some ent136)) 137 (some ent137)) 138 (some ent138)) 139 (some ent139)) 140 (some ent140)) 141 (some ent141)) 142 (some ent142)) 143 (some ent143)) 144 (some ent144)) 145 (some ent145)) 146 (some ent146)) 147 (some ent147)
theorem tab_ok:TblOk P A (KK+1) tab.get:=tbl_set (tbl_set (tbl_set (tbl_set (tbl_set (tbl_set (tbl_set (tbl_set (tbl_set (tbl_set (tbl_set (tbl_set (tbl_set (tbl_set (tbl_set (tbl_set (tbl_set (tbl_set (tbl_set (tbl_set (tbl_set (tbl_set (tbl_set (tbl_set (tbl_set (tbl_set (tbl_set (tbl_set (tbl_set (tbl_set (tbl_set (tbl_set (tbl_set (tbl_set (tbl_set (tbl_set (tbl_set (tbl_set (tbl_set (tbl_set (tbl_set (tbl_set (tbl_set (tbl_set (tbl_set (tbl_set (tbl_set (tbl_set (tbl_set (tbl_set (tbl_set (tbl_set (tbl_set (tbl_set (tbl_set (tbl_set (tbl_set (tbl_set (tbl_set (tbl_set (tbl_set (tbl_set (tbl_set (tbl_set (tbl_set (tbl_set (tbl_set (tbl_set (tbl_set (tbl_set (tbl_set (tbl_set (tbl_set (tbl_set (tbl_set (tbl_set (tbl_set (tbl_set (tbl_set (tbl_set (tbl_set (tbl_set (tbl_set (tbl_set (tbl_set (tbl_nil _) ok16) ok19) ok23) ok25) ok32) ok34) ok42) ok48) ok53) ok54) ok55) ok57) ok58) ok59) ok63) ok64) ok66) ok67) ok71) ok76) ok77) ok78) ok79) ok80) ok82) ok83) ok84) ok86) ok90) ok91) ok92) ok93) ok94) ok95) ok96) ok97) ok98) ok99) ok100) ok101) ok102) ok103) ok104) ok106) ok107) ok108) ok109) ok110) ok111) ok112) ok113) ok114) ok115) ok116) ok117) ok118) ok119) ok120) ok121) ok122) ok123) ok124) ok125) ok126) ok127) ok128) ok129) ok130) ok131) ok132) ok133) ok134) ok135) ok136) ok137) ok138) ok139) ok140) ok141) ok142) ok143) ok144) ok145) ok146) ok147
end Go.Proofs.YtnnkcjolgbpklaaGreat.G
end
end
