/- Texts G4 to G6. -/
import Derived.Test.YtnnkcjolgbpklaaGreatC7
set_option linter.unusedVariables false
section
open Go Go.Ev
set_option maxRecDepth 1000000
noncomputable section
namespace Go.Proofs.YtnnkcjolgbpklaaGreat.G
variable (cal:Cal) (k:Nat)
noncomputable def code84:Code:=codeOf 84
noncomputable def results84:List ResultVar:=resOf 84
noncomputable def K84_prr:KR:=(cutK (Lv.b (Lv.b (A 84))).c (codeE P cal (codeF P cal k) none 84 (cR (cR (cR code84))) (Lv.b (Lv.b (Lv.b (A 84)))) (doneK P results84) X0 (doneK P results84)))
noncomputable def K84_pxrrlr:XR:=(upX 0 (K84_prr cal k) X0)
noncomputable def K84_prrlrl (m1:Nat):KR:=(fun T H n D=>codeF P cal m1 (Lv.a (Lv.b (Lv.a (Lv.b (Lv.b (A 84)))))) none 84 (cL (cR (cL (cR (cR code84))))) (K84_prr cal k) (K84_pxrrlr cal k) (doneK P results84) (cutT (Lv.a (Lv.b (Lv.a (Lv.b (Lv.b (A 84)))))).c T) H n D)
noncomputable def T84_2 (m1:Nat):=fun(u0 u3 u5:Value) (H:Hp) (n:Nat)=>labK (codeE P cal (codeF P cal m1) none 84 (cR (cR (cR (cL (cL (cR (cL (cR (cR code84))))))))) (Lv.b (Lv.b (Lv.b (Lv.a (Lv.a (Lv.b (Lv.a (Lv.b (Lv.b (A 84)))))))))) (K84_prrlrl cal k m1) (K84_pxrrlr cal k) (doneK P results84)) (Tr.set (Tr.set (Tr.set Tr.nil 5 (some u5)) 3 (some u3)) 0 (some u0)) H n []
noncomputable def T84_1 (m1:Nat):=fun(u0 u3 u5:Value) (H:Hp) (n:Nat)=>labK (codeE P cal (codeF P cal m1) none 84 (cL (cL (cR (cL (cR (cR code84)))))) (Lv.a (Lv.a (Lv.b (Lv.a (Lv.b (Lv.b (A 84))))))) (K84_prrlrl cal k m1) (K84_pxrrlr cal k) (doneK P results84)) (Tr.set (Tr.set (Tr.set Tr.nil 5 (some u5)) 3 (some u3)) 0 (some u0)) H n []
noncomputable def R84_1 (m1:Nat):V3:=fun u0 u3 u5 H n=>codeF P cal m1 (Lv.a (Lv.b (Lv.a (Lv.b (Lv.b (A 84)))))) none 84 (cL (cR (cL (cR (cR code84))))) (K84_prr cal k) (K84_pxrrlr cal k) (doneK P results84) (Tr.set (Tr.set (Tr.set Tr.nil 5 (some u5)) 3 (some u3)) 0 (some u0)) H n []
noncomputable def B84_2 (cal:Cal) (k m1:Nat) (b1:V3) (u0 u3 u5:Value) (H:Hp) (n:Nat):Res:=
binK P BinOp.add 3 (Operand.tmp 5) (Operand.const (Value.int IntKind.i64 1)) u5 (Value.int IntKind.i64 1) fun v_5=>
b1 u0 u3 v_5 H n
noncomputable def C84_2 (m1:Nat):=B84_2 cal k m1
theorem h84_2 (m1:Nat):T84_2 cal k m1=C84_2 cal k m1 (R84_1 cal k m1):=by kernel_rfl
noncomputable def B84_1 (cal:Cal) (k m1:Nat) (j2:V3) (b1:V3) (u0 u3 u5:Value) (H:Hp) (n:Nat):Res:=
binK P BinOp.lss 3 (Operand.tmp 5) (Operand.const (Value.int IntKind.i64 8)) u5 (Value.int IntKind.i64 8) fun v_4=>
ifK v_4 (
callFK P cal 94 [u0,u5] H n fun v_b H_c n_d=>
ifK v_b (
rowK P 27 1 [(0,u5)] H_c n_d fun v_g H_h n_i=>
stK (appendV P (bare H_h n_i) 27 27 u3 v_g) fun v_j H_k n_l=>
j2 u0 v_j u5 H_k n_l) (
j2 u0 u3 u5 H_c n_d)) (
some (u3,H,n))
noncomputable def C84_1 (m1:Nat) (b1:V3):=B84_1 cal k m1 (C84_2 cal k m1 b1) b1
noncomputable def S84_1:Nat→V3:=recF (C84_1 cal k) (fun _ _ _ _ _=>none)
theorem h84_1 (m1:Nat):T84_1 cal k m1=C84_1 cal k m1 (R84_1 cal k m1):=Eq.trans (b:=B84_1 cal k m1 (T84_2 cal k m1) (R84_1 cal k m1)) (by kernel_rfl) (by rw[h84_2]; rfl)
theorem q84_1 (m:Nat):T84_1 cal k m=S84_1 cal k m:=recS (h84_1 cal k) (by kernel_rfl) (fun m=>by kernel_rfl) m
noncomputable def B84_0 (cal:Cal) (k:Nat) (j1:V3) (v0:Value) (H:Hp) (n:Nat):Res:=
j1 v0 (Value.slice none 0 0) (Value.int IntKind.i64 0) H n
noncomputable def C84_0:=B84_0 cal k (S84_1 cal k k)
theorem h84_0 (v0:Value) (H:Hp) (n:Nat):bodyE P cal A (k+1) 84 [v0] H n=C84_0 cal k v0 H n:=(bq Go.Proofs.Tryz.f84 code84 results84 (by kernel_rfl)).trans (Eq.trans (b:=B84_0 cal k (T84_1 cal k k) v0 H n) (by kernel_rfl) (by rw[q84_1]; rfl))
noncomputable def code86:Code:=codeOf 86
noncomputable def results86:List ResultVar:=resOf 86
noncomputable def B86_0 (cal:Cal) (k:Nat) (v0 v1:Value) (H:Hp) (n:Nat):Res:=
binK P BinOp.andNot 106 (Operand.tmp 5) (Operand.tmp 6) v0 v1 fun v_4=>
some (v_4,H,n)
noncomputable def C86_0:=B86_0 cal k
theorem h86_0 (v0 v1:Value) (H:Hp) (n:Nat):bodyE P cal A (k+1) 86 [v0,v1] H n=C86_0 cal k v0 v1 H n:=(bq Go.Proofs.Tryz.f86 code86 results86 (by kernel_rfl)).trans (by kernel_rfl)
noncomputable def code90:Code:=codeOf 90
noncomputable def results90:List ResultVar:=resOf 90
noncomputable def K90_prrr:KR:=(cutK (Lv.b (Lv.b (Lv.b (A 90)))).c (codeE P cal (codeF P cal k) none 90 (cR (cR (cR (cR code90)))) (Lv.b (Lv.b (Lv.b (Lv.b (A 90))))) (doneK P results90) X0 (doneK P results90)))
noncomputable def K90_pxrrrlr:XR:=(upX 0 (K90_prrr cal k) X0)
noncomputable def K90_prrrlrl (m1:Nat):KR:=(fun T H n D=>codeF P cal m1 (Lv.a (Lv.b (Lv.a (Lv.b (Lv.b (Lv.b (A 90))))))) none 90 (cL (cR (cL (cR (cR (cR code90)))))) (K90_prrr cal k) (K90_pxrrrlr cal k) (doneK P results90) (cutT (Lv.a (Lv.b (Lv.a (Lv.b (Lv.b (Lv.b (A 90))))))).c T) H n D)
noncomputable def T90_3 (m1:Nat):=fun(u0 u1 u5 u6:Value) (H:Hp) (n:Nat)=>labK (codeE P cal (codeF P cal m1) none 90 (cR (cR (cL (cL (cR (cL (cR (cR (cR code90))))))))) (Lv.b (Lv.b (Lv.a (Lv.a (Lv.b (Lv.a (Lv.b (Lv.b (Lv.b (A 90)))))))))) (K90_prrrlrl cal k m1) (K90_pxrrrlr cal k) (doneK P results90)) (Tr.set (Tr.set (Tr.set (Tr.set Tr.nil 6 (some u6)) 5 (some u5)) 1 (some u1)) 0 (some u0)) H n []
noncomputable def T90_2 (m1:Nat):=fun(u0 u1 u5 u6:Value) (H:Hp) (n:Nat)=>labK (codeE P cal (codeF P cal m1) none 90 (cL (cL (cR (cL (cR (cR (cR code90))))))) (Lv.a (Lv.a (Lv.b (Lv.a (Lv.b (Lv.b (Lv.b (A 90)))))))) (K90_prrrlrl cal k m1) (K90_pxrrrlr cal k) (doneK P results90)) (Tr.set (Tr.set (Tr.set (Tr.set Tr.nil 6 (some u6)) 5 (some u5)) 1 (some u1)) 0 (some u0)) H n []
noncomputable def R90_2 (m1:Nat):V4:=fun u0 u1 u5 u6 H n=>codeF P cal m1 (Lv.a (Lv.b (Lv.a (Lv.b (Lv.b (Lv.b (A 90))))))) none 90 (cL (cR (cL (cR (cR (cR code90)))))) (K90_prrr cal k) (K90_pxrrrlr cal k) (doneK P results90) (Tr.set (Tr.set (Tr.set (Tr.set Tr.nil 6 (some u6)) 5 (some u5)) 1 (some u1)) 0 (some u0)) H n []
noncomputable def T90_1:=fun(u0 u1:Value) (H:Hp) (n:Nat)=>labK (codeE P cal (codeF P cal k) none 90 (cR (cR code90)) (Lv.b (Lv.b (A 90))) (doneK P results90) X0 (doneK P results90)) (Tr.set (Tr.set Tr.nil 1 (some u1)) 0 (some u0)) H n []
noncomputable def B90_3 (cal:Cal) (k m1:Nat) (b2:V4) (u0 u1 u5 u6:Value) (H:Hp) (n:Nat):Res:=
binK P BinOp.add 3 (Operand.tmp 18) (Operand.const (Value.int IntKind.i64 1)) u6 (Value.int IntKind.i64 1) fun v_d=>
b2 u0 u1 u5 v_d H n
noncomputable def C90_3 (m1:Nat):=B90_3 cal k m1
theorem h90_3 (m1:Nat):T90_3 cal k m1=C90_3 cal k m1 (R90_2 cal k m1):=by kernel_rfl
noncomputable def B90_2 (cal:Cal) (k m1:Nat) (j3:V4) (b2:V4) (u0 u1 u5 u6:Value) (H:Hp) (n:Nat):Res:=
bindO (lenV P 27 u0) fun v_a=>
binK P BinOp.lss 3 (Operand.tmp 14) (Operand.tmp 16) u6 v_a fun v_b=>
ifK v_b (
bindO (indexAddrV P 27 u0 u6) fun v_i=>
bindO (addrV v_i) fun a_k=>bindO (loadV P H 3 a_k) fun v_j=>
callVK P cal u1 [v_j,u5] H n fun v_m H_n n_o=>
binK P BinOp.gtr 3 (Operand.tmp 26) (Operand.const (Value.int IntKind.i64 0)) v_m (Value.int IntKind.i64 0) fun v_p=>
ifK v_p (
bindO (indexAddrV P 27 u0 u6) fun v_s=>
bindO (addrV v_s) fun a_u=>bindO (loadV P H_n 3 a_u) fun v_t=>
j3 u0 u1 v_t u6 H_n n_o) (
j3 u0 u1 u5 u6 H_n n_o)) (
some (u5,H,n))
noncomputable def C90_2 (m1:Nat) (b2:V4):=B90_2 cal k m1 (C90_3 cal k m1 b2) b2
noncomputable def S90_2:Nat→V4:=recF (C90_2 cal k) (fun _ _ _ _ _ _=>none)
theorem h90_2 (m1:Nat):T90_2 cal k m1=C90_2 cal k m1 (R90_2 cal k m1):=Eq.trans (b:=B90_2 cal k m1 (T90_3 cal k m1) (R90_2 cal k m1)) (by kernel_rfl) (by rw[h90_3]; rfl)
theorem q90_2 (m:Nat):T90_2 cal k m=S90_2 cal k m:=recS (h90_2 cal k) (by kernel_rfl) (fun m=>by kernel_rfl) m
noncomputable def B90_1 (cal:Cal) (k:Nat) (j2:V4) (u0 u1:Value) (H:Hp) (n:Nat):Res:=
bindO (indexAddrV P 27 u0 (Value.int IntKind.i64 0)) fun v_3=>
bindO (addrV v_3) fun a_5=>bindO (loadV P H 3 a_5) fun v_4=>
j2 u0 u1 v_4 (Value.int IntKind.i64 1) H n
noncomputable def C90_1:=B90_1 cal k (S90_2 cal k k)
theorem h90_1:T90_1 cal k=C90_1 cal k:=Eq.trans (b:=B90_1 cal k (T90_2 cal k k)) (by kernel_rfl) (by rw[q90_2]; rfl)
noncomputable def B90_0 (cal:Cal) (k:Nat) (j1:V2) (v0 v1:Value) (H:Hp) (n:Nat):Res:=
bindO (lenV P 27 v0) fun v_z=>
binK P BinOp.lss 3 (Operand.tmp 8) (Operand.const (Value.int IntKind.i64 1)) v_z (Value.int IntKind.i64 1) fun v_10=>
ifK v_10 (
none) (
j1 v0 v1 H n)
noncomputable def C90_0:=B90_0 cal k (C90_1 cal k)
theorem h90_0 (v0 v1:Value) (H:Hp) (n:Nat):bodyE P cal A (k+1) 90 [v0,v1] H n=C90_0 cal k v0 v1 H n:=(bq Go.Proofs.Tryz.f90 code90 results90 (by kernel_rfl)).trans (Eq.trans (b:=B90_0 cal k (T90_1 cal k) v0 v1 H n) (by kernel_rfl) (by rw[h90_1]; rfl))
noncomputable def code91:Code:=codeOf 91
noncomputable def results91:List ResultVar:=resOf 91
noncomputable def B91_0 (cal:Cal) (k:Nat) (v0 v1 v2 v3:Value) (H:Hp) (n:Nat):Res:=
bindO (addrV v2) fun a_2=>bindO (loadV P H 147 a_2) fun v_3=>
bindO (addrV v3) fun a_4=>bindO (loadV P H 3 a_4) fun v_5=>
bindO (buildP P 152 [(0,v_5),(1,v0)]) fun v_7=>
bindO (lookupV P H 147 v_3 v_7 false) fun v_8=>
bindO (addrV v2) fun a_9=>bindO (loadV P H 147 a_9) fun v_a=>
bindO (addrV v3) fun a_b=>bindO (loadV P H 3 a_b) fun v_c=>
bindO (buildP P 152 [(0,v_c),(1,v1)]) fun v_e=>
bindO (lookupV P H 147 v_a v_e false) fun v_f=>
callFK P cal 92 [v_8,v_f] H n fun v_g H_h n_i=>
some (v_g,H_h,n_i)
noncomputable def C91_0:=B91_0 cal k
theorem h91_0 (v0 v1 v2 v3:Value) (H:Hp) (n:Nat):bodyE P cal A (k+1) 91 [v0,v1,v2,v3] H n=C91_0 cal k v0 v1 v2 v3 H n:=(bq Go.Proofs.Tryz.f91 code91 results91 (by kernel_rfl)).trans (by kernel_rfl)
noncomputable def code92:Code:=codeOf 92
noncomputable def results92:List ResultVar:=resOf 92
noncomputable def B92_0 (cal:Cal) (k:Nat) (v0 v1:Value) (H:Hp) (n:Nat):Res:=
callFK P cal 107 [v0] H n fun v_3 H_4 n_5=>
callFK P cal 107 [v1] H_4 n_5 fun v_8 H_9 n_a=>
ifK v_3 (
ifK v_8 (
some ((Value.int IntKind.i64 0),H_9,n_a)) (
some ((Value.int IntKind.i64 (-1)),H_9,n_a))) (
ifK v_8 (
some ((Value.int IntKind.i64 1),H_9,n_a)) (
binK P BinOp.lss 3 (Operand.tmp 14) (Operand.tmp 15) v0 v1 fun v_k=>
ifK v_k (
some ((Value.int IntKind.i64 (-1)),H_9,n_a)) (
binK P BinOp.gtr 3 (Operand.tmp 17) (Operand.tmp 18) v0 v1 fun v_o=>
ifK v_o (
some ((Value.int IntKind.i64 1),H_9,n_a)) (
some ((Value.int IntKind.i64 0),H_9,n_a)))))
noncomputable def C92_0:=B92_0 cal k
theorem h92_0 (v0 v1:Value) (H:Hp) (n:Nat):bodyE P cal A (k+1) 92 [v0,v1] H n=C92_0 cal k v0 v1 H n:=(bq Go.Proofs.Tryz.f92 code92 results92 (by kernel_rfl)).trans (by kernel_rfl)
noncomputable def code93:Code:=codeOf 93
noncomputable def results93:List ResultVar:=resOf 93
noncomputable def B93_0 (cal:Cal) (k:Nat) (v0 v1:Value) (H:Hp) (n:Nat):Res:=
boxK 41 v0 H n fun v_1 H_2 n_3=>
binK P BinOp.geq 3 (Operand.tmp 5) (Operand.const (Value.int IntKind.i64 0)) v1 (Value.int IntKind.i64 0) fun v_6=>
guardK v_6 true (fun k_8=>
k_8 v1 H_2 n_3) H_2 n_3 fun v_9 H_a n_b=>
guardK v_6 true (fun k_d=>
bindO (fieldAddrV P 41 v_1 0) fun v_h=>
k_d v_h H_a n_b) H_a n_b fun v_e H_f n_g=>
guardK v_6 true (fun k_i=>
bindO (fieldAddrV P 39 v_e 0) fun v_m=>
k_i v_m H_f n_g) H_f n_g fun v_j H_k n_l=>
guardK v_6 true (fun k_n=>
bindO (addrV v_j) fun a_s=>bindO (loadV P H_k 35 a_s) fun v_r=>
k_n v_r H_k n_l) H_k n_l fun v_o H_p n_q=>
guardK v_6 true (fun k_t=>
bindO (lenV P 35 v_o) fun v_x=>
k_t v_x H_p n_q) H_p n_q fun v_u H_v n_w=>
guardK v_6 true (fun k_y=>
binK P BinOp.lss 3 (Operand.tmp 8) (Operand.tmp 12) v_9 v_u fun v_12=>
k_y v_12 H_v n_w) H_v n_w fun v_z H_10 n_11=>
bindO (pickV v_6 v_z (Value.bool false)) fun v_13=>
some (v_13,H_10,n_11)
noncomputable def C93_0:=B93_0 cal k
theorem h93_0 (v0 v1:Value) (H:Hp) (n:Nat):bodyE P cal A (k+1) 93 [v0,v1] H n=C93_0 cal k v0 v1 H n:=(bq Go.Proofs.Tryz.f93 code93 results93 (by kernel_rfl)).trans (by kernel_rfl)
noncomputable def code94:Code:=codeOf 94
noncomputable def results94:List ResultVar:=resOf 94
noncomputable def B94_0 (cal:Cal) (k:Nat) (v0 v1:Value) (H:Hp) (n:Nat):Res:=
rowK P 27 1 [(0,v1)] H n fun v_4 H_5 n_6=>
callFK P cal 83 [v_4] H_5 n_6 fun v_7 H_8 n_9=>
callFK P cal 95 [v0,v_7] H_8 n_9 fun v_a H_b n_c=>
some (v_a,H_b,n_c)
noncomputable def C94_0:=B94_0 cal k
theorem h94_0 (v0 v1:Value) (H:Hp) (n:Nat):bodyE P cal A (k+1) 94 [v0,v1] H n=C94_0 cal k v0 v1 H n:=(bq Go.Proofs.Tryz.f94 code94 results94 (by kernel_rfl)).trans (by kernel_rfl)
noncomputable def code95:Code:=codeOf 95
noncomputable def results95:List ResultVar:=resOf 95
noncomputable def B95_0 (cal:Cal) (k:Nat) (v0 v1:Value) (H:Hp) (n:Nat):Res:=
binK P BinOp.and 106 (Operand.tmp 5) (Operand.tmp 6) v0 v1 fun v_4=>
binK P BinOp.neq 106 (Operand.tmp 7) (Operand.const (Value.int IntKind.u64 0)) v_4 (Value.int IntKind.u64 0) fun v_5=>
some (v_5,H,n)
noncomputable def C95_0:=B95_0 cal k
theorem h95_0 (v0 v1:Value) (H:Hp) (n:Nat):bodyE P cal A (k+1) 95 [v0,v1] H n=C95_0 cal k v0 v1 H n:=(bq Go.Proofs.Tryz.f95 code95 results95 (by kernel_rfl)).trans (by kernel_rfl)
noncomputable def code96:Code:=codeOf 96
noncomputable def results96:List ResultVar:=resOf 96
noncomputable def K96_prr:KR:=(cutK (Lv.b (Lv.b (A 96))).c (codeE P cal (codeF P cal k) none 96 (cR (cR (cR code96))) (Lv.b (Lv.b (Lv.b (A 96)))) (doneK P results96) X0 (doneK P results96)))
noncomputable def K96_pxrrlr:XR:=(upX 0 (K96_prr cal k) X0)
noncomputable def K96_prrlrl (m1:Nat):KR:=(fun T H n D=>codeF P cal m1 (Lv.a (Lv.b (Lv.a (Lv.b (Lv.b (A 96)))))) none 96 (cL (cR (cL (cR (cR code96))))) (K96_prr cal k) (K96_pxrrlr cal k) (doneK P results96) (cutT (Lv.a (Lv.b (Lv.a (Lv.b (Lv.b (A 96)))))).c T) H n D)
noncomputable def T96_2 (m1:Nat):=fun(u1 u5 u13 u14:Value) (H:Hp) (n:Nat)=>labK (codeE P cal (codeF P cal m1) none 96 (cR (cR (cR (cL (cL (cR (cL (cR (cR code96))))))))) (Lv.b (Lv.b (Lv.b (Lv.a (Lv.a (Lv.b (Lv.a (Lv.b (Lv.b (A 96)))))))))) (K96_prrlrl cal k m1) (K96_pxrrlr cal k) (doneK P results96)) (Tr.set (Tr.set (Tr.set (Tr.set Tr.nil 14 (some u14)) 13 (some u13)) 5 (some u5)) 1 (some u1)) H n []
noncomputable def T96_1 (m1:Nat):=fun(u1 u5 u13 u14:Value) (H:Hp) (n:Nat)=>labK (codeE P cal (codeF P cal m1) none 96 (cL (cL (cR (cL (cR (cR code96)))))) (Lv.a (Lv.a (Lv.b (Lv.a (Lv.b (Lv.b (A 96))))))) (K96_prrlrl cal k m1) (K96_pxrrlr cal k) (doneK P results96)) (Tr.set (Tr.set (Tr.set (Tr.set Tr.nil 14 (some u14)) 13 (some u13)) 5 (some u5)) 1 (some u1)) H n []
noncomputable def R96_1 (m1:Nat):V4:=fun u1 u5 u13 u14 H n=>codeF P cal m1 (Lv.a (Lv.b (Lv.a (Lv.b (Lv.b (A 96)))))) none 96 (cL (cR (cL (cR (cR code96))))) (K96_prr cal k) (K96_pxrrlr cal k) (doneK P results96) (Tr.set (Tr.set (Tr.set (Tr.set Tr.nil 14 (some u14)) 13 (some u13)) 5 (some u5)) 1 (some u1)) H n []
noncomputable def B96_2 (cal:Cal) (k m1:Nat) (b1:V4) (u1 u5 u13 u14:Value) (H:Hp) (n:Nat):Res:=
binK P BinOp.add 106 (Operand.tmp 14) (Operand.const (Value.int IntKind.u64 1)) u14 (Value.int IntKind.u64 1) fun v_d=>
b1 u1 u5 u13 v_d H n
noncomputable def C96_2 (m1:Nat):=B96_2 cal k m1
theorem h96_2 (m1:Nat):T96_2 cal k m1=C96_2 cal k m1 (R96_1 cal k m1):=by kernel_rfl
noncomputable def B96_1 (cal:Cal) (k m1:Nat) (j2:V4) (b1:V4) (u1 u5 u13 u14:Value) (H:Hp) (n:Nat):Res:=
binK P BinOp.lss 106 (Operand.tmp 14) (Operand.tmp 13) u14 u13 fun v_c=>
ifK v_c (
callFK P cal 99 [u14] H n fun v_i H_j n_k=>
binK P BinOp.leq 3 (Operand.tmp 18) (Operand.tmp 19) v_i u1 fun v_m=>
ifK v_m (
rowK P 98 1 [(0,u14)] H_j n_k fun v_p H_q n_r=>
stK (appendV P (bare H_q n_r) 98 98 u5 v_p) fun v_s H_t n_u=>
j2 u1 v_s u13 u14 H_t n_u) (
j2 u1 u5 u13 u14 H_j n_k)) (
callFK P cal 109 [] H n fun v_x H_y n_z=>
callFK P cal 108 [u5,(Value.func (Fn.func 110) ⟨[v_x]⟩ ⟨[]⟩)] H_y n_z fun v_11 H_12 n_13=>
some (u5,H_12,n_13))
noncomputable def C96_1 (m1:Nat) (b1:V4):=B96_1 cal k m1 (C96_2 cal k m1 b1) b1
noncomputable def S96_1:Nat→V4:=recF (C96_1 cal k) (fun _ _ _ _ _ _=>none)
theorem h96_1 (m1:Nat):T96_1 cal k m1=C96_1 cal k m1 (R96_1 cal k m1):=Eq.trans (b:=B96_1 cal k m1 (T96_2 cal k m1) (R96_1 cal k m1)) (by kernel_rfl) (by rw[h96_2]; rfl)
theorem q96_1 (m:Nat):T96_1 cal k m=S96_1 cal k m:=recS (h96_1 cal k) (by kernel_rfl) (fun m=>by kernel_rfl) m
noncomputable def B96_0 (cal:Cal) (k:Nat) (j1:V4) (v0 v1:Value) (H:Hp) (n:Nat):Res:=
bindO (nilV v0) fun v_4=>
bindO (fieldAddrV P 109 v_4 0) fun v_5=>
bindO (fieldAddrV P 41 v_5 2) fun v_6=>
bindO (addrV v_6) fun a_8=>bindO (loadV P H 27 a_8) fun v_7=>
bindO (lenV P 27 v_7) fun v_9=>
binK P BinOp.shl 106 (Operand.const (Value.int IntKind.u64 1)) (Operand.tmp 12) (Value.int IntKind.u64 1) v_9 fun v_a=>
j1 v1 (Value.slice none 0 0) v_a (Value.int IntKind.u64 0) H n
noncomputable def C96_0:=B96_0 cal k (S96_1 cal k k)
theorem h96_0 (v0 v1:Value) (H:Hp) (n:Nat):bodyE P cal A (k+1) 96 [v0,v1] H n=C96_0 cal k v0 v1 H n:=(bq Go.Proofs.Tryz.f96 code96 results96 (by kernel_rfl)).trans (Eq.trans (b:=B96_0 cal k (T96_1 cal k k) v0 v1 H n) (by kernel_rfl) (by rw[q96_1]; rfl))
noncomputable def code97:Code:=codeOf 97
noncomputable def results97:List ResultVar:=resOf 97
noncomputable def K97_p:KR:=(cutK (A 97).c (codeE P cal (codeF P cal k) none 97 (cR code97) (Lv.b (A 97)) (doneK P results97) X0 (doneK P results97)))
noncomputable def K97_pxrrrr (cal:Cal) (k:Nat):XR:=(upX 0 (doneK P results97) X0)
noncomputable def K97_prrrrl (m1:Nat):KR:=(fun T H n D=>codeF P cal m1 (Lv.a (Lv.b (Lv.b (Lv.b (Lv.b (A 97)))))) none 97 (cL (cR (cR (cR (cR code97))))) (doneK P results97) (K97_pxrrrr cal k) (doneK P results97) (cutT (Lv.a (Lv.b (Lv.b (Lv.b (Lv.b (A 97)))))).c T) H n D)
noncomputable def T97_1:=fun(H:Hp) (n:Nat)=>labK (codeE P cal (codeF P cal k) none 97 (cR (cL (cR (cL code97)))) (Lv.b (Lv.a (Lv.b (Lv.a (A 97))))) (K97_p cal k) X0 (doneK P results97)) Tr.nil H n []
noncomputable def T97_3 (m1:Nat):=fun(u0 u6 u35 u36 u37:Value) (H:Hp) (n:Nat)=>labK (codeE P cal (codeF P cal m1) none 97 (cL (cL (cR (cR (cR (cR code97)))))) (Lv.a (Lv.a (Lv.b (Lv.b (Lv.b (Lv.b (A 97))))))) (K97_prrrrl cal k m1) (K97_pxrrrr cal k) (doneK P results97)) (Tr.set (Tr.set (Tr.set (Tr.set (Tr.set Tr.nil 37 (some u37)) 36 (some u36)) 35 (some u35)) 6 (some u6)) 0 (some u0)) H n []
noncomputable def R97_3 (m1:Nat):V5:=fun u0 u6 u35 u36 u37 H n=>codeF P cal m1 (Lv.a (Lv.b (Lv.b (Lv.b (Lv.b (A 97)))))) none 97 (cL (cR (cR (cR (cR code97))))) (doneK P results97) (K97_pxrrrr cal k) (doneK P results97) (Tr.set (Tr.set (Tr.set (Tr.set (Tr.set Tr.nil 37 (some u37)) 36 (some u36)) 35 (some u35)) 6 (some u6)) 0 (some u0)) H n []
noncomputable def T97_2:=fun(u0 u6 u9:Value) (H:Hp) (n:Nat)=>labK (codeE P cal (codeF P cal k) none 97 (cR (cR (cR code97))) (Lv.b (Lv.b (Lv.b (A 97)))) (doneK P results97) X0 (doneK P results97)) (Tr.set (Tr.set (Tr.set Tr.nil 9 (some u9)) 6 (some u6)) 0 (some u0)) H n []
noncomputable def B97_1 (cal:Cal) (k:Nat) (H:Hp) (n:Nat):Res:=
some ((Value.tuple ⟨[]⟩),H,n)
noncomputable def C97_1:=B97_1 cal k 
theorem h97_1:T97_1 cal k=C97_1 cal k  := by kernel_rfl
noncomputable def B97_3 (cal:Cal) (k m1:Nat) (b3:V5) (u0 u6 u35 u36 u37:Value) (H:Hp) (n:Nat):Res:=
binK P BinOp.lss 3 (Operand.tmp 37) (Operand.tmp 36) u37 u36 fun v_17=>
ifK v_17 (
bindO (indexAddrV P 98 u35 u37) fun v_18=>
bindO (addrV v_18) fun a_1a=>bindO (loadV P H 106 a_1a) fun v_19=>
bindO (addrV u6) fun a_1c=>bindO (loadV P H 155 a_1c) fun v_1d=>
bindO (rowOf P 98 1 [(0,v_19)]) fun q_1i=>newK q_1i.1 q_1i.2 H n fun H_1g n_1h=>
effK P [(.l 155 a_1c)] H_1g n_1h (fun H_1j n_1k k_1l=>
stK (appendV P (bare H_1j n_1k) 98 98 u0 (.slice (some ⟨n,0,none⟩) 1 1)) fun v_1p H_1q n_1r=>
k_1l v_1p H_1q n_1r) fun v_1m H_1n n_1o=>
callVK P cal v_1d [v_1m] H_1n n_1o fun v_1s H_1t n_1u=>
binK P BinOp.add 3 (Operand.tmp 37) (Operand.const (Value.int IntKind.i64 1)) u37 (Value.int IntKind.i64 1) fun v_1v=>
b3 u0 u6 u35 u36 v_1v H_1t n_1u) (
some ((Value.tuple ⟨[]⟩),H,n))
noncomputable def C97_3 (m1:Nat):=B97_3 cal k m1
noncomputable def S97_3:Nat→V5:=recF (C97_3 cal k) (fun _ _ _ _ _ _ _=>none)
theorem h97_3 (m1:Nat):T97_3 cal k m1=C97_3 cal k m1 (R97_3 cal k m1):=by kernel_rfl
theorem q97_3 (m:Nat):T97_3 cal k m=S97_3 cal k m:=recS (h97_3 cal k) (by kernel_rfl) (fun m=>by kernel_rfl) m
noncomputable def B97_2 (cal:Cal) (k:Nat) (j3:V5) (u0 u6 u9:Value) (H:Hp) (n:Nat):Res:=
bindO (lenV P 98 u9) fun v_15=>
j3 u0 u6 u9 v_15 (Value.int IntKind.i64 0) H n
noncomputable def C97_2:=B97_2 cal k (S97_3 cal k k)
theorem h97_2:T97_2 cal k=C97_2 cal k:=Eq.trans (b:=B97_2 cal k (T97_3 cal k k)) (by kernel_rfl) (by rw[q97_3]; rfl)
noncomputable def B97_0 (cal:Cal) (k:Nat) (j1:V0) (j2:V3) (v0 v1 v2 v3 v4 v5 v6:Value) (H:Hp) (n:Nat):Res:=
bindO (lenV P 98 v0) fun v_2=>
bindO (addrV v1) fun a_4=>bindO (loadV P H 3 a_4) fun v_3=>
binK P BinOp.eql 3 (Operand.tmp 13) (Operand.tmp 14) v_2 v_3 fun v_5=>
ifK v_5 (
bindO (addrV v2) fun a_6=>bindO (loadV P H 97 a_6) fun v_7=>
bindO (addrV v2) fun a_8=>bindO (loadV P H 97 a_8) fun v_9=>
effK P [(.l 97 a_6)] H n (fun H_b n_c k_d=>
callFK P cal 63 [v_9,v0] H_b n_c fun v_h H_i n_j=>
k_d v_h H_i n_j) fun v_e H_f n_g=>
callFK P cal 64 [v_7,v_e] H_f n_g fun v_k H_l n_m=>
bindO (addrV v3) fun a_q=>bindO (loadV P H_l 3 a_q) fun v_p=>
binK P BinOp.lss 3 (Operand.tmp 21) (Operand.tmp 22) v_k v_p fun v_r=>
ifK v_r (
callFK P cal 98 [v0] H_l n_m fun v_t H_u n_v=>
bindO (storeP P 98 v4 v_t H_u) fun H_y=>
bindO (storeP P 3 v3 v_k H_y) fun H_10=>
j1  H_10 n_v) (
j1  H_l n_m)) (
bindO (addrV v5) fun a_12=>bindO (loadV P H 98 a_12) fun v_11=>
bindO (lenV P 98 v0) fun v_1y=>
bindO (addrV v1) fun a_20=>bindO (loadV P H 3 a_20) fun v_1z=>
binK P BinOp.sub 3 (Operand.tmp 30) (Operand.const (Value.int IntKind.i64 1)) v_1z (Value.int IntKind.i64 1) fun v_21=>
binK P BinOp.eql 3 (Operand.tmp 29) (Operand.tmp 31) v_1y v_21 fun v_22=>
ifK v_22 (
bindO (addrV v5) fun a_24=>bindO (loadV P H 98 a_24) fun v_23=>
bindO (sliceV P 98 v_23 none (some (Value.int IntKind.i64 1))) fun v_25=>
j2 v0 v6 v_25 H n) (
j2 v0 v6 v_11 H n))
noncomputable def C97_0:=B97_0 cal k (C97_1 cal k) (C97_2 cal k)
theorem h97_0 (v0 v1 v2 v3 v4 v5 v6:Value) (H:Hp) (n:Nat):bodyE P cal A (k+1) 97 [v0,v1,v2,v3,v4,v5,v6] H n=C97_0 cal k v0 v1 v2 v3 v4 v5 v6 H n:=(bq Go.Proofs.Tryz.f97 code97 results97 (by kernel_rfl)).trans (Eq.trans (b:=B97_0 cal k (fun  H n=>T97_1 cal k H n) (T97_2 cal k) v0 v1 v2 v3 v4 v5 v6 H n) (by kernel_rfl) (by rw[h97_1,h97_2]; rfl))
noncomputable def code98:Code:=codeOf 98
noncomputable def results98:List ResultVar:=resOf 98
noncomputable def B98_0 (cal:Cal) (k:Nat) (v0:Value) (H:Hp) (n:Nat):Res:=
binK P BinOp.eql 98 (Operand.tmp 3) (Operand.const (Value.slice none 0 0)) v0 (Value.slice none 0 0) fun v_3=>
ifK v_3 (
some ((Value.slice none 0 0),H,n)) (
rowK P 98 0 [] H n fun v_5 H_6 n_7=>
stK (appendV P (bare H_6 n_7) 98 98 v_5 v0) fun v_9 H_a n_b=>
some (v_9,H_a,n_b))
noncomputable def C98_0:=B98_0 cal k
theorem h98_0 (v0:Value) (H:Hp) (n:Nat):bodyE P cal A (k+1) 98 [v0] H n=C98_0 cal k v0 H n:=(bq Go.Proofs.Tryz.f98 code98 results98 (by kernel_rfl)).trans (by kernel_rfl)
noncomputable def code99:Code:=codeOf 99
noncomputable def results99:List ResultVar:=resOf 99
noncomputable def B99_0 (cal:Cal) (k:Nat) (v0:Value) (H:Hp) (n:Nat):Res:=
callFK P cal 111 [v0] H n fun v_3 H_4 n_5=>
some (v_3,H_4,n_5)
noncomputable def C99_0:=B99_0 cal k
theorem h99_0 (v0:Value) (H:Hp) (n:Nat):bodyE P cal A (k+1) 99 [v0] H n=C99_0 cal k v0 H n:=(bq Go.Proofs.Tryz.f99 code99 results99 (by kernel_rfl)).trans (by kernel_rfl)
noncomputable def code100:Code:=codeOf 100
noncomputable def results100:List ResultVar:=resOf 100
noncomputable def K100_pr:KR:=(cutK (Lv.b (A 100)).c (codeE P cal (codeF P cal k) none 100 (cR (cR code100)) (Lv.b (Lv.b (A 100))) (doneK P results100) X0 (doneK P results100)))
noncomputable def K100_pxrlr:XR:=(upX 0 (K100_pr cal k) X0)
noncomputable def K100_prlrl (m1:Nat):KR:=(fun T H n D=>codeF P cal m1 (Lv.a (Lv.b (Lv.a (Lv.b (A 100))))) none 100 (cL (cR (cL (cR code100)))) (K100_pr cal k) (K100_pxrlr cal k) (doneK P results100) (cutT (Lv.a (Lv.b (Lv.a (Lv.b (A 100))))).c T) H n D)
noncomputable def T100_1 (m1:Nat):=fun(u0 u7 u8 u9:Value) (H:Hp) (n:Nat)=>labK (codeE P cal (codeF P cal m1) none 100 (cL (cL (cR (cL (cR code100))))) (Lv.a (Lv.a (Lv.b (Lv.a (Lv.b (A 100)))))) (K100_prlrl cal k m1) (K100_pxrlr cal k) (doneK P results100)) (Tr.set (Tr.set (Tr.set (Tr.set Tr.nil 9 (some u9)) 8 (some u8)) 7 (some u7)) 0 (some u0)) H n []
noncomputable def R100_1 (m1:Nat):V4:=fun u0 u7 u8 u9 H n=>codeF P cal m1 (Lv.a (Lv.b (Lv.a (Lv.b (A 100))))) none 100 (cL (cR (cL (cR code100)))) (K100_pr cal k) (K100_pxrlr cal k) (doneK P results100) (Tr.set (Tr.set (Tr.set (Tr.set Tr.nil 9 (some u9)) 8 (some u8)) 7 (some u7)) 0 (some u0)) H n []
noncomputable def B100_1 (cal:Cal) (k m1:Nat) (b1:V4) (u0 u7 u8 u9:Value) (H:Hp) (n:Nat):Res:=
binK P BinOp.lss 3 (Operand.tmp 9) (Operand.tmp 8) u9 u8 fun v_5=>
ifK v_5 (
bindO (indexAddrV P 27 u7 u9) fun v_6=>
bindO (addrV v_6) fun a_8=>bindO (loadV P H 3 a_8) fun v_7=>
builtinK P .max [3,3] (Call.mk (Callee.builtin Builtin.max) #[(Operand.tmp 13),(Operand.tmp 14)] #[3,3]) 3 [u0,v_7] H n fun v_c H_d n_e=>
binK P BinOp.add 3 (Operand.tmp 9) (Operand.const (Value.int IntKind.i64 1)) u9 (Value.int IntKind.i64 1) fun v_g=>
b1 v_c u7 u8 v_g H_d n_e) (
some (u0,H,n))
noncomputable def C100_1 (m1:Nat):=B100_1 cal k m1
noncomputable def S100_1:Nat→V4:=recF (C100_1 cal k) (fun _ _ _ _ _ _=>none)
theorem h100_1 (m1:Nat):T100_1 cal k m1=C100_1 cal k m1 (R100_1 cal k m1):=by kernel_rfl
theorem q100_1 (m:Nat):T100_1 cal k m=S100_1 cal k m:=recS (h100_1 cal k) (by kernel_rfl) (fun m=>by kernel_rfl) m
noncomputable def B100_0 (cal:Cal) (k:Nat) (j1:V4) (v0 v1:Value) (H:Hp) (n:Nat):Res:=
bindO (lenV P 27 v1) fun v_3=>
j1 v0 v1 v_3 (Value.int IntKind.i64 0) H n
noncomputable def C100_0:=B100_0 cal k (S100_1 cal k k)
theorem h100_0 (v0 v1:Value) (H:Hp) (n:Nat):bodyE P cal A (k+1) 100 [v0,v1] H n=C100_0 cal k v0 v1 H n:=(bq Go.Proofs.Tryz.f100 code100 results100 (by kernel_rfl)).trans (Eq.trans (b:=B100_0 cal k (T100_1 cal k k) v0 v1 H n) (by kernel_rfl) (by rw[q100_1]; rfl))
noncomputable def code101:Code:=codeOf 101
noncomputable def results101:List ResultVar:=resOf 101
noncomputable def K101_prr:KR:=(cutK (Lv.b (Lv.b (A 101))).c (codeE P cal (codeF P cal k) none 101 (cR (cR (cR code101))) (Lv.b (Lv.b (Lv.b (A 101)))) (doneK P results101) X0 (doneK P results101)))
noncomputable def K101_pxrrl:XR:=(upX 0 (K101_prr cal k) X0)
noncomputable def K101_prrll (m1:Nat):KR:=(fun T H n D=>codeF P cal m1 (Lv.a (Lv.a (Lv.b (Lv.b (A 101))))) none 101 (cL (cL (cR (cR code101)))) (K101_prr cal k) (K101_pxrrl cal k) (doneK P results101) (cutT (Lv.a (Lv.a (Lv.b (Lv.b (A 101))))).c T) H n D)
noncomputable def T101_1 (m1:Nat):=fun(u0 u3:Value) (H:Hp) (n:Nat)=>labK (codeE P cal (codeF P cal m1) none 101 (cL (cL (cL (cR (cR code101))))) (Lv.a (Lv.a (Lv.a (Lv.b (Lv.b (A 101)))))) (K101_prrll cal k m1) (K101_pxrrl cal k) (doneK P results101)) (Tr.set (Tr.set Tr.nil 3 (some u3)) 0 (some u0)) H n []
noncomputable def R101_1 (m1:Nat):V2:=fun u0 u3 H n=>codeF P cal m1 (Lv.a (Lv.a (Lv.b (Lv.b (A 101))))) none 101 (cL (cL (cR (cR code101)))) (K101_prr cal k) (K101_pxrrl cal k) (doneK P results101) (Tr.set (Tr.set Tr.nil 3 (some u3)) 0 (some u0)) H n []
noncomputable def B101_1 (cal:Cal) (k m1:Nat) (b1:V2) (u0 u3:Value) (H:Hp) (n:Nat):Res:=
bindO (nilV u0) fun v_4=>
bindO (fieldAddrV P 159 v_4 0) fun v_5=>
bindO (addrV v_5) fun a_7=>bindO (loadV P H 157 a_7) fun v_6=>
binK P BinOp.neq 157 (Operand.tmp 7) (Operand.const (Value.pointer none)) v_6 (Value.pointer none) fun v_8=>
ifK v_8 (
bindO (nilV u0) fun v_b=>
bindO (fieldAddrV P 159 v_b 1) fun v_c=>
bindO (addrV v_c) fun a_e=>bindO (loadV P H 106 a_e) fun v_d=>
rowK P 98 1 [(0,v_d)] H n fun v_f H_g n_h=>
stK (appendV P (bare H_g n_h) 98 98 u3 v_f) fun v_i H_j n_k=>
bindO (nilV u0) fun v_n=>
bindO (fieldAddrV P 159 v_n 0) fun v_o=>
bindO (addrV v_o) fun a_q=>bindO (loadV P H_j 157 a_q) fun v_p=>
b1 v_p v_i H_j n_k) (
callFK P cal 112 [u3] H n fun v_t H_u n_v=>
some (u3,H_u,n_v))
noncomputable def C101_1 (m1:Nat):=B101_1 cal k m1
noncomputable def S101_1:Nat→V2:=recF (C101_1 cal k) (fun _ _ _ _=>none)
theorem h101_1 (m1:Nat):T101_1 cal k m1=C101_1 cal k m1 (R101_1 cal k m1):=by kernel_rfl
theorem q101_1 (m:Nat):T101_1 cal k m=S101_1 cal k m:=recS (h101_1 cal k) (by kernel_rfl) (fun m=>by kernel_rfl) m
noncomputable def B101_0 (cal:Cal) (k:Nat) (j1:V2) (v0:Value) (H:Hp) (n:Nat):Res:=
j1 v0 (Value.slice none 0 0) H n
noncomputable def C101_0:=B101_0 cal k (S101_1 cal k k)
theorem h101_0 (v0:Value) (H:Hp) (n:Nat):bodyE P cal A (k+1) 101 [v0] H n=C101_0 cal k v0 H n:=(bq Go.Proofs.Tryz.f101 code101 results101 (by kernel_rfl)).trans (Eq.trans (b:=B101_0 cal k (T101_1 cal k k) v0 H n) (by kernel_rfl) (by rw[q101_1]; rfl))
noncomputable def code102:Code:=codeOf 102
noncomputable def results102:List ResultVar:=resOf 102
noncomputable def K102_pr:KR:=(cutK (Lv.b (A 102)).c (codeE P cal (codeF P cal k) none 102 (cR (cR code102)) (Lv.b (Lv.b (A 102))) (doneK P results102) X0 (doneK P results102)))
noncomputable def K102_pxrl:XR:=(upX 0 (K102_pr cal k) X0)
noncomputable def T102_3:=fun(u25:Value) (H:Hp) (n:Nat)=>labK (codeE P cal (codeF P cal k) none 102 (cR (cR (cR (cR (cR (cL (cL (cR code102)))))))) (Lv.b (Lv.b (Lv.b (Lv.b (Lv.b (Lv.a (Lv.a (Lv.b (A 102))))))))) (K102_pr cal k) (K102_pxrl cal k) (doneK P results102)) (Tr.set Tr.nil 25 (some u25)) H n []
noncomputable def T102_2:=fun(u1 u16:Value) (H:Hp) (n:Nat)=>labK (codeE P cal (codeF P cal k) none 102 (cR (cR (cR (cL (cL (cR code102)))))) (Lv.b (Lv.b (Lv.b (Lv.a (Lv.a (Lv.b (A 102))))))) (K102_pr cal k) (K102_pxrl cal k) (doneK P results102)) (Tr.set (Tr.set Tr.nil 16 (some u16)) 1 (some u1)) H n []
noncomputable def T102_1:=fun(u1 u3:Value) (H:Hp) (n:Nat)=>labK (codeE P cal (codeF P cal k) none 102 (cR (cL (cL (cR code102)))) (Lv.b (Lv.a (Lv.a (Lv.b (A 102))))) (K102_pr cal k) (K102_pxrl cal k) (doneK P results102)) (Tr.set (Tr.set Tr.nil 3 (some u3)) 1 (some u1)) H n []
noncomputable def B102_3 (cal:Cal) (k:Nat) (u25:Value) (H:Hp) (n:Nat):Res:=
ifK u25 (
some ((Value.int IntKind.i64 1),H,n)) (
some ((Value.int IntKind.i64 0),H,n))
noncomputable def C102_3:=B102_3 cal k
theorem h102_3:T102_3 cal k=C102_3 cal k:=by kernel_rfl
noncomputable def B102_2 (cal:Cal) (k:Nat) (j3:V1) (u1 u16:Value) (H:Hp) (n:Nat):Res:=
ifK u16 (
some ((Value.int IntKind.i64 1),H,n)) (
bindO (fieldAddrV P 39 u1 0) fun v_9=>
bindO (addrV v_9) fun a_b=>bindO (loadV P H 35 a_b) fun v_a=>
callFK P cal 113 [v_a,(Value.func (.func 114) #[] #[])] H n fun v_c H_d n_e=>
bindO (pureSem P v_c (Op.unary UnOp.not v_c)) fun v_f=>
ifK v_f (
j3 v_f H_d n_e) (
bindO (fieldAddrV P 39 u1 1) fun v_h=>
bindO (addrV v_h) fun a_j=>bindO (loadV P H_d 36 a_j) fun v_i=>
bindO (addrV u1) fun a_l=>bindO (loadV P H_d 39 a_l) fun v_k=>
callFK P cal 115 [v_i,(Value.func (Fn.func 116) ⟨[v_k]⟩ ⟨[]⟩)] H_d n_e fun v_n H_o n_p=>
bindO (pureSem P v_n (Op.unary UnOp.not v_n)) fun v_q=>
ifK v_q (
j3 v_q H_o n_p) (
bindO (fieldAddrV P 39 u1 2) fun v_s=>
bindO (addrV v_s) fun a_u=>bindO (loadV P H_o 37 a_u) fun v_t=>
callFK P cal 117 [v_t,(Value.func (.func 118) #[] #[])] H_o n_p fun v_v H_w n_x=>
bindO (pureSem P v_v (Op.unary UnOp.not v_v)) fun v_y=>
j3 v_y H_w n_x)))
noncomputable def C102_2:=B102_2 cal k (C102_3 cal k)
theorem h102_2:T102_2 cal k=C102_2 cal k:=Eq.trans (b:=B102_2 cal k (T102_3 cal k)) (by kernel_rfl) (by rw[h102_3]; rfl)
noncomputable def B102_1 (cal:Cal) (k:Nat) (j2:V2) (u1 u3:Value) (H:Hp) (n:Nat):Res:=
ifK u3 (
some ((Value.int IntKind.i64 3),H,n)) (
bindO (fieldAddrV P 39 u1 0) fun v_10=>
bindO (addrV v_10) fun a_12=>bindO (loadV P H 35 a_12) fun v_11=>
bindO (lenV P 35 v_11) fun v_13=>
binK P BinOp.eql 3 (Operand.tmp 19) (Operand.const (Value.int IntKind.i64 0)) v_13 (Value.int IntKind.i64 0) fun v_14=>
ifK v_14 (
j2 u1 v_14 H n) (
bindO (fieldAddrV P 39 u1 2) fun v_16=>
bindO (addrV v_16) fun a_18=>bindO (loadV P H 37 a_18) fun v_17=>
bindO (lenV P 37 v_17) fun v_19=>
binK P BinOp.eql 3 (Operand.tmp 23) (Operand.const (Value.int IntKind.i64 0)) v_19 (Value.int IntKind.i64 0) fun v_1a=>
j2 u1 v_1a H n))
noncomputable def C102_1:=B102_1 cal k (C102_2 cal k)
theorem h102_1:T102_1 cal k=C102_1 cal k:=Eq.trans (b:=B102_1 cal k (T102_2 cal k)) (by kernel_rfl) (by rw[h102_2]; rfl)
noncomputable def B102_0 (cal:Cal) (k:Nat) (j1:V2) (v0:Value) (H:Hp) (n:Nat):Res:=
boxK 39 v0 H n fun v_1 H_2 n_3=>
bindO (fieldAddrV P 39 v_1 0) fun v_1c=>
bindO (addrV v_1c) fun a_1e=>bindO (loadV P H_2 35 a_1e) fun v_1d=>
bindO (lenV P 35 v_1d) fun v_1f=>
binK P BinOp.gtr 3 (Operand.tmp 6) (Operand.const (Value.int IntKind.i64 8)) v_1f (Value.int IntKind.i64 8) fun v_1g=>
ifK v_1g (
j1 v_1 v_1g H_2 n_3) (
bindO (fieldAddrV P 39 v_1 1) fun v_1i=>
bindO (addrV v_1i) fun a_1k=>bindO (loadV P H_2 36 a_1k) fun v_1j=>
bindO (lenV P 36 v_1j) fun v_1l=>
binK P BinOp.gtr 3 (Operand.tmp 10) (Operand.const (Value.int IntKind.i64 16)) v_1l (Value.int IntKind.i64 16) fun v_1m=>
ifK v_1m (
j1 v_1 v_1m H_2 n_3) (
bindO (fieldAddrV P 39 v_1 2) fun v_1o=>
bindO (addrV v_1o) fun a_1q=>bindO (loadV P H_2 37 a_1q) fun v_1p=>
bindO (lenV P 37 v_1p) fun v_1r=>
binK P BinOp.gtr 3 (Operand.tmp 14) (Operand.const (Value.int IntKind.i64 3)) v_1r (Value.int IntKind.i64 3) fun v_1s=>
j1 v_1 v_1s H_2 n_3))
noncomputable def C102_0:=B102_0 cal k (C102_1 cal k)
theorem h102_0 (v0:Value) (H:Hp) (n:Nat):bodyE P cal A (k+1) 102 [v0] H n=C102_0 cal k v0 H n:=(bq Go.Proofs.Tryz.f102 code102 results102 (by kernel_rfl)).trans (Eq.trans (b:=B102_0 cal k (T102_1 cal k) v0 H n) (by kernel_rfl) (by rw[h102_1]; rfl))
noncomputable def code103:Code:=codeOf 103
noncomputable def results103:List ResultVar:=resOf 103
noncomputable def K103_pr:KR:=(cutK (Lv.b (A 103)).c (codeE P cal (codeF P cal k) none 103 (cR (cR code103)) (Lv.b (Lv.b (A 103))) (doneK P results103) X0 (doneK P results103)))
noncomputable def K103_pxrlr:XR:=(upX 0 (K103_pr cal k) X0)
noncomputable def K103_prlrl (m1:Nat):KR:=(fun T H n D=>codeF P cal m1 (Lv.a (Lv.b (Lv.a (Lv.b (A 103))))) none 103 (cL (cR (cL (cR code103)))) (K103_pr cal k) (K103_pxrlr cal k) (doneK P results103) (cutT (Lv.a (Lv.b (Lv.a (Lv.b (A 103))))).c T) H n D)
noncomputable def T103_1 (m1:Nat):=fun(u0 u3:Value) (H:Hp) (n:Nat)=>labK (codeE P cal (codeF P cal m1) none 103 (cL (cL (cR (cL (cR code103))))) (Lv.a (Lv.a (Lv.b (Lv.a (Lv.b (A 103)))))) (K103_prlrl cal k m1) (K103_pxrlr cal k) (doneK P results103)) (Tr.set (Tr.set Tr.nil 3 (some u3)) 0 (some u0)) H n []
noncomputable def R103_1 (m1:Nat):V2:=fun u0 u3 H n=>codeF P cal m1 (Lv.a (Lv.b (Lv.a (Lv.b (A 103))))) none 103 (cL (cR (cL (cR code103)))) (K103_pr cal k) (K103_pxrlr cal k) (doneK P results103) (Tr.set (Tr.set Tr.nil 3 (some u3)) 0 (some u0)) H n []
noncomputable def B103_1 (cal:Cal) (k m1:Nat) (b1:V2) (u0 u3:Value) (H:Hp) (n:Nat):Res:=
bindO (lenV P 27 u0) fun v_5=>
binK P BinOp.lss 3 (Operand.tmp 4) (Operand.tmp 6) u3 v_5 fun v_6=>
ifK v_6 (
bindO (indexAddrV P 27 u0 u3) fun v_9=>
bindO (addrV v_9) fun a_a=>bindO (loadV P H 3 a_a) fun v_b=>
binK P BinOp.sub 3 (Operand.tmp 15) (Operand.const (Value.int IntKind.i64 1)) u3 (Value.int IntKind.i64 1) fun v_e=>
bindO (indexAddrV P 27 u0 v_e) fun v_f=>
bindO (addrV v_f) fun a_g=>bindO (loadV P H 3 a_g) fun v_h=>
binK P BinOp.leq 3 (Operand.tmp 13) (Operand.tmp 18) v_b v_h fun v_i=>
ifK v_i (
some ((Value.bool false),H,n)) (
binK P BinOp.add 3 (Operand.tmp 8) (Operand.const (Value.int IntKind.i64 1)) u3 (Value.int IntKind.i64 1) fun v_l=>
b1 u0 v_l H n)) (
some ((Value.bool true),H,n))
noncomputable def C103_1 (m1:Nat):=B103_1 cal k m1
noncomputable def S103_1:Nat→V2:=recF (C103_1 cal k) (fun _ _ _ _=>none)
theorem h103_1 (m1:Nat):T103_1 cal k m1=C103_1 cal k m1 (R103_1 cal k m1):=by kernel_rfl
theorem q103_1 (m:Nat):T103_1 cal k m=S103_1 cal k m:=recS (h103_1 cal k) (by kernel_rfl) (fun m=>by kernel_rfl) m
noncomputable def B103_0 (cal:Cal) (k:Nat) (j1:V2) (v0:Value) (H:Hp) (n:Nat):Res:=
j1 v0 (Value.int IntKind.i64 1) H n
noncomputable def C103_0:=B103_0 cal k (S103_1 cal k k)
theorem h103_0 (v0:Value) (H:Hp) (n:Nat):bodyE P cal A (k+1) 103 [v0] H n=C103_0 cal k v0 H n:=(bq Go.Proofs.Tryz.f103 code103 results103 (by kernel_rfl)).trans (Eq.trans (b:=B103_0 cal k (T103_1 cal k k) v0 H n) (by kernel_rfl) (by rw[q103_1]; rfl))
noncomputable def code104:Code:=codeOf 104
noncomputable def results104:List ResultVar:=resOf 104
noncomputable def B104_0 (cal:Cal) (k:Nat) (v0 v1:Value) (H:Hp) (n:Nat):Res:=
boxK 97 v0 H n fun v_1 H_2 n_3=>
boxK 106 v1 H_2 n_3 fun v_4 H_5 n_6=>
some ((Value.func (Fn.func 119) ⟨[]⟩ ⟨[v_1,v_4]⟩),H_5,n_6)
noncomputable def C104_0:=B104_0 cal k
theorem h104_0 (v0 v1:Value) (H:Hp) (n:Nat):bodyE P cal A (k+1) 104 [v0,v1] H n=C104_0 cal k v0 v1 H n:=(bq Go.Proofs.Tryz.f104 code104 results104 (by kernel_rfl)).trans (by kernel_rfl)
noncomputable def code106:Code:=codeOf 106
noncomputable def results106:List ResultVar:=resOf 106
noncomputable def B106_0 (cal:Cal) (k:Nat) (v0:Value) (H:Hp) (n:Nat):Res:=
boxK 98 v0 H n fun v_1 H_2 n_3=>
some ((Value.func (Fn.func 120) ⟨[]⟩ ⟨[v_1]⟩),H_2,n_3)
noncomputable def C106_0:=B106_0 cal k
theorem h106_0 (v0:Value) (H:Hp) (n:Nat):bodyE P cal A (k+1) 106 [v0] H n=C106_0 cal k v0 H n:=(bq Go.Proofs.Tryz.f106 code106 results106 (by kernel_rfl)).trans (by kernel_rfl)
noncomputable def code107:Code:=codeOf 107
noncomputable def results107:List ResultVar:=resOf 107
noncomputable def B107_0 (cal:Cal) (k:Nat) (v0:Value) (H:Hp) (n:Nat):Res:=
binK P BinOp.neq 3 (Operand.tmp 3) (Operand.tmp 4) v0 v0 fun v_4=>
some (v_4,H,n)
noncomputable def C107_0:=B107_0 cal k
theorem h107_0 (v0:Value) (H:Hp) (n:Nat):bodyE P cal A (k+1) 107 [v0] H n=C107_0 cal k v0 H n:=(bq Go.Proofs.Tryz.f107 code107 results107 (by kernel_rfl)).trans (by kernel_rfl)
noncomputable def code108:Code:=codeOf 108
noncomputable def results108:List ResultVar:=resOf 108
noncomputable def B108_0 (cal:Cal) (k:Nat) (v0 v1:Value) (H:Hp) (n:Nat):Res:=
bindO (lenV P 98 v0) fun v_2=>
bindO (pureSem P v_2 (convert 3 80 v_2)) fun v_7=>
callFK P cal 122 [v_7] H n fun v_8 H_9 n_a=>
callFK P cal 121 [v0,(Value.int IntKind.i64 0),v_2,v_8,v1] H_9 n_a fun v_c H_d n_e=>
some ((Value.tuple ⟨[]⟩),H_d,n_e)
noncomputable def C108_0:=B108_0 cal k
theorem h108_0 (v0 v1:Value) (H:Hp) (n:Nat):bodyE P cal A (k+1) 108 [v0,v1] H n=C108_0 cal k v0 v1 H n:=(bq Go.Proofs.Tryz.f108 code108 results108 (by kernel_rfl)).trans (by kernel_rfl)
noncomputable def code109:Code:=codeOf 109
noncomputable def results109:List ResultVar:=resOf 109
noncomputable def B109_0 (cal:Cal) (k:Nat) (H:Hp) (n:Nat):Res:=
allocK P 173 H n fun v_1 H_2 n_3=>
bindO (buildP P 173 [(0,(Value.func (.func 123) #[] #[])),(1,(Value.func (.func 124) #[] #[]))]) fun v_4=>
bindO (storeP P 173 v_1 v_4 H_2) fun H_6=>
bindO (resV P (Tr.set Tr.nil 0 (some v_1)) H_6 results109) fun v_7=>some (oneV v_7,H_6,n_3)
noncomputable def C109_0:=B109_0 cal k 
theorem h109_0 (H:Hp) (n:Nat):bodyE P cal A (k+1) 109 [] H n=C109_0 cal k  H n:=(bq Go.Proofs.Tryz.f109 code109 results109 (by kernel_rfl)).trans (by kernel_rfl)
noncomputable def code110:Code:=codeOf 110
noncomputable def results110:List ResultVar:=resOf 110
noncomputable def B110_0 (cal:Cal) (k:Nat) (v0 v1 v2:Value) (H:Hp) (n:Nat):Res:=
boxK 173 v0 H n fun v_1 H_2 n_3=>
bindO (fieldAddrV P 173 v_1 0) fun v_5=>
bindO (addrV v_5) fun a_6=>bindO (loadV P H_2 171 a_6) fun v_7=>
bindO (fieldAddrV P 173 v_1 1) fun v_a=>
bindO (addrV v_a) fun a_b=>bindO (loadV P H_2 171 a_b) fun v_c=>
effK P [(.l 171 a_b)] H_2 n_3 (fun H_f n_g k_h=>
callVK P cal v_7 [v1,v2] H_f n_g fun v_l H_m n_n=>
k_h v_l H_m n_n) fun v_i H_j n_k=>
callVK P cal v_c [v1,v2] H_j n_k fun v_o H_p n_q=>
bindO (rowOf P 27 2 [(0,v_i),(1,v_o)]) fun q_t=>newK q_t.1 q_t.2 H_p n_q fun H_r n_s=>
callFK P cal 125 [(.slice (some ⟨n_q,0,none⟩) 2 2)] H_r n_s fun v_u H_v n_w=>
some (v_u,H_v,n_w)
noncomputable def C110_0:=B110_0 cal k
theorem h110_0 (v0 v1 v2:Value) (H:Hp) (n:Nat):bodyE P cal A (k+1) 110 [v0,v1,v2] H n=C110_0 cal k v0 v1 v2 H n:=(bq Go.Proofs.Tryz.f110 code110 results110 (by kernel_rfl)).trans (by kernel_rfl)
noncomputable def code111:Code:=codeOf 111
noncomputable def results111:List ResultVar:=resOf 111
noncomputable def B111_0 (cal:Cal) (k:Nat) (v0:Value) (H:Hp) (n:Nat):Res:=
ifK (Value.bool false) (
bindO (pureSem P v0 (convert 80 187 v0)) fun v_3=>
callFK P cal 126 [v_3] H n fun v_4 H_5 n_6=>
some (v_4,H_5,n_6)) (
callFK P cal 127 [v0] H n fun v_9 H_a n_b=>
some (v_9,H_a,n_b))
noncomputable def C111_0:=B111_0 cal k
theorem h111_0 (v0:Value) (H:Hp) (n:Nat):bodyE P cal A (k+1) 111 [v0] H n=C111_0 cal k v0 H n:=(bq Go.Proofs.Tryz.f111 code111 results111 (by kernel_rfl)).trans (by kernel_rfl)
noncomputable def code112:Code:=codeOf 112
noncomputable def results112:List ResultVar:=resOf 112
noncomputable def K112_pxr (cal:Cal) (k:Nat):XR:=(upX 0 (doneK P results112) X0)
noncomputable def K112_prl (m1:Nat):KR:=(fun T H n D=>codeF P cal m1 (Lv.a (Lv.b (A 112))) none 112 (cL (cR code112)) (doneK P results112) (K112_pxr cal k) (doneK P results112) (cutT (Lv.a (Lv.b (A 112))).c T) H n D)
noncomputable def T112_1 (m1:Nat):=fun(u0 u2 u3:Value) (H:Hp) (n:Nat)=>labK (codeE P cal (codeF P cal m1) none 112 (cL (cL (cR code112))) (Lv.a (Lv.a (Lv.b (A 112)))) (K112_prl cal k m1) (K112_pxr cal k) (doneK P results112)) (Tr.set (Tr.set (Tr.set Tr.nil 3 (some u3)) 2 (some u2)) 0 (some u0)) H n []
noncomputable def R112_1 (m1:Nat):V3:=fun u0 u2 u3 H n=>codeF P cal m1 (Lv.a (Lv.b (A 112))) none 112 (cL (cR code112)) (doneK P results112) (K112_pxr cal k) (doneK P results112) (Tr.set (Tr.set (Tr.set Tr.nil 3 (some u3)) 2 (some u2)) 0 (some u0)) H n []
noncomputable def B112_1 (cal:Cal) (k m1:Nat) (b1:V3) (u0 u2 u3:Value) (H:Hp) (n:Nat):Res:=
binK P BinOp.lss 3 (Operand.tmp 7) (Operand.tmp 8) u2 u3 fun v_8=>
ifK v_8 (
bindO (indexAddrV P 98 u0 u3) fun v_f=>
bindO (addrV v_f) fun a_g=>bindO (loadV P H 106 a_g) fun v_h=>
bindO (indexAddrV P 98 u0 u2) fun v_k=>
bindO (addrV v_k) fun a_l=>bindO (loadV P H 106 a_l) fun v_m=>
bindO (indexAddrV P 98 u0 u2) fun v_n=>
bindO (storeP P 106 v_n v_h H) fun H_p=>
bindO (indexAddrV P 98 u0 u3) fun v_q=>
bindO (storeP P 106 v_q v_m H_p) fun H_s=>
binK P BinOp.add 3 (Operand.tmp 10) (Operand.const (Value.int IntKind.i64 1)) u2 (Value.int IntKind.i64 1) fun v_u=>
binK P BinOp.sub 3 (Operand.tmp 12) (Operand.const (Value.int IntKind.i64 1)) u3 (Value.int IntKind.i64 1) fun v_w=>
b1 u0 v_u v_w H_s n) (
some ((Value.tuple ⟨[]⟩),H,n))
noncomputable def C112_1 (m1:Nat):=B112_1 cal k m1
noncomputable def S112_1:Nat→V3:=recF (C112_1 cal k) (fun _ _ _ _ _=>none)
theorem h112_1 (m1:Nat):T112_1 cal k m1=C112_1 cal k m1 (R112_1 cal k m1):=by kernel_rfl
theorem q112_1 (m:Nat):T112_1 cal k m=S112_1 cal k m:=recS (h112_1 cal k) (by kernel_rfl) (fun m=>by kernel_rfl) m
noncomputable def B112_0 (cal:Cal) (k:Nat) (j1:V3) (v0:Value) (H:Hp) (n:Nat):Res:=
bindO (lenV P 98 v0) fun v_2=>
binK P BinOp.sub 3 (Operand.tmp 5) (Operand.const (Value.int IntKind.i64 1)) v_2 (Value.int IntKind.i64 1) fun v_3=>
j1 v0 (Value.int IntKind.i64 0) v_3 H n
noncomputable def C112_0:=B112_0 cal k (S112_1 cal k k)
theorem h112_0 (v0:Value) (H:Hp) (n:Nat):bodyE P cal A (k+1) 112 [v0] H n=C112_0 cal k v0 H n:=(bq Go.Proofs.Tryz.f112 code112 results112 (by kernel_rfl)).trans (Eq.trans (b:=B112_0 cal k (T112_1 cal k k) v0 H n) (by kernel_rfl) (by rw[q112_1]; rfl))
end Go.Proofs.YtnnkcjolgbpklaaGreat.G
end
end
section
open Go Go.Ev
set_option maxRecDepth 1000000
noncomputable section
namespace Go.Proofs.YtnnkcjolgbpklaaGreat.G
variable (cal:Cal) (k:Nat)
noncomputable def code113:Code:=codeOf 113
noncomputable def results113:List ResultVar:=resOf 113
noncomputable def K113_pr:KR:=(cutK (Lv.b (A 113)).c (codeE P cal (codeF P cal k) none 113 (cR (cR code113)) (Lv.b (Lv.b (A 113))) (doneK P results113) X0 (doneK P results113)))
noncomputable def K113_pxrlr:XR:=(upX 0 (K113_pr cal k) X0)
noncomputable def K113_prlrl (m1:Nat):KR:=(fun T H n D=>codeF P cal m1 (Lv.a (Lv.b (Lv.a (Lv.b (A 113))))) none 113 (cL (cR (cL (cR code113)))) (K113_pr cal k) (K113_pxrlr cal k) (doneK P results113) (cutT (Lv.a (Lv.b (Lv.a (Lv.b (A 113))))).c T) H n D)
noncomputable def T113_1 (m1:Nat):=fun(u1 u7 u8 u9:Value) (H:Hp) (n:Nat)=>labK (codeE P cal (codeF P cal m1) none 113 (cL (cL (cR (cL (cR code113))))) (Lv.a (Lv.a (Lv.b (Lv.a (Lv.b (A 113)))))) (K113_prlrl cal k m1) (K113_pxrlr cal k) (doneK P results113)) (Tr.set (Tr.set (Tr.set (Tr.set Tr.nil 9 (some u9)) 8 (some u8)) 7 (some u7)) 1 (some u1)) H n []
noncomputable def R113_1 (m1:Nat):V4:=fun u1 u7 u8 u9 H n=>codeF P cal m1 (Lv.a (Lv.b (Lv.a (Lv.b (A 113))))) none 113 (cL (cR (cL (cR code113)))) (K113_pr cal k) (K113_pxrlr cal k) (doneK P results113) (Tr.set (Tr.set (Tr.set (Tr.set Tr.nil 9 (some u9)) 8 (some u8)) 7 (some u7)) 1 (some u1)) H n []
noncomputable def B113_1 (cal:Cal) (k m1:Nat) (b1:V4) (u1 u7 u8 u9:Value) (H:Hp) (n:Nat):Res:=
binK P BinOp.lss 3 (Operand.tmp 9) (Operand.tmp 8) u9 u8 fun v_5=>
ifK v_5 (
bindO (indexAddrV P 35 u7 u9) fun v_6=>
bindO (addrV v_6) fun a_8=>bindO (loadV P H 130 a_8) fun v_7=>
allocK P 130 H n fun v_9 H_a n_b=>
bindO (storeP P 130 v_9 v_7 H_a) fun H_d=>
bindO (addrV v_9) fun a_g=>bindO (loadV P H_d 130 a_g) fun v_f=>
callVK P cal u1 [v_f] H_d n_b fun v_h H_i n_j=>
bindO (pureSem P v_h (Op.unary UnOp.not v_h)) fun v_k=>
ifK v_k (
some ((Value.bool false),H_i,n_j)) (
binK P BinOp.add 3 (Operand.tmp 9) (Operand.const (Value.int IntKind.i64 1)) u9 (Value.int IntKind.i64 1) fun v_m=>
b1 u1 u7 u8 v_m H_i n_j)) (
some ((Value.bool true),H,n))
noncomputable def C113_1 (m1:Nat):=B113_1 cal k m1
noncomputable def S113_1:Nat→V4:=recF (C113_1 cal k) (fun _ _ _ _ _ _=>none)
theorem h113_1 (m1:Nat):T113_1 cal k m1=C113_1 cal k m1 (R113_1 cal k m1):=by kernel_rfl
theorem q113_1 (m:Nat):T113_1 cal k m=S113_1 cal k m:=recS (h113_1 cal k) (by kernel_rfl) (fun m=>by kernel_rfl) m
noncomputable def B113_0 (cal:Cal) (k:Nat) (j1:V4) (v0 v1:Value) (H:Hp) (n:Nat):Res:=
bindO (lenV P 35 v0) fun v_3=>
j1 v1 v0 v_3 (Value.int IntKind.i64 0) H n
noncomputable def C113_0:=B113_0 cal k (S113_1 cal k k)
theorem h113_0 (v0 v1:Value) (H:Hp) (n:Nat):bodyE P cal A (k+1) 113 [v0,v1] H n=C113_0 cal k v0 v1 H n:=(bq Go.Proofs.Tryz.f113 code113 results113 (by kernel_rfl)).trans (Eq.trans (b:=B113_0 cal k (T113_1 cal k k) v0 v1 H n) (by kernel_rfl) (by rw[q113_1]; rfl))
noncomputable def code114:Code:=codeOf 114
noncomputable def results114:List ResultVar:=resOf 114
noncomputable def B114_0 (cal:Cal) (k:Nat) (v0:Value) (H:Hp) (n:Nat):Res:=
boxK 130 v0 H n fun v_1 H_2 n_3=>
bindO (fieldAddrV P 130 v_1 0) fun v_5=>
bindO (addrV v_5) fun a_7=>bindO (loadV P H_2 3 a_7) fun v_6=>
binK P BinOp.geq 3 (Operand.tmp 4) (Operand.const (Value.int IntKind.i64 0)) v_6 (Value.int IntKind.i64 0) fun v_8=>
guardK v_8 true (fun k_a=>
bindO (fieldAddrV P 130 v_1 0) fun v_e=>
k_a v_e H_2 n_3) H_2 n_3 fun v_b H_c n_d=>
guardK v_8 true (fun k_f=>
bindO (addrV v_b) fun a_k=>bindO (loadV P H_c 3 a_k) fun v_j=>
k_f v_j H_c n_d) H_c n_d fun v_g H_h n_i=>
guardK v_8 true (fun k_l=>
bindO (fieldAddrV P 130 v_1 1) fun v_p=>
k_l v_p H_h n_i) H_h n_i fun v_m H_n n_o=>
guardK v_8 true (fun k_q=>
bindO (addrV v_m) fun a_v=>bindO (loadV P H_n 3 a_v) fun v_u=>
k_q v_u H_n n_o) H_n n_o fun v_r H_s n_t=>
guardK v_8 true (fun k_w=>
binK P BinOp.leq 3 (Operand.tmp 8) (Operand.tmp 10) v_g v_r fun v_10=>
k_w v_10 H_s n_t) H_s n_t fun v_x H_y n_z=>
bindO (pickV v_8 v_x (Value.bool false)) fun v_11=>
guardK v_11 true (fun k_13=>
bindO (fieldAddrV P 130 v_1 1) fun v_17=>
k_13 v_17 H_y n_z) H_y n_z fun v_14 H_15 n_16=>
guardK v_11 true (fun k_18=>
bindO (addrV v_14) fun a_1d=>bindO (loadV P H_15 3 a_1d) fun v_1c=>
k_18 v_1c H_15 n_16) H_15 n_16 fun v_19 H_1a n_1b=>
guardK v_11 true (fun k_1e=>
binK P BinOp.leq 3 (Operand.tmp 15) (Operand.const (Value.int IntKind.i64 1000)) v_19 (Value.int IntKind.i64 1000) fun v_1i=>
k_1e v_1i H_1a n_1b) H_1a n_1b fun v_1f H_1g n_1h=>
bindO (pickV v_11 v_1f (Value.bool false)) fun v_1j=>
some (v_1j,H_1g,n_1h)
noncomputable def C114_0:=B114_0 cal k
theorem h114_0 (v0:Value) (H:Hp) (n:Nat):bodyE P cal A (k+1) 114 [v0] H n=C114_0 cal k v0 H n:=(bq Go.Proofs.Tryz.f114 code114 results114 (by kernel_rfl)).trans (by kernel_rfl)
noncomputable def code115:Code:=codeOf 115
noncomputable def results115:List ResultVar:=resOf 115
noncomputable def K115_pr:KR:=(cutK (Lv.b (A 115)).c (codeE P cal (codeF P cal k) none 115 (cR (cR code115)) (Lv.b (Lv.b (A 115))) (doneK P results115) X0 (doneK P results115)))
noncomputable def K115_pxrlr:XR:=(upX 0 (K115_pr cal k) X0)
noncomputable def K115_prlrl (m1:Nat):KR:=(fun T H n D=>codeF P cal m1 (Lv.a (Lv.b (Lv.a (Lv.b (A 115))))) none 115 (cL (cR (cL (cR code115)))) (K115_pr cal k) (K115_pxrlr cal k) (doneK P results115) (cutT (Lv.a (Lv.b (Lv.a (Lv.b (A 115))))).c T) H n D)
noncomputable def T115_1 (m1:Nat):=fun(u1 u7 u8 u9:Value) (H:Hp) (n:Nat)=>labK (codeE P cal (codeF P cal m1) none 115 (cL (cL (cR (cL (cR code115))))) (Lv.a (Lv.a (Lv.b (Lv.a (Lv.b (A 115)))))) (K115_prlrl cal k m1) (K115_pxrlr cal k) (doneK P results115)) (Tr.set (Tr.set (Tr.set (Tr.set Tr.nil 9 (some u9)) 8 (some u8)) 7 (some u7)) 1 (some u1)) H n []
noncomputable def R115_1 (m1:Nat):V4:=fun u1 u7 u8 u9 H n=>codeF P cal m1 (Lv.a (Lv.b (Lv.a (Lv.b (A 115))))) none 115 (cL (cR (cL (cR code115)))) (K115_pr cal k) (K115_pxrlr cal k) (doneK P results115) (Tr.set (Tr.set (Tr.set (Tr.set Tr.nil 9 (some u9)) 8 (some u8)) 7 (some u7)) 1 (some u1)) H n []
noncomputable def B115_1 (cal:Cal) (k m1:Nat) (b1:V4) (u1 u7 u8 u9:Value) (H:Hp) (n:Nat):Res:=
binK P BinOp.lss 3 (Operand.tmp 9) (Operand.tmp 8) u9 u8 fun v_5=>
ifK v_5 (
bindO (indexAddrV P 36 u7 u9) fun v_6=>
bindO (addrV v_6) fun a_8=>bindO (loadV P H 131 a_8) fun v_7=>
allocK P 131 H n fun v_9 H_a n_b=>
bindO (storeP P 131 v_9 v_7 H_a) fun H_d=>
bindO (addrV v_9) fun a_g=>bindO (loadV P H_d 131 a_g) fun v_f=>
callVK P cal u1 [v_f] H_d n_b fun v_h H_i n_j=>
bindO (pureSem P v_h (Op.unary UnOp.not v_h)) fun v_k=>
ifK v_k (
some ((Value.bool false),H_i,n_j)) (
binK P BinOp.add 3 (Operand.tmp 9) (Operand.const (Value.int IntKind.i64 1)) u9 (Value.int IntKind.i64 1) fun v_m=>
b1 u1 u7 u8 v_m H_i n_j)) (
some ((Value.bool true),H,n))
noncomputable def C115_1 (m1:Nat):=B115_1 cal k m1
noncomputable def S115_1:Nat→V4:=recF (C115_1 cal k) (fun _ _ _ _ _ _=>none)
theorem h115_1 (m1:Nat):T115_1 cal k m1=C115_1 cal k m1 (R115_1 cal k m1):=by kernel_rfl
theorem q115_1 (m:Nat):T115_1 cal k m=S115_1 cal k m:=recS (h115_1 cal k) (by kernel_rfl) (fun m=>by kernel_rfl) m
noncomputable def B115_0 (cal:Cal) (k:Nat) (j1:V4) (v0 v1:Value) (H:Hp) (n:Nat):Res:=
bindO (lenV P 36 v0) fun v_3=>
j1 v1 v0 v_3 (Value.int IntKind.i64 0) H n
noncomputable def C115_0:=B115_0 cal k (S115_1 cal k k)
theorem h115_0 (v0 v1:Value) (H:Hp) (n:Nat):bodyE P cal A (k+1) 115 [v0,v1] H n=C115_0 cal k v0 v1 H n:=(bq Go.Proofs.Tryz.f115 code115 results115 (by kernel_rfl)).trans (Eq.trans (b:=B115_0 cal k (T115_1 cal k k) v0 v1 H n) (by kernel_rfl) (by rw[q115_1]; rfl))
noncomputable def code116:Code:=codeOf 116
noncomputable def results116:List ResultVar:=resOf 116
noncomputable def K116_prr:KR:=(cutK (Lv.b (Lv.b (A 116))).c (codeE P cal (codeF P cal k) none 116 (cR (cR (cR code116))) (Lv.b (Lv.b (Lv.b (A 116)))) (doneK P results116) X0 (doneK P results116)))
noncomputable def K116_pxrrlr:XR:=(upX 0 (K116_prr cal k) X0)
noncomputable def K116_prrlrl (m1:Nat):KR:=(fun T H n D=>codeF P cal m1 (Lv.a (Lv.b (Lv.a (Lv.b (Lv.b (A 116)))))) none 116 (cL (cR (cL (cR (cR code116))))) (K116_prr cal k) (K116_pxrrlr cal k) (doneK P results116) (cutT (Lv.a (Lv.b (Lv.a (Lv.b (Lv.b (A 116)))))).c T) H n D)
noncomputable def K116_prrlrllrr (m1:Nat):KR:=(cutK (Lv.b (Lv.b (Lv.a (Lv.a (Lv.b (Lv.a (Lv.b (Lv.b (A 116))))))))).c (codeE P cal (codeF P cal m1) none 116 (cR (cR (cR (cL (cL (cR (cL (cR (cR code116))))))))) (Lv.b (Lv.b (Lv.b (Lv.a (Lv.a (Lv.b (Lv.a (Lv.b (Lv.b (A 116)))))))))) (K116_prrlrl cal k m1) (K116_pxrrlr cal k) (doneK P results116)))
noncomputable def K116_pxrrlrllrrl (m1:Nat):XR:=(upX 1 (K116_prrlrllrr cal k m1) (K116_pxrrlr cal k))
noncomputable def T116_2 (m1:Nat):=fun(u2 u3 u5 u9 u10 u11:Value) (H:Hp) (n:Nat)=>labK (codeE P cal (codeF P cal m1) none 116 (cR (cR (cR (cL (cL (cR (cL (cR (cR code116))))))))) (Lv.b (Lv.b (Lv.b (Lv.a (Lv.a (Lv.b (Lv.a (Lv.b (Lv.b (A 116)))))))))) (K116_prrlrl cal k m1) (K116_pxrrlr cal k) (doneK P results116)) (Tr.set (Tr.set (Tr.set (Tr.set (Tr.set (Tr.set Tr.nil 11 (some u11)) 10 (some u10)) 9 (some u9)) 5 (some u5)) 3 (some u3)) 2 (some u2)) H n []
noncomputable def T116_1 (m1:Nat):=fun(u2 u3 u5 u9 u10 u11:Value) (H:Hp) (n:Nat)=>labK (codeE P cal (codeF P cal m1) none 116 (cL (cL (cR (cL (cR (cR code116)))))) (Lv.a (Lv.a (Lv.b (Lv.a (Lv.b (Lv.b (A 116))))))) (K116_prrlrl cal k m1) (K116_pxrrlr cal k) (doneK P results116)) (Tr.set (Tr.set (Tr.set (Tr.set (Tr.set (Tr.set Tr.nil 11 (some u11)) 10 (some u10)) 9 (some u9)) 5 (some u5)) 3 (some u3)) 2 (some u2)) H n []
noncomputable def R116_1 (m1:Nat):V6:=fun u2 u3 u5 u9 u10 u11 H n=>codeF P cal m1 (Lv.a (Lv.b (Lv.a (Lv.b (Lv.b (A 116)))))) none 116 (cL (cR (cL (cR (cR code116))))) (K116_prr cal k) (K116_pxrrlr cal k) (doneK P results116) (Tr.set (Tr.set (Tr.set (Tr.set (Tr.set (Tr.set Tr.nil 11 (some u11)) 10 (some u10)) 9 (some u9)) 5 (some u5)) 3 (some u3)) 2 (some u2)) H n []
noncomputable def B116_2 (cal:Cal) (k m1:Nat) (b1:V6) (u2 u3 u5 u9 u10 u11:Value) (H:Hp) (n:Nat):Res:=
binK P BinOp.add 3 (Operand.tmp 11) (Operand.const (Value.int IntKind.i64 1)) u11 (Value.int IntKind.i64 1) fun v_f=>
b1 u2 u3 u5 u9 u10 v_f H n
noncomputable def C116_2 (m1:Nat):=B116_2 cal k m1
theorem h116_2 (m1:Nat):T116_2 cal k m1=C116_2 cal k m1 (R116_1 cal k m1):=by kernel_rfl
noncomputable def B116_1 (cal:Cal) (k m1:Nat) (j2:V6) (b1:V6) (u2 u3 u5 u9 u10 u11:Value) (H:Hp) (n:Nat):Res:=
binK P BinOp.lss 3 (Operand.tmp 11) (Operand.tmp 10) u11 u10 fun v_e=>
ifK v_e (
bindO (indexAddrV P 36 u9 u11) fun v_h=>
bindO (addrV v_h) fun a_j=>bindO (loadV P H 131 a_j) fun v_i=>
allocK P 131 H n fun v_k H_l n_m=>
bindO (storeP P 131 v_k v_i H_l) fun H_o=>
bindO (addrV v_k) fun a_q=>bindO (loadV P H_o 131 a_q) fun v_p=>
bindO (addrV u3) fun a_s=>bindO (loadV P H_o 131 a_s) fun v_r=>
binK P BinOp.eql 131 (Operand.tmp 15) (Operand.tmp 16) v_p v_r fun v_t=>
guardK v_t false (fun k_v=>
bindO (addrV v_k) fun a_10=>bindO (loadV P H_o 131 a_10) fun v_z=>
k_v v_z H_o n_m) H_o n_m fun v_w H_x n_y=>
guardK v_t false (fun k_11=>
bindO (fieldAddrV P 131 u3 1) fun v_15=>
k_11 v_15 H_x n_y) H_x n_y fun v_12 H_13 n_14=>
guardK v_t false (fun k_16=>
bindO (addrV v_12) fun a_1b=>bindO (loadV P H_13 3 a_1b) fun v_1a=>
k_16 v_1a H_13 n_14) H_13 n_14 fun v_17 H_18 n_19=>
guardK v_t false (fun k_1c=>
bindO (fieldAddrV P 131 u3 0) fun v_1g=>
k_1c v_1g H_18 n_19) H_18 n_19 fun v_1d H_1e n_1f=>
guardK v_t false (fun k_1h=>
bindO (addrV v_1d) fun a_1m=>bindO (loadV P H_1e 3 a_1m) fun v_1l=>
k_1h v_1l H_1e n_1f) H_1e n_1f fun v_1i H_1j n_1k=>
guardK v_t false (fun k_1n=>
bindO (buildP P 131 [(0,v_17),(1,v_1i)]) fun v_1r=>
k_1n v_1r H_1j n_1k) H_1j n_1k fun v_1o H_1p n_1q=>
guardK v_t false (fun k_1s=>
binK P BinOp.eql 131 (Operand.tmp 19) (Operand.tmp 24) v_w v_1o fun v_1w=>
k_1s v_1w H_1p n_1q) H_1p n_1q fun v_1t H_1u n_1v=>
bindO (pickV v_t (Value.bool true) v_1t) fun v_1x=>
ifK v_1x (
binK P BinOp.add 3 (Operand.tmp 27) (Operand.const (Value.int IntKind.i64 1)) u5 (Value.int IntKind.i64 1) fun v_1z=>
j2 u2 u3 v_1z u9 u10 u11 H_1u n_1v) (
j2 u2 u3 u5 u9 u10 u11 H_1u n_1v)) (
bindO (addrV u2) fun a_22=>bindO (loadV P H 39 a_22) fun v_21=>
bindO (fieldAddrV P 131 u3 0) fun v_23=>
bindO (addrV v_23) fun a_25=>bindO (loadV P H 3 a_25) fun v_24=>
callFK P cal 128 [v_21,v_24] H n fun v_26 H_27 n_28=>
guardK v_26 true (fun k_2a=>
bindO (addrV u2) fun a_2f=>bindO (loadV P H_27 39 a_2f) fun v_2e=>
k_2a v_2e H_27 n_28) H_27 n_28 fun v_2b H_2c n_2d=>
guardK v_26 true (fun k_2g=>
bindO (fieldAddrV P 131 u3 1) fun v_2k=>
k_2g v_2k H_2c n_2d) H_2c n_2d fun v_2h H_2i n_2j=>
guardK v_26 true (fun k_2l=>
bindO (addrV v_2h) fun a_2q=>bindO (loadV P H_2i 3 a_2q) fun v_2p=>
k_2l v_2p H_2i n_2j) H_2i n_2j fun v_2m H_2n n_2o=>
guardK v_26 true (fun k_2r=>
callFK P cal 128 [v_2b,v_2m] H_2n n_2o fun v_2v H_2w n_2x=>
k_2r v_2v H_2w n_2x) H_2n n_2o fun v_2s H_2t n_2u=>
bindO (pickV v_26 v_2s (Value.bool false)) fun v_2y=>
guardK v_2y true (fun k_30=>
bindO (fieldAddrV P 131 u3 0) fun v_34=>
k_30 v_34 H_2t n_2u) H_2t n_2u fun v_31 H_32 n_33=>
guardK v_2y true (fun k_35=>
bindO (addrV v_31) fun a_3a=>bindO (loadV P H_32 3 a_3a) fun v_39=>
k_35 v_39 H_32 n_33) H_32 n_33 fun v_36 H_37 n_38=>
guardK v_2y true (fun k_3b=>
bindO (fieldAddrV P 131 u3 1) fun v_3f=>
k_3b v_3f H_37 n_38) H_37 n_38 fun v_3c H_3d n_3e=>
guardK v_2y true (fun k_3g=>
bindO (addrV v_3c) fun a_3l=>bindO (loadV P H_3d 3 a_3l) fun v_3k=>
k_3g v_3k H_3d n_3e) H_3d n_3e fun v_3h H_3i n_3j=>
guardK v_2y true (fun k_3m=>
binK P BinOp.neq 3 (Operand.tmp 42) (Operand.tmp 44) v_36 v_3h fun v_3q=>
k_3m v_3q H_3i n_3j) H_3i n_3j fun v_3n H_3o n_3p=>
bindO (pickV v_2y v_3n (Value.bool false)) fun v_3r=>
guardK v_3r true (fun k_3t=>
k_3t u5 H_3o n_3p) H_3o n_3p fun v_3u H_3v n_3w=>
guardK v_3r true (fun k_3y=>
binK P BinOp.eql 3 (Operand.tmp 48) (Operand.const (Value.int IntKind.i64 1)) v_3u (Value.int IntKind.i64 1) fun v_42=>
k_3y v_42 H_3v n_3w) H_3v n_3w fun v_3z H_40 n_41=>
bindO (pickV v_3r v_3z (Value.bool false)) fun v_43=>
some (v_43,H_40,n_41))
noncomputable def C116_1 (m1:Nat) (b1:V6):=B116_1 cal k m1 (C116_2 cal k m1 b1) b1
noncomputable def S116_1:Nat→V6:=recF (C116_1 cal k) (fun _ _ _ _ _ _ _ _=>none)
theorem h116_1 (m1:Nat):T116_1 cal k m1=C116_1 cal k m1 (R116_1 cal k m1):=Eq.trans (b:=B116_1 cal k m1 (T116_2 cal k m1) (R116_1 cal k m1)) (by kernel_rfl) (by rw[h116_2]; rfl)
theorem q116_1 (m:Nat):T116_1 cal k m=S116_1 cal k m:=recS (h116_1 cal k) (by kernel_rfl) (fun m=>by kernel_rfl) m
noncomputable def B116_0 (cal:Cal) (k:Nat) (j1:V6) (v0 v1:Value) (H:Hp) (n:Nat):Res:=
boxK 39 v0 H n fun v_1 H_2 n_3=>
boxK 131 v1 H_2 n_3 fun v_4 H_5 n_6=>
bindO (fieldAddrV P 39 v_1 1) fun v_9=>
bindO (addrV v_9) fun a_b=>bindO (loadV P H_5 36 a_b) fun v_a=>
bindO (lenV P 36 v_a) fun v_c=>
j1 v_1 v_4 (Value.int IntKind.i64 0) v_a v_c (Value.int IntKind.i64 0) H_5 n_6
noncomputable def C116_0:=B116_0 cal k (S116_1 cal k k)
theorem h116_0 (v0 v1:Value) (H:Hp) (n:Nat):bodyE P cal A (k+1) 116 [v0,v1] H n=C116_0 cal k v0 v1 H n:=(bq Go.Proofs.Tryz.f116 code116 results116 (by kernel_rfl)).trans (Eq.trans (b:=B116_0 cal k (T116_1 cal k k) v0 v1 H n) (by kernel_rfl) (by rw[q116_1]; rfl))
noncomputable def code117:Code:=codeOf 117
noncomputable def results117:List ResultVar:=resOf 117
noncomputable def K117_pr:KR:=(cutK (Lv.b (A 117)).c (codeE P cal (codeF P cal k) none 117 (cR (cR code117)) (Lv.b (Lv.b (A 117))) (doneK P results117) X0 (doneK P results117)))
noncomputable def K117_pxrlr:XR:=(upX 0 (K117_pr cal k) X0)
noncomputable def K117_prlrl (m1:Nat):KR:=(fun T H n D=>codeF P cal m1 (Lv.a (Lv.b (Lv.a (Lv.b (A 117))))) none 117 (cL (cR (cL (cR code117)))) (K117_pr cal k) (K117_pxrlr cal k) (doneK P results117) (cutT (Lv.a (Lv.b (Lv.a (Lv.b (A 117))))).c T) H n D)
noncomputable def T117_1 (m1:Nat):=fun(u1 u7 u8 u9:Value) (H:Hp) (n:Nat)=>labK (codeE P cal (codeF P cal m1) none 117 (cL (cL (cR (cL (cR code117))))) (Lv.a (Lv.a (Lv.b (Lv.a (Lv.b (A 117)))))) (K117_prlrl cal k m1) (K117_pxrlr cal k) (doneK P results117)) (Tr.set (Tr.set (Tr.set (Tr.set Tr.nil 9 (some u9)) 8 (some u8)) 7 (some u7)) 1 (some u1)) H n []
noncomputable def R117_1 (m1:Nat):V4:=fun u1 u7 u8 u9 H n=>codeF P cal m1 (Lv.a (Lv.b (Lv.a (Lv.b (A 117))))) none 117 (cL (cR (cL (cR code117)))) (K117_pr cal k) (K117_pxrlr cal k) (doneK P results117) (Tr.set (Tr.set (Tr.set (Tr.set Tr.nil 9 (some u9)) 8 (some u8)) 7 (some u7)) 1 (some u1)) H n []
noncomputable def B117_1 (cal:Cal) (k m1:Nat) (b1:V4) (u1 u7 u8 u9:Value) (H:Hp) (n:Nat):Res:=
binK P BinOp.lss 3 (Operand.tmp 9) (Operand.tmp 8) u9 u8 fun v_5=>
ifK v_5 (
bindO (indexAddrV P 37 u7 u9) fun v_6=>
bindO (addrV v_6) fun a_8=>bindO (loadV P H 128 a_8) fun v_7=>
allocK P 128 H n fun v_9 H_a n_b=>
bindO (storeP P 128 v_9 v_7 H_a) fun H_d=>
bindO (addrV v_9) fun a_g=>bindO (loadV P H_d 128 a_g) fun v_f=>
callVK P cal u1 [v_f] H_d n_b fun v_h H_i n_j=>
bindO (pureSem P v_h (Op.unary UnOp.not v_h)) fun v_k=>
ifK v_k (
some ((Value.bool false),H_i,n_j)) (
binK P BinOp.add 3 (Operand.tmp 9) (Operand.const (Value.int IntKind.i64 1)) u9 (Value.int IntKind.i64 1) fun v_m=>
b1 u1 u7 u8 v_m H_i n_j)) (
some ((Value.bool true),H,n))
noncomputable def C117_1 (m1:Nat):=B117_1 cal k m1
noncomputable def S117_1:Nat→V4:=recF (C117_1 cal k) (fun _ _ _ _ _ _=>none)
theorem h117_1 (m1:Nat):T117_1 cal k m1=C117_1 cal k m1 (R117_1 cal k m1):=by kernel_rfl
theorem q117_1 (m:Nat):T117_1 cal k m=S117_1 cal k m:=recS (h117_1 cal k) (by kernel_rfl) (fun m=>by kernel_rfl) m
noncomputable def B117_0 (cal:Cal) (k:Nat) (j1:V4) (v0 v1:Value) (H:Hp) (n:Nat):Res:=
bindO (lenV P 37 v0) fun v_3=>
j1 v1 v0 v_3 (Value.int IntKind.i64 0) H n
noncomputable def C117_0:=B117_0 cal k (S117_1 cal k k)
theorem h117_0 (v0 v1:Value) (H:Hp) (n:Nat):bodyE P cal A (k+1) 117 [v0,v1] H n=C117_0 cal k v0 v1 H n:=(bq Go.Proofs.Tryz.f117 code117 results117 (by kernel_rfl)).trans (Eq.trans (b:=B117_0 cal k (T117_1 cal k k) v0 v1 H n) (by kernel_rfl) (by rw[q117_1]; rfl))
noncomputable def code118:Code:=codeOf 118
noncomputable def results118:List ResultVar:=resOf 118
noncomputable def B118_0 (cal:Cal) (k:Nat) (v0:Value) (H:Hp) (n:Nat):Res:=
boxK 128 v0 H n fun v_1 H_2 n_3=>
bindO (fieldAddrV P 128 v_1 0) fun v_5=>
bindO (addrV v_5) fun a_7=>bindO (loadV P H_2 3 a_7) fun v_6=>
binK P BinOp.geq 3 (Operand.tmp 4) (Operand.const (Value.int IntKind.i64 0)) v_6 (Value.int IntKind.i64 0) fun v_8=>
guardK v_8 true (fun k_a=>
bindO (fieldAddrV P 128 v_1 0) fun v_e=>
k_a v_e H_2 n_3) H_2 n_3 fun v_b H_c n_d=>
guardK v_8 true (fun k_f=>
bindO (addrV v_b) fun a_k=>bindO (loadV P H_c 3 a_k) fun v_j=>
k_f v_j H_c n_d) H_c n_d fun v_g H_h n_i=>
guardK v_8 true (fun k_l=>
binK P BinOp.leq 3 (Operand.tmp 8) (Operand.const (Value.int IntKind.i64 1000)) v_g (Value.int IntKind.i64 1000) fun v_p=>
k_l v_p H_h n_i) H_h n_i fun v_m H_n n_o=>
bindO (pickV v_8 v_m (Value.bool false)) fun v_q=>
guardK v_q true (fun k_s=>
bindO (fieldAddrV P 128 v_1 1) fun v_w=>
k_s v_w H_n n_o) H_n n_o fun v_t H_u n_v=>
guardK v_q true (fun k_x=>
bindO (addrV v_t) fun a_12=>bindO (loadV P H_u 126 a_12) fun v_11=>
k_x v_11 H_u n_v) H_u n_v fun v_y H_z n_10=>
guardK v_q true (fun k_13=>
callFK P cal 129 [v_y] H_z n_10 fun v_17 H_18 n_19=>
k_13 v_17 H_18 n_19) H_z n_10 fun v_14 H_15 n_16=>
bindO (pickV v_q v_14 (Value.bool false)) fun v_1a=>
guardK v_1a true (fun k_1c=>
bindO (fieldAddrV P 128 v_1 2) fun v_1g=>
k_1c v_1g H_15 n_16) H_15 n_16 fun v_1d H_1e n_1f=>
guardK v_1a true (fun k_1h=>
bindO (addrV v_1d) fun a_1m=>bindO (loadV P H_1e 126 a_1m) fun v_1l=>
k_1h v_1l H_1e n_1f) H_1e n_1f fun v_1i H_1j n_1k=>
guardK v_1a true (fun k_1n=>
callFK P cal 129 [v_1i] H_1j n_1k fun v_1r H_1s n_1t=>
k_1n v_1r H_1s n_1t) H_1j n_1k fun v_1o H_1p n_1q=>
bindO (pickV v_1a v_1o (Value.bool false)) fun v_1u=>
some (v_1u,H_1p,n_1q)
noncomputable def C118_0:=B118_0 cal k
theorem h118_0 (v0:Value) (H:Hp) (n:Nat):bodyE P cal A (k+1) 118 [v0] H n=C118_0 cal k v0 H n:=(bq Go.Proofs.Tryz.f118 code118 results118 (by kernel_rfl)).trans (by kernel_rfl)
noncomputable def code119:Code:=codeOf 119
noncomputable def results119:List ResultVar:=resOf 119
noncomputable def K119_pxr (cal:Cal) (k:Nat):XR:=(upX 0 (doneK P results119) X0)
noncomputable def K119_prl (m1:Nat):KR:=(fun T H n D=>codeF P cal m1 (Lv.a (Lv.b (A 119))) none 119 (cL (cR code119)) (doneK P results119) (K119_pxr cal k) (doneK P results119) (cutT (Lv.a (Lv.b (A 119))).c T) H n D)
noncomputable def K119_prllrr (m1:Nat):KR:=(cutK (Lv.b (Lv.b (Lv.a (Lv.a (Lv.b (A 119)))))).c (codeE P cal (codeF P cal m1) none 119 (cR (cR (cR (cL (cL (cR code119)))))) (Lv.b (Lv.b (Lv.b (Lv.a (Lv.a (Lv.b (A 119))))))) (K119_prl cal k m1) (K119_pxr cal k) (doneK P results119)))
noncomputable def K119_pxrllrrl (m1:Nat):XR:=(upX 1 (K119_prllrr cal k m1) (K119_pxr cal k))
noncomputable def T119_1 (m1:Nat):=fun(u0 u1 u2 u10 u11:Value) (H:Hp) (n:Nat)=>labK (codeE P cal (codeF P cal m1) none 119 (cL (cL (cR code119))) (Lv.a (Lv.a (Lv.b (A 119)))) (K119_prl cal k m1) (K119_pxr cal k) (doneK P results119)) (Tr.set (Tr.set (Tr.set (Tr.set (Tr.set Tr.nil 11 (some u11)) 10 (some u10)) 2 (some u2)) 1 (some u1)) 0 (some u0)) H n []
noncomputable def R119_1 (m1:Nat):V5:=fun u0 u1 u2 u10 u11 H n=>codeF P cal m1 (Lv.a (Lv.b (A 119))) none 119 (cL (cR code119)) (doneK P results119) (K119_pxr cal k) (doneK P results119) (Tr.set (Tr.set (Tr.set (Tr.set (Tr.set Tr.nil 11 (some u11)) 10 (some u10)) 2 (some u2)) 1 (some u1)) 0 (some u0)) H n []
noncomputable def B119_1 (cal:Cal) (k m1:Nat) (b1:V5) (u0 u1 u2 u10 u11:Value) (H:Hp) (n:Nat):Res:=
binK P BinOp.lss 3 (Operand.tmp 11) (Operand.tmp 10) u11 u10 fun v_a=>
ifK v_a (
bindO (addrV u1) fun a_d=>bindO (loadV P H 97 a_d) fun v_e=>
bindO (nilV v_e) fun v_g=>
bindO (fieldAddrV P 109 v_g 1) fun v_h=>
bindO (indexAddrV P 107 v_h u11) fun v_i=>
bindO (addrV v_i) fun a_j=>bindO (loadV P H 106 a_j) fun v_k=>
bindO (addrV u2) fun a_l=>bindO (loadV P H 106 a_l) fun v_m=>
callFK P cal 95 [v_k,v_m] H n fun v_n H_o n_p=>
guardD v_n true (fun k_r=>
k_r u0 .p H_o n_p) .p H_o n_p fun v_s x_t H_u n_v=>
guardD v_n true (fun k_x=>
k_x u11 .p H_u n_v) .p H_u n_v fun v_y x_z H_10 n_11=>
guardD v_n true (fun k_13=>
callVK P cal v_s [v_y] H_10 n_11 fun v_18 H_19 n_1a=>
k_13 v_18 .e H_19 n_1a) .e H_10 n_11 fun v_14 x_15 H_16 n_17=>
guardD v_n true (fun k_1b=>
bindO (pureSem P v_14 (Op.unary UnOp.not v_14)) fun v_1g=>
k_1b v_1g .p H_16 n_17) .p H_16 n_17 fun v_1c x_1d H_1e n_1f=>
bindO (pickV v_n v_1c (Value.bool false)) fun v_1h=>
ifK v_1h (
some ((Value.tuple ⟨[]⟩),H_1e,n_1f)) (
binK P BinOp.add 3 (Operand.tmp 11) (Operand.const (Value.int IntKind.i64 1)) u11 (Value.int IntKind.i64 1) fun v_1i=>
b1 u0 u1 u2 u10 v_1i H_1e n_1f)) (
some ((Value.tuple ⟨[]⟩),H,n))
noncomputable def C119_1 (m1:Nat):=B119_1 cal k m1
noncomputable def S119_1:Nat→V5:=recF (C119_1 cal k) (fun _ _ _ _ _ _ _=>none)
theorem h119_1 (m1:Nat):T119_1 cal k m1=C119_1 cal k m1 (R119_1 cal k m1):=by kernel_rfl
theorem q119_1 (m:Nat):T119_1 cal k m=S119_1 cal k m:=recS (h119_1 cal k) (by kernel_rfl) (fun m=>by kernel_rfl) m
noncomputable def B119_0 (cal:Cal) (k:Nat) (j1:V5) (v0 v1 v2:Value) (H:Hp) (n:Nat):Res:=
bindO (addrV v1) fun a_2=>bindO (loadV P H 97 a_2) fun v_1=>
bindO (nilV v_1) fun v_3=>
bindO (fieldAddrV P 109 v_3 0) fun v_4=>
bindO (fieldAddrV P 41 v_4 2) fun v_5=>
bindO (addrV v_5) fun a_7=>bindO (loadV P H 27 a_7) fun v_6=>
bindO (lenV P 27 v_6) fun v_8=>
j1 v0 v1 v2 v_8 (Value.int IntKind.i64 0) H n
noncomputable def C119_0:=B119_0 cal k (S119_1 cal k k)
theorem h119_0 (v0 v1 v2:Value) (H:Hp) (n:Nat):bodyE P cal A (k+1) 119 [v0,v1,v2] H n=C119_0 cal k v0 v1 v2 H n:=(bq Go.Proofs.Tryz.f119 code119 results119 (by kernel_rfl)).trans (Eq.trans (b:=B119_0 cal k (T119_1 cal k k) v0 v1 v2 H n) (by kernel_rfl) (by rw[q119_1]; rfl))
noncomputable def code120:Code:=codeOf 120
noncomputable def results120:List ResultVar:=resOf 120
noncomputable def K120_pxr (cal:Cal) (k:Nat):XR:=(upX 0 (doneK P results120) X0)
noncomputable def K120_prl (m1:Nat):KR:=(fun T H n D=>codeF P cal m1 (Lv.a (Lv.b (A 120))) none 120 (cL (cR code120)) (doneK P results120) (K120_pxr cal k) (doneK P results120) (cutT (Lv.a (Lv.b (A 120))).c T) H n D)
noncomputable def T120_1 (m1:Nat):=fun(u0 u1 u3:Value) (H:Hp) (n:Nat)=>labK (codeE P cal (codeF P cal m1) none 120 (cL (cL (cR code120))) (Lv.a (Lv.a (Lv.b (A 120)))) (K120_prl cal k m1) (K120_pxr cal k) (doneK P results120)) (Tr.set (Tr.set (Tr.set Tr.nil 3 (some u3)) 1 (some u1)) 0 (some u0)) H n []
noncomputable def R120_1 (m1:Nat):V3:=fun u0 u1 u3 H n=>codeF P cal m1 (Lv.a (Lv.b (A 120))) none 120 (cL (cR code120)) (doneK P results120) (K120_pxr cal k) (doneK P results120) (Tr.set (Tr.set (Tr.set Tr.nil 3 (some u3)) 1 (some u1)) 0 (some u0)) H n []
noncomputable def B120_1 (cal:Cal) (k m1:Nat) (b1:V3) (u0 u1 u3:Value) (H:Hp) (n:Nat):Res:=
binK P BinOp.geq 3 (Operand.tmp 7) (Operand.const (Value.int IntKind.i64 0)) u3 (Value.int IntKind.i64 0) fun v_7=>
ifK v_7 (
bindO (addrV u1) fun a_b=>bindO (loadV P H 98 a_b) fun v_a=>
bindO (indexAddrV P 98 v_a u3) fun v_d=>
bindO (addrV v_d) fun a_f=>bindO (loadV P H 106 a_f) fun v_e=>
callVK P cal u0 [u3,v_e] H n fun v_g H_h n_i=>
bindO (pureSem P v_g (Op.unary UnOp.not v_g)) fun v_j=>
ifK v_j (
some ((Value.tuple ⟨[]⟩),H_h,n_i)) (
binK P BinOp.sub 3 (Operand.tmp 9) (Operand.const (Value.int IntKind.i64 1)) u3 (Value.int IntKind.i64 1) fun v_l=>
b1 u0 u1 v_l H_h n_i)) (
some ((Value.tuple ⟨[]⟩),H,n))
noncomputable def C120_1 (m1:Nat):=B120_1 cal k m1
noncomputable def S120_1:Nat→V3:=recF (C120_1 cal k) (fun _ _ _ _ _=>none)
theorem h120_1 (m1:Nat):T120_1 cal k m1=C120_1 cal k m1 (R120_1 cal k m1):=by kernel_rfl
theorem q120_1 (m:Nat):T120_1 cal k m=S120_1 cal k m:=recS (h120_1 cal k) (by kernel_rfl) (fun m=>by kernel_rfl) m
noncomputable def B120_0 (cal:Cal) (k:Nat) (j1:V3) (v0 v1:Value) (H:Hp) (n:Nat):Res:=
bindO (addrV v1) fun a_2=>bindO (loadV P H 98 a_2) fun v_1=>
bindO (lenV P 98 v_1) fun v_3=>
binK P BinOp.sub 3 (Operand.tmp 5) (Operand.const (Value.int IntKind.i64 1)) v_3 (Value.int IntKind.i64 1) fun v_4=>
j1 v0 v1 v_4 H n
noncomputable def C120_0:=B120_0 cal k (S120_1 cal k k)
theorem h120_0 (v0 v1:Value) (H:Hp) (n:Nat):bodyE P cal A (k+1) 120 [v0,v1] H n=C120_0 cal k v0 v1 H n:=(bq Go.Proofs.Tryz.f120 code120 results120 (by kernel_rfl)).trans (Eq.trans (b:=B120_0 cal k (T120_1 cal k k) v0 v1 H n) (by kernel_rfl) (by rw[q120_1]; rfl))
noncomputable def code121:Code:=codeOf 121
noncomputable def results121:List ResultVar:=resOf 121
noncomputable def K121_pxrr (cal:Cal) (k:Nat):XR:=(upX 0 (doneK P results121) X0)
noncomputable def K121_prrl (m1:Nat):KR:=(fun T H n D=>codeF P cal m1 (Lv.a (Lv.b (Lv.b (A 121)))) none 121 (cL (cR (cR code121))) (doneK P results121) (K121_pxrr cal k) (doneK P results121) (cutT (Lv.a (Lv.b (Lv.b (A 121)))).c T) H n D)
noncomputable def K121_pxrrll (m1:Nat):XR:=(upX 1 (K121_prrl cal k m1) (K121_pxrr cal k))
noncomputable def T121_4 (m1:Nat):=fun(u0 u1 u2 u3 u4 u10 u11 u12 u13:Value) (H:Hp) (n:Nat)=>labK (codeE P cal (codeF P cal m1) none 121 (cR (cR (cR (cR (cR (cR (cR (cL (cL (cL (cR (cR code121)))))))))))) (Lv.b (Lv.b (Lv.b (Lv.b (Lv.b (Lv.b (Lv.b (Lv.a (Lv.a (Lv.a (Lv.b (Lv.b (A 121))))))))))))) (K121_prrl cal k m1) (K121_pxrrll cal k m1) (doneK P results121)) (Tr.set (Tr.set (Tr.set (Tr.set (Tr.set (Tr.set (Tr.set (Tr.set (Tr.set Tr.nil 13 (some u13)) 12 (some u12)) 11 (some u11)) 10 (some u10)) 4 (some u4)) 3 (some u3)) 2 (some u2)) 1 (some u1)) 0 (some u0)) H n []
noncomputable def T121_3 (m1:Nat):=fun(u0 u1 u2 u3 u4 u10 u11 u12 u13 u14:Value) (H:Hp) (n:Nat)=>labK (codeE P cal (codeF P cal m1) none 121 (cR (cR (cR (cR (cR (cR (cL (cL (cL (cR (cR code121))))))))))) (Lv.b (Lv.b (Lv.b (Lv.b (Lv.b (Lv.b (Lv.a (Lv.a (Lv.a (Lv.b (Lv.b (A 121)))))))))))) (K121_prrl cal k m1) (K121_pxrrll cal k m1) (doneK P results121)) (Tr.set (Tr.set (Tr.set (Tr.set (Tr.set (Tr.set (Tr.set (Tr.set (Tr.set (Tr.set Tr.nil 14 (some u14)) 13 (some u13)) 12 (some u12)) 11 (some u11)) 10 (some u10)) 4 (some u4)) 3 (some u3)) 2 (some u2)) 1 (some u1)) 0 (some u0)) H n []
noncomputable def T121_2 (m1:Nat):=fun(u0 u1 u2 u3 u4 u10 u11 u12:Value) (H:Hp) (n:Nat)=>labK (codeE P cal (codeF P cal m1) none 121 (cR (cR (cR (cR (cL (cL (cL (cR (cR code121))))))))) (Lv.b (Lv.b (Lv.b (Lv.b (Lv.a (Lv.a (Lv.a (Lv.b (Lv.b (A 121)))))))))) (K121_prrl cal k m1) (K121_pxrrll cal k m1) (doneK P results121)) (Tr.set (Tr.set (Tr.set (Tr.set (Tr.set (Tr.set (Tr.set (Tr.set Tr.nil 12 (some u12)) 11 (some u11)) 10 (some u10)) 4 (some u4)) 3 (some u3)) 2 (some u2)) 1 (some u1)) 0 (some u0)) H n []
noncomputable def T121_1 (m1:Nat):=fun(u0 u1 u2 u3 u4 u10 u11:Value) (H:Hp) (n:Nat)=>labK (codeE P cal (codeF P cal m1) none 121 (cL (cL (cR (cR code121)))) (Lv.a (Lv.a (Lv.b (Lv.b (A 121))))) (K121_prrl cal k m1) (K121_pxrr cal k) (doneK P results121)) (Tr.set (Tr.set (Tr.set (Tr.set (Tr.set (Tr.set (Tr.set Tr.nil 11 (some u11)) 10 (some u10)) 4 (some u4)) 3 (some u3)) 2 (some u2)) 1 (some u1)) 0 (some u0)) H n []
noncomputable def R121_1 (m1:Nat):V7:=fun u0 u1 u2 u3 u4 u10 u11 H n=>codeF P cal m1 (Lv.a (Lv.b (Lv.b (A 121)))) none 121 (cL (cR (cR code121))) (doneK P results121) (K121_pxrr cal k) (doneK P results121) (Tr.set (Tr.set (Tr.set (Tr.set (Tr.set (Tr.set (Tr.set Tr.nil 11 (some u11)) 10 (some u10)) 4 (some u4)) 3 (some u3)) 2 (some u2)) 1 (some u1)) 0 (some u0)) H n []
noncomputable def B121_4 (cal:Cal) (k m1:Nat) (b1:V7) (u0 u1 u2 u3 u4 u10 u11 u12 u13:Value) (H:Hp) (n:Nat):Res:=
binK P BinOp.gtr 3 (Operand.tmp 81) (Operand.const (Value.int IntKind.i64 0)) u1 (Value.int IntKind.i64 0) fun v_12=>
guardD v_12 true (fun k_14=>
k_14 u4 .p H n) .p H n fun v_15 x_16 H_17 n_18=>
guardD v_12 true (fun k_1a=>
k_1a u0 .p H_17 n_18) .p H_17 n_18 fun v_1b x_1c H_1d n_1e=>
guardD v_12 true (fun k_1g=>
k_1g u1 .p H_1d n_1e) .p H_1d n_1e fun v_1h x_1i H_1j n_1k=>
guardD v_12 true (fun k_1m=>
binK P BinOp.sub 3 (Operand.tmp 86) (Operand.const (Value.int IntKind.i64 1)) v_1h (Value.int IntKind.i64 1) fun v_1r=>
k_1m v_1r .p H_1j n_1k) .p H_1j n_1k fun v_1n x_1o H_1p n_1q=>
guardD v_12 true (fun k_1s=>
bindO (indexAddrV P 98 v_1b v_1n) fun v_1x=>
k_1s v_1x .p H_1p n_1q) .p H_1p n_1q fun v_1t x_1u H_1v n_1w=>
guardD v_12 true (fun k_1y=>
bindO (addrV v_1t) fun a_23=>bindO (loadV P H_1v 106 a_23) fun v_24=>
k_1y v_24 (.l 106 a_23) H_1v n_1w) .p H_1v n_1w fun v_1z x_20 H_21 n_22=>
guardD v_12 true (fun k_25=>
k_25 u0 .p H_21 n_22) .p H_21 n_22 fun v_26 x_27 H_28 n_29=>
guardD v_12 true (fun k_2b=>
k_2b u13 .p H_28 n_29) .p H_28 n_29 fun v_2c x_2d H_2e n_2f=>
guardD v_12 true (fun k_2h=>
bindO (indexAddrV P 98 v_26 v_2c) fun v_2m=>
k_2h v_2m .p H_2e n_2f) .p H_2e n_2f fun v_2i x_2j H_2k n_2l=>
guardD v_12 true (fun k_2n=>
bindO (addrV v_2i) fun a_2s=>bindO (loadV P H_2k 106 a_2s) fun v_2t=>
k_2n v_2t (.l 106 a_2s) H_2k n_2l) .p H_2k n_2l fun v_2o x_2p H_2q n_2r=>
guardD v_12 true (fun k_2u=>
callVK P cal v_15 [v_1z,v_2o] H_2q n_2r fun v_2z H_30 n_31=>
k_2u v_2z .e H_30 n_31) .e H_2q n_2r fun v_2v x_2w H_2x n_2y=>
guardD v_12 true (fun k_32=>
binK P BinOp.lss 3 (Operand.tmp 94) (Operand.const (Value.int IntKind.i64 0)) v_2v (Value.int IntKind.i64 0) fun v_37=>
k_32 v_37 .p H_2x n_2y) .p H_2x n_2y fun v_33 x_34 H_35 n_36=>
guardD v_12 true (fun k_38=>
bindO (pureSem P v_33 (Op.unary UnOp.not v_33)) fun v_3d=>
k_38 v_3d .p H_35 n_36) .p H_35 n_36 fun v_39 x_3a H_3b n_3c=>
bindO (pickV v_12 v_39 (Value.bool false)) fun v_3e=>
ifK v_3e (
callFK P cal 136 [u0,u1,u2,u13,u4] H_3b n_3c fun v_3k H_3l n_3m=>
b1 u0 v_3k u2 u3 u4 u10 u11 H_3l n_3m) (
callFK P cal 137 [u0,u1,u2,u13,u4] H_3b n_3c fun v_3v H_3w n_3x=>
bindO (tupV v_3v 0) fun v_3z=>
bindO (tupV v_3v 1) fun v_40=>
binK P BinOp.sub 3 (Operand.tmp 115) (Operand.tmp 116) v_3z u1 fun v_47=>
binK P BinOp.sub 3 (Operand.tmp 118) (Operand.tmp 119) u2 v_3z fun v_4a=>
binK P BinOp.quo 3 (Operand.tmp 121) (Operand.const (Value.int IntKind.i64 8)) u12 (Value.int IntKind.i64 8) fun v_4e=>
binK P BinOp.lss 3 (Operand.tmp 123) (Operand.tmp 124) v_47 v_4a fun v_4i=>
ifK v_4i (
binK P BinOp.geq 3 (Operand.tmp 126) (Operand.tmp 127) v_47 v_4e fun v_4l=>
callFK P cal 121 [u0,u1,v_3z,u3,u4] H_3w n_3x fun v_4s H_4t n_4u=>
binK P BinOp.add 3 (Operand.tmp 135) (Operand.const (Value.int IntKind.i64 1)) v_3z (Value.int IntKind.i64 1) fun v_4w=>
b1 u0 v_4w u2 u3 u4 v_4l v_40 H_4t n_4u) (
binK P BinOp.geq 3 (Operand.tmp 137) (Operand.tmp 138) v_4a v_4e fun v_50=>
binK P BinOp.add 3 (Operand.tmp 141) (Operand.const (Value.int IntKind.i64 1)) v_3z (Value.int IntKind.i64 1) fun v_54=>
callFK P cal 121 [u0,v_54,u2,u3,u4] H_3w n_3x fun v_58 H_59 n_5a=>
b1 u0 u1 v_3z u3 u4 v_50 v_40 H_59 n_5a))
noncomputable def C121_4 (m1:Nat):=B121_4 cal k m1
theorem h121_4 (m1:Nat):T121_4 cal k m1=C121_4 cal k m1 (R121_1 cal k m1):=by kernel_rfl
noncomputable def B121_3 (cal:Cal) (k m1:Nat) (j4:V9) (b1:V7) (u0 u1 u2 u3 u4 u10 u11 u12 u13 u14:Value) (H:Hp) (n:Nat):Res:=
guardK u10 true (fun k_5f=>
k_5f u11 H n) H n fun v_5g H_5h n_5i=>
bindO (pickV u10 v_5g (Value.bool false)) fun v_5k=>
guardK v_5k true (fun k_5m=>
k_5m u14 H_5h n_5i) H_5h n_5i fun v_5n H_5o n_5p=>
guardK v_5k true (fun k_5r=>
binK P BinOp.eql 191 (Operand.tmp 73) (Operand.const (Value.int IntKind.i64 1)) v_5n (Value.int IntKind.i64 1) fun v_5v=>
k_5r v_5v H_5o n_5p) H_5o n_5p fun v_5s H_5t n_5u=>
bindO (pickV v_5k v_5s (Value.bool false)) fun v_5w=>
ifK v_5w (
callFK P cal 135 [u0,u1,u2,u4] H_5t n_5u fun v_61 H_62 n_63=>
ifK v_61 (
some ((Value.tuple ⟨[]⟩),H_62,n_63)) (
j4 u0 u1 u2 u3 u4 u10 u11 u12 u13 H_62 n_63)) (
j4 u0 u1 u2 u3 u4 u10 u11 u12 u13 H_5t n_5u)
noncomputable def C121_3 (m1:Nat) (b1:V7):=B121_3 cal k m1 (C121_4 cal k m1 b1) b1
theorem h121_3 (m1:Nat):T121_3 cal k m1=C121_3 cal k m1 (R121_1 cal k m1):=Eq.trans (b:=B121_3 cal k m1 (T121_4 cal k m1) (R121_1 cal k m1)) (by kernel_rfl) (by rw[h121_4]; rfl)
noncomputable def B121_2 (cal:Cal) (k m1:Nat) (j3:V10) (b1:V7) (u0 u1 u2 u3 u4 u10 u11 u12:Value) (H:Hp) (n:Nat):Res:=
callFK P cal 133 [u0,u1,u2,u4] H n fun v_t H_u n_v=>
bindO (tupV v_t 0) fun v_x=>
bindO (tupV v_t 1) fun v_y=>
binK P BinOp.eql 191 (Operand.tmp 55) (Operand.const (Value.int IntKind.i64 2)) v_y (Value.int IntKind.i64 2) fun v_65=>
ifK v_65 (
callFK P cal 134 [u0,u1,u2,u4] H_u n_v fun v_6a H_6b n_6c=>
binK P BinOp.sub 3 (Operand.tmp 62) (Operand.const (Value.int IntKind.i64 1)) u2 (Value.int IntKind.i64 1) fun v_6e=>
binK P BinOp.sub 3 (Operand.tmp 64) (Operand.tmp 65) v_x u1 fun v_6h=>
binK P BinOp.sub 3 (Operand.tmp 63) (Operand.tmp 66) v_6e v_6h fun v_6i=>
j3 u0 u1 u2 u3 u4 u10 u11 u12 v_6i (Value.int IntKind.i64 1) H_6b n_6c) (
j3 u0 u1 u2 u3 u4 u10 u11 u12 v_x v_y H_u n_v)
noncomputable def C121_2 (m1:Nat) (b1:V7):=B121_2 cal k m1 (C121_3 cal k m1 b1) b1
theorem h121_2 (m1:Nat):T121_2 cal k m1=C121_2 cal k m1 (R121_1 cal k m1):=Eq.trans (b:=B121_2 cal k m1 (T121_3 cal k m1) (R121_1 cal k m1)) (by kernel_rfl) (by rw[h121_3]; rfl)
noncomputable def B121_1 (cal:Cal) (k m1:Nat) (j2:V8) (b1:V7) (u0 u1 u2 u3 u4 u10 u11:Value) (H:Hp) (n:Nat):Res:=
binK P BinOp.sub 3 (Operand.tmp 21) (Operand.tmp 22) u2 u1 fun v_5=>
binK P BinOp.leq 3 (Operand.tmp 24) (Operand.const (Value.int IntKind.i64 12)) v_5 (Value.int IntKind.i64 12) fun v_8=>
ifK v_8 (
callFK P cal 130 [u0,u1,u2,u4] H n fun v_d H_e n_f=>
some ((Value.tuple ⟨[]⟩),H_e,n_f)) (
binK P BinOp.eql 3 (Operand.tmp 31) (Operand.const (Value.int IntKind.i64 0)) u3 (Value.int IntKind.i64 0) fun v_h=>
ifK v_h (
callFK P cal 131 [u0,u1,u2,u4] H n fun v_m H_n n_o=>
some ((Value.tuple ⟨[]⟩),H_n,n_o)) (
bindO (pureSem P u10 (Op.unary UnOp.not u10)) fun v_6m=>
ifK v_6m (
callFK P cal 132 [u0,u1,u2,u4] H n fun v_6r H_6s n_6t=>
binK P BinOp.sub 3 (Operand.tmp 45) (Operand.const (Value.int IntKind.i64 1)) u3 (Value.int IntKind.i64 1) fun v_6v=>
j2 u0 u1 u2 v_6v u4 u10 u11 v_5 H_6s n_6t) (
j2 u0 u1 u2 u3 u4 u10 u11 v_5 H n)))
noncomputable def C121_1 (m1:Nat) (b1:V7):=B121_1 cal k m1 (C121_2 cal k m1 b1) b1
noncomputable def S121_1:Nat→V7:=recF (C121_1 cal k) (fun _ _ _ _ _ _ _ _ _=>none)
theorem h121_1 (m1:Nat):T121_1 cal k m1=C121_1 cal k m1 (R121_1 cal k m1):=Eq.trans (b:=B121_1 cal k m1 (T121_2 cal k m1) (R121_1 cal k m1)) (by kernel_rfl) (by rw[h121_2]; rfl)
theorem q121_1 (m:Nat):T121_1 cal k m=S121_1 cal k m:=recS (h121_1 cal k) (by kernel_rfl) (fun m=>by kernel_rfl) m
noncomputable def B121_0 (cal:Cal) (k:Nat) (j1:V7) (v0 v1 v2 v3 v4:Value) (H:Hp) (n:Nat):Res:=
j1 v0 v1 v2 v3 v4 (Value.bool true) (Value.bool true) H n
noncomputable def C121_0:=B121_0 cal k (S121_1 cal k k)
theorem h121_0 (v0 v1 v2 v3 v4:Value) (H:Hp) (n:Nat):bodyE P cal A (k+1) 121 [v0,v1,v2,v3,v4] H n=C121_0 cal k v0 v1 v2 v3 v4 H n:=(bq Go.Proofs.Tryz.f121 code121 results121 (by kernel_rfl)).trans (Eq.trans (b:=B121_0 cal k (T121_1 cal k k) v0 v1 v2 v3 v4 H n) (by kernel_rfl) (by rw[q121_1]; rfl))
noncomputable def code122:Code:=codeOf 122
noncomputable def results122:List ResultVar:=resOf 122
noncomputable def B122_0 (cal:Cal) (k:Nat) (v0:Value) (H:Hp) (n:Nat):Res:=
ifK (Value.bool false) (
bindO (pureSem P v0 (convert 80 187 v0)) fun v_3=>
callFK P cal 138 [v_3] H n fun v_4 H_5 n_6=>
some (v_4,H_5,n_6)) (
callFK P cal 139 [v0] H n fun v_9 H_a n_b=>
some (v_9,H_a,n_b))
noncomputable def C122_0:=B122_0 cal k
theorem h122_0 (v0:Value) (H:Hp) (n:Nat):bodyE P cal A (k+1) 122 [v0] H n=C122_0 cal k v0 H n:=(bq Go.Proofs.Tryz.f122 code122 results122 (by kernel_rfl)).trans (by kernel_rfl)
noncomputable def code123:Code:=codeOf 123
noncomputable def results123:List ResultVar:=resOf 123
noncomputable def B123_0 (cal:Cal) (k:Nat) (v0 v1:Value) (H:Hp) (n:Nat):Res:=
callFK P cal 99 [v0] H n fun v_3 H_4 n_5=>
callFK P cal 99 [v1] H_4 n_5 fun v_7 H_8 n_9=>
callFK P cal 92 [v_3,v_7] H_8 n_9 fun v_a H_b n_c=>
some (v_a,H_b,n_c)
noncomputable def C123_0:=B123_0 cal k
theorem h123_0 (v0 v1:Value) (H:Hp) (n:Nat):bodyE P cal A (k+1) 123 [v0,v1] H n=C123_0 cal k v0 v1 H n:=(bq Go.Proofs.Tryz.f123 code123 results123 (by kernel_rfl)).trans (by kernel_rfl)
noncomputable def code124:Code:=codeOf 124
noncomputable def results124:List ResultVar:=resOf 124
noncomputable def B124_0 (cal:Cal) (k:Nat) (v0 v1:Value) (H:Hp) (n:Nat):Res:=
binK P BinOp.xor 106 (Operand.tmp 7) (Operand.tmp 8) v0 v1 fun v_4=>
bindO (pureSem P v_4 (Op.unary UnOp.neg v_4)) fun v_8=>
binK P BinOp.and 106 (Operand.tmp 10) (Operand.tmp 12) v_4 v_8 fun v_9=>
binK P BinOp.and 106 (Operand.tmp 14) (Operand.tmp 15) v1 v_9 fun v_d=>
binK P BinOp.and 106 (Operand.tmp 17) (Operand.tmp 18) v0 v_9 fun v_g=>
callFK P cal 140 [v_d,v_g] H n fun v_h H_i n_j=>
some (v_h,H_i,n_j)
noncomputable def C124_0:=B124_0 cal k
theorem h124_0 (v0 v1:Value) (H:Hp) (n:Nat):bodyE P cal A (k+1) 124 [v0,v1] H n=C124_0 cal k v0 v1 H n:=(bq Go.Proofs.Tryz.f124 code124 results124 (by kernel_rfl)).trans (by kernel_rfl)
noncomputable def code125:Code:=codeOf 125
noncomputable def results125:List ResultVar:=resOf 125
noncomputable def K125_prr:KR:=(cutK (Lv.b (Lv.b (A 125))).c (codeE P cal (codeF P cal k) none 125 (cR (cR (cR code125))) (Lv.b (Lv.b (Lv.b (A 125)))) (doneK P results125) X0 (doneK P results125)))
noncomputable def K125_pxrrlr:XR:=(upX 0 (K125_prr cal k) X0)
noncomputable def K125_prrlrl (m1:Nat):KR:=(fun T H n D=>codeF P cal m1 (Lv.a (Lv.b (Lv.a (Lv.b (Lv.b (A 125)))))) none 125 (cL (cR (cL (cR (cR code125))))) (K125_prr cal k) (K125_pxrrlr cal k) (doneK P results125) (cutT (Lv.a (Lv.b (Lv.a (Lv.b (Lv.b (A 125)))))).c T) H n D)
noncomputable def T125_1 (m1:Nat):=fun(u3 u6 u7 u8:Value) (H:Hp) (n:Nat)=>labK (codeE P cal (codeF P cal m1) none 125 (cL (cL (cR (cL (cR (cR code125)))))) (Lv.a (Lv.a (Lv.b (Lv.a (Lv.b (Lv.b (A 125))))))) (K125_prrlrl cal k m1) (K125_pxrrlr cal k) (doneK P results125)) (Tr.set (Tr.set (Tr.set (Tr.set Tr.nil 8 (some u8)) 7 (some u7)) 6 (some u6)) 3 (some u3)) H n []
noncomputable def R125_1 (m1:Nat):V4:=fun u3 u6 u7 u8 H n=>codeF P cal m1 (Lv.a (Lv.b (Lv.a (Lv.b (Lv.b (A 125)))))) none 125 (cL (cR (cL (cR (cR code125))))) (K125_prr cal k) (K125_pxrrlr cal k) (doneK P results125) (Tr.set (Tr.set (Tr.set (Tr.set Tr.nil 8 (some u8)) 7 (some u7)) 6 (some u6)) 3 (some u3)) H n []
noncomputable def B125_1 (cal:Cal) (k m1:Nat) (b1:V4) (u3 u6 u7 u8:Value) (H:Hp) (n:Nat):Res:=
binK P BinOp.lss 3 (Operand.tmp 8) (Operand.tmp 7) u8 u7 fun v_6=>
ifK v_6 (
bindO (indexAddrV P 27 u6 u8) fun v_7=>
bindO (addrV v_7) fun a_9=>bindO (loadV P H 3 a_9) fun v_8=>
binK P BinOp.neq 3 (Operand.tmp 12) (Operand.tmp 13) v_8 u3 fun v_d=>
ifK v_d (
some (v_8,H,n)) (
binK P BinOp.add 3 (Operand.tmp 8) (Operand.const (Value.int IntKind.i64 1)) u8 (Value.int IntKind.i64 1) fun v_g=>
b1 u3 u6 u7 v_g H n)) (
some (u3,H,n))
noncomputable def C125_1 (m1:Nat):=B125_1 cal k m1
noncomputable def S125_1:Nat→V4:=recF (C125_1 cal k) (fun _ _ _ _ _ _=>none)
theorem h125_1 (m1:Nat):T125_1 cal k m1=C125_1 cal k m1 (R125_1 cal k m1):=by kernel_rfl
theorem q125_1 (m:Nat):T125_1 cal k m=S125_1 cal k m:=recS (h125_1 cal k) (by kernel_rfl) (fun m=>by kernel_rfl) m
noncomputable def B125_0 (cal:Cal) (k:Nat) (j1:V4) (v0:Value) (H:Hp) (n:Nat):Res:=
bindO (lenV P 27 v0) fun v_4=>
j1 (Value.int IntKind.i64 0) v0 v_4 (Value.int IntKind.i64 0) H n
noncomputable def C125_0:=B125_0 cal k (S125_1 cal k k)
theorem h125_0 (v0:Value) (H:Hp) (n:Nat):bodyE P cal A (k+1) 125 [v0] H n=C125_0 cal k v0 H n:=(bq Go.Proofs.Tryz.f125 code125 results125 (by kernel_rfl)).trans (Eq.trans (b:=B125_0 cal k (T125_1 cal k k) v0 H n) (by kernel_rfl) (by rw[q125_1]; rfl))
noncomputable def code126:Code:=codeOf 126
noncomputable def results126:List ResultVar:=resOf 126
noncomputable def B126_0 (cal:Cal) (k:Nat) (v0:Value) (H:Hp) (n:Nat):Res:=
binK P BinOp.shr 187 (Operand.tmp 3) (Operand.const (Value.int IntKind.u64 24)) v0 (Value.int IntKind.u64 24) fun v_3=>
bindO (indexV P 9 (Value.string (ByteArray.mk #[0,1,1,2,1,2,2,3,1,2,2,3,2,3,3,4,1,2,2,3,2,3,3,4,2,3,3,4,3,4,4,5,1,2,2,3,2,3,3,4,2,3,3,4,3,4,4,5,2,3,3,4,3,4,4,5,3,4,4,5,4,5,5,6,1,2,2,3,2,3,3,4,2,3,3,4,3,4,4,5,2,3,3,4,3,4,4,5,3,4,4,5,4,5,5,6,2,3,3,4,3,4,4,5,3,4,4,5,4,5,5,6,3,4,4,5,4,5,5,6,4,5,5,6,5,6,6,7,1,2,2,3,2,3,3,4,2,3,3,4,3,4,4,5,2,3,3,4,3,4,4,5,3,4,4,5,4,5,5,6,2,3,3,4,3,4,4,5,3,4,4,5,4,5,5,6,3,4,4,5,4,5,5,6,4,5,5,6,5,6,6,7,2,3,3,4,3,4,4,5,3,4,4,5,4,5,5,6,3,4,4,5,4,5,5,6,4,5,5,6,5,6,6,7,3,4,4,5,4,5,5,6,4,5,5,6,5,6,6,7,4,5,5,6,5,6,6,7,5,6,6,7,6,7,7,8])) v_3) fun v_4=>
binK P BinOp.shr 187 (Operand.tmp 6) (Operand.const (Value.int IntKind.u64 16)) v0 (Value.int IntKind.u64 16) fun v_6=>
binK P BinOp.and 187 (Operand.tmp 7) (Operand.const (Value.int IntKind.u32 255)) v_6 (Value.int IntKind.u32 255) fun v_7=>
bindO (indexV P 9 (Value.string (ByteArray.mk #[0,1,1,2,1,2,2,3,1,2,2,3,2,3,3,4,1,2,2,3,2,3,3,4,2,3,3,4,3,4,4,5,1,2,2,3,2,3,3,4,2,3,3,4,3,4,4,5,2,3,3,4,3,4,4,5,3,4,4,5,4,5,5,6,1,2,2,3,2,3,3,4,2,3,3,4,3,4,4,5,2,3,3,4,3,4,4,5,3,4,4,5,4,5,5,6,2,3,3,4,3,4,4,5,3,4,4,5,4,5,5,6,3,4,4,5,4,5,5,6,4,5,5,6,5,6,6,7,1,2,2,3,2,3,3,4,2,3,3,4,3,4,4,5,2,3,3,4,3,4,4,5,3,4,4,5,4,5,5,6,2,3,3,4,3,4,4,5,3,4,4,5,4,5,5,6,3,4,4,5,4,5,5,6,4,5,5,6,5,6,6,7,2,3,3,4,3,4,4,5,3,4,4,5,4,5,5,6,3,4,4,5,4,5,5,6,4,5,5,6,5,6,6,7,3,4,4,5,4,5,5,6,4,5,5,6,5,6,6,7,4,5,5,6,5,6,6,7,5,6,6,7,6,7,7,8])) v_7) fun v_8=>
binK P BinOp.add 5 (Operand.tmp 5) (Operand.tmp 9) v_4 v_8 fun v_9=>
binK P BinOp.shr 187 (Operand.tmp 11) (Operand.const (Value.int IntKind.u64 8)) v0 (Value.int IntKind.u64 8) fun v_b=>
binK P BinOp.and 187 (Operand.tmp 12) (Operand.const (Value.int IntKind.u32 255)) v_b (Value.int IntKind.u32 255) fun v_c=>
bindO (indexV P 9 (Value.string (ByteArray.mk #[0,1,1,2,1,2,2,3,1,2,2,3,2,3,3,4,1,2,2,3,2,3,3,4,2,3,3,4,3,4,4,5,1,2,2,3,2,3,3,4,2,3,3,4,3,4,4,5,2,3,3,4,3,4,4,5,3,4,4,5,4,5,5,6,1,2,2,3,2,3,3,4,2,3,3,4,3,4,4,5,2,3,3,4,3,4,4,5,3,4,4,5,4,5,5,6,2,3,3,4,3,4,4,5,3,4,4,5,4,5,5,6,3,4,4,5,4,5,5,6,4,5,5,6,5,6,6,7,1,2,2,3,2,3,3,4,2,3,3,4,3,4,4,5,2,3,3,4,3,4,4,5,3,4,4,5,4,5,5,6,2,3,3,4,3,4,4,5,3,4,4,5,4,5,5,6,3,4,4,5,4,5,5,6,4,5,5,6,5,6,6,7,2,3,3,4,3,4,4,5,3,4,4,5,4,5,5,6,3,4,4,5,4,5,5,6,4,5,5,6,5,6,6,7,3,4,4,5,4,5,5,6,4,5,5,6,5,6,6,7,4,5,5,6,5,6,6,7,5,6,6,7,6,7,7,8])) v_c) fun v_d=>
binK P BinOp.add 5 (Operand.tmp 10) (Operand.tmp 14) v_9 v_d fun v_e=>
binK P BinOp.and 187 (Operand.tmp 16) (Operand.const (Value.int IntKind.u32 255)) v0 (Value.int IntKind.u32 255) fun v_g=>
bindO (indexV P 9 (Value.string (ByteArray.mk #[0,1,1,2,1,2,2,3,1,2,2,3,2,3,3,4,1,2,2,3,2,3,3,4,2,3,3,4,3,4,4,5,1,2,2,3,2,3,3,4,2,3,3,4,3,4,4,5,2,3,3,4,3,4,4,5,3,4,4,5,4,5,5,6,1,2,2,3,2,3,3,4,2,3,3,4,3,4,4,5,2,3,3,4,3,4,4,5,3,4,4,5,4,5,5,6,2,3,3,4,3,4,4,5,3,4,4,5,4,5,5,6,3,4,4,5,4,5,5,6,4,5,5,6,5,6,6,7,1,2,2,3,2,3,3,4,2,3,3,4,3,4,4,5,2,3,3,4,3,4,4,5,3,4,4,5,4,5,5,6,2,3,3,4,3,4,4,5,3,4,4,5,4,5,5,6,3,4,4,5,4,5,5,6,4,5,5,6,5,6,6,7,2,3,3,4,3,4,4,5,3,4,4,5,4,5,5,6,3,4,4,5,4,5,5,6,4,5,5,6,5,6,6,7,3,4,4,5,4,5,5,6,4,5,5,6,5,6,6,7,4,5,5,6,5,6,6,7,5,6,6,7,6,7,7,8])) v_g) fun v_h=>
binK P BinOp.add 5 (Operand.tmp 15) (Operand.tmp 18) v_e v_h fun v_i=>
bindO (pureSem P v_i (convert 5 3 v_i)) fun v_j=>
some (v_j,H,n)
noncomputable def C126_0:=B126_0 cal k
theorem h126_0 (v0:Value) (H:Hp) (n:Nat):bodyE P cal A (k+1) 126 [v0] H n=C126_0 cal k v0 H n:=(bq Go.Proofs.Tryz.f126 code126 results126 (by kernel_rfl)).trans (by kernel_rfl)
end Go.Proofs.YtnnkcjolgbpklaaGreat.G
end
end
section
open Go Go.Ev
set_option maxRecDepth 1000000
noncomputable section
namespace Go.Proofs.YtnnkcjolgbpklaaGreat.G
variable (cal:Cal) (k:Nat)
noncomputable def code127:Code:=codeOf 127
noncomputable def results127:List ResultVar:=resOf 127
noncomputable def B127_0 (cal:Cal) (k:Nat) (v0:Value) (H:Hp) (n:Nat):Res:=
binK P BinOp.shr 189 (Operand.tmp 3) (Operand.const (Value.int IntKind.u64 1)) v0 (Value.int IntKind.u64 1) fun v_3=>
binK P BinOp.and 189 (Operand.tmp 4) (Operand.const (Value.int IntKind.u64 6148914691236517205)) v_3 (Value.int IntKind.u64 6148914691236517205) fun v_4=>
binK P BinOp.and 189 (Operand.tmp 6) (Operand.const (Value.int IntKind.u64 6148914691236517205)) v0 (Value.int IntKind.u64 6148914691236517205) fun v_6=>
binK P BinOp.add 189 (Operand.tmp 5) (Operand.tmp 7) v_4 v_6 fun v_7=>
binK P BinOp.shr 189 (Operand.tmp 9) (Operand.const (Value.int IntKind.u64 2)) v_7 (Value.int IntKind.u64 2) fun v_a=>
binK P BinOp.and 189 (Operand.tmp 10) (Operand.const (Value.int IntKind.u64 3689348814741910323)) v_a (Value.int IntKind.u64 3689348814741910323) fun v_b=>
binK P BinOp.and 189 (Operand.tmp 12) (Operand.const (Value.int IntKind.u64 3689348814741910323)) v_7 (Value.int IntKind.u64 3689348814741910323) fun v_d=>
binK P BinOp.add 189 (Operand.tmp 11) (Operand.tmp 13) v_b v_d fun v_e=>
binK P BinOp.shr 189 (Operand.tmp 15) (Operand.const (Value.int IntKind.u64 4)) v_e (Value.int IntKind.u64 4) fun v_h=>
binK P BinOp.add 189 (Operand.tmp 16) (Operand.tmp 17) v_h v_e fun v_j=>
binK P BinOp.and 189 (Operand.tmp 18) (Operand.const (Value.int IntKind.u64 1085102592571150095)) v_j (Value.int IntKind.u64 1085102592571150095) fun v_k=>
binK P BinOp.shr 189 (Operand.tmp 21) (Operand.const (Value.int IntKind.u64 8)) v_k (Value.int IntKind.u64 8) fun v_o=>
binK P BinOp.add 189 (Operand.tmp 20) (Operand.tmp 22) v_k v_o fun v_p=>
binK P BinOp.shr 189 (Operand.tmp 25) (Operand.const (Value.int IntKind.u64 16)) v_p (Value.int IntKind.u64 16) fun v_t=>
binK P BinOp.add 189 (Operand.tmp 24) (Operand.tmp 26) v_p v_t fun v_u=>
binK P BinOp.shr 189 (Operand.tmp 29) (Operand.const (Value.int IntKind.u64 32)) v_u (Value.int IntKind.u64 32) fun v_y=>
binK P BinOp.add 189 (Operand.tmp 28) (Operand.tmp 30) v_u v_y fun v_z=>
bindO (pureSem P v_z (convert 189 3 v_z)) fun v_12=>
binK P BinOp.and 3 (Operand.tmp 33) (Operand.const (Value.int IntKind.i64 127)) v_12 (Value.int IntKind.i64 127) fun v_13=>
some (v_13,H,n)
noncomputable def C127_0:=B127_0 cal k
theorem h127_0 (v0:Value) (H:Hp) (n:Nat):bodyE P cal A (k+1) 127 [v0] H n=C127_0 cal k v0 H n:=(bq Go.Proofs.Tryz.f127 code127 results127 (by kernel_rfl)).trans (by kernel_rfl)
noncomputable def code128:Code:=codeOf 128
noncomputable def results128:List ResultVar:=resOf 128
noncomputable def B128_0 (cal:Cal) (k:Nat) (v0 v1:Value) (H:Hp) (n:Nat):Res:=
boxK 39 v0 H n fun v_1 H_2 n_3=>
binK P BinOp.geq 3 (Operand.tmp 5) (Operand.const (Value.int IntKind.i64 0)) v1 (Value.int IntKind.i64 0) fun v_6=>
guardK v_6 true (fun k_8=>
k_8 v1 H_2 n_3) H_2 n_3 fun v_9 H_a n_b=>
guardK v_6 true (fun k_d=>
bindO (fieldAddrV P 39 v_1 0) fun v_h=>
k_d v_h H_a n_b) H_a n_b fun v_e H_f n_g=>
guardK v_6 true (fun k_i=>
bindO (addrV v_e) fun a_n=>bindO (loadV P H_f 35 a_n) fun v_m=>
k_i v_m H_f n_g) H_f n_g fun v_j H_k n_l=>
guardK v_6 true (fun k_o=>
bindO (lenV P 35 v_j) fun v_s=>
k_o v_s H_k n_l) H_k n_l fun v_p H_q n_r=>
guardK v_6 true (fun k_t=>
binK P BinOp.lss 3 (Operand.tmp 8) (Operand.tmp 11) v_9 v_p fun v_x=>
k_t v_x H_q n_r) H_q n_r fun v_u H_v n_w=>
bindO (pickV v_6 v_u (Value.bool false)) fun v_y=>
some (v_y,H_v,n_w)
noncomputable def C128_0:=B128_0 cal k
theorem h128_0 (v0 v1:Value) (H:Hp) (n:Nat):bodyE P cal A (k+1) 128 [v0,v1] H n=C128_0 cal k v0 v1 H n:=(bq Go.Proofs.Tryz.f128 code128 results128 (by kernel_rfl)).trans (by kernel_rfl)
noncomputable def code129:Code:=codeOf 129
noncomputable def results129:List ResultVar:=resOf 129
noncomputable def B129_0 (cal:Cal) (k:Nat) (v0:Value) (H:Hp) (n:Nat):Res:=
boxK 126 v0 H n fun v_1 H_2 n_3=>
bindO (fieldAddrV P 126 v_1 0) fun v_5=>
bindO (addrV v_5) fun a_7=>bindO (loadV P H_2 3 a_7) fun v_6=>
binK P BinOp.geq 3 (Operand.tmp 4) (Operand.const (Value.int IntKind.i64 0)) v_6 (Value.int IntKind.i64 0) fun v_8=>
guardK v_8 true (fun k_a=>
bindO (fieldAddrV P 126 v_1 0) fun v_e=>
k_a v_e H_2 n_3) H_2 n_3 fun v_b H_c n_d=>
guardK v_8 true (fun k_f=>
bindO (addrV v_b) fun a_k=>bindO (loadV P H_c 3 a_k) fun v_j=>
k_f v_j H_c n_d) H_c n_d fun v_g H_h n_i=>
guardK v_8 true (fun k_l=>
bindO (fieldAddrV P 126 v_1 1) fun v_p=>
k_l v_p H_h n_i) H_h n_i fun v_m H_n n_o=>
guardK v_8 true (fun k_q=>
bindO (addrV v_m) fun a_v=>bindO (loadV P H_n 3 a_v) fun v_u=>
k_q v_u H_n n_o) H_n n_o fun v_r H_s n_t=>
guardK v_8 true (fun k_w=>
binK P BinOp.leq 3 (Operand.tmp 8) (Operand.tmp 10) v_g v_r fun v_10=>
k_w v_10 H_s n_t) H_s n_t fun v_x H_y n_z=>
bindO (pickV v_8 v_x (Value.bool false)) fun v_11=>
guardK v_11 true (fun k_13=>
bindO (fieldAddrV P 126 v_1 1) fun v_17=>
k_13 v_17 H_y n_z) H_y n_z fun v_14 H_15 n_16=>
guardK v_11 true (fun k_18=>
bindO (addrV v_14) fun a_1d=>bindO (loadV P H_15 3 a_1d) fun v_1c=>
k_18 v_1c H_15 n_16) H_15 n_16 fun v_19 H_1a n_1b=>
guardK v_11 true (fun k_1e=>
binK P BinOp.leq 3 (Operand.tmp 15) (Operand.const (Value.int IntKind.i64 1000)) v_19 (Value.int IntKind.i64 1000) fun v_1i=>
k_1e v_1i H_1a n_1b) H_1a n_1b fun v_1f H_1g n_1h=>
bindO (pickV v_11 v_1f (Value.bool false)) fun v_1j=>
some (v_1j,H_1g,n_1h)
noncomputable def C129_0:=B129_0 cal k
theorem h129_0 (v0:Value) (H:Hp) (n:Nat):bodyE P cal A (k+1) 129 [v0] H n=C129_0 cal k v0 H n:=(bq Go.Proofs.Tryz.f129 code129 results129 (by kernel_rfl)).trans (by kernel_rfl)
noncomputable def code130:Code:=codeOf 130
noncomputable def results130:List ResultVar:=resOf 130
noncomputable def K130_pxr (cal:Cal) (k:Nat):XR:=(upX 0 (doneK P results130) X0)
noncomputable def K130_prl (m1:Nat):KR:=(fun T H n D=>codeF P cal m1 (Lv.a (Lv.b (A 130))) none 130 (cL (cR code130)) (doneK P results130) (K130_pxr cal k) (doneK P results130) (cutT (Lv.a (Lv.b (A 130))).c T) H n D)
noncomputable def K130_prllr (m1:Nat):KR:=(cutK (Lv.b (Lv.a (Lv.a (Lv.b (A 130))))).c (codeE P cal (codeF P cal m1) none 130 (cR (cR (cL (cL (cR code130))))) (Lv.b (Lv.b (Lv.a (Lv.a (Lv.b (A 130)))))) (K130_prl cal k m1) (K130_pxr cal k) (doneK P results130)))
noncomputable def K130_pxrllrl (m1:Nat):XR:=(upX 1 (K130_prllr cal k m1) (K130_pxr cal k))
noncomputable def K130_pxrllrllr (m1:Nat):XR:=(upX 2 (K130_prllr cal k m1) (K130_pxrllrl cal k m1))
noncomputable def K130_prllrllrl (m1:Nat) (m2:Nat):KR:=(fun T H n D=>codeF P cal m2 (Lv.a (Lv.b (Lv.a (Lv.a (Lv.b (Lv.a (Lv.a (Lv.b (A 130))))))))) none 130 (cL (cR (cL (cL (cR (cL (cL (cR code130)))))))) (K130_prllr cal k m1) (K130_pxrllrllr cal k m1) (doneK P results130) (cutT (Lv.a (Lv.b (Lv.a (Lv.a (Lv.b (Lv.a (Lv.a (Lv.b (A 130))))))))).c T) H n D)
noncomputable def T130_2 (m1 m2:Nat):=fun(u0 u1 u2 u3 u8 u9:Value) (H:Hp) (n:Nat)=>labK (codeE P cal (codeF P cal m2) none 130 (cL (cL (cR (cL (cL (cR (cL (cL (cR code130))))))))) (Lv.a (Lv.a (Lv.b (Lv.a (Lv.a (Lv.b (Lv.a (Lv.a (Lv.b (A 130)))))))))) (K130_prllrllrl cal k m1 m2) (K130_pxrllrllr cal k m1) (doneK P results130)) (Tr.set (Tr.set (Tr.set (Tr.set (Tr.set (Tr.set Tr.nil 9 (some u9)) 8 (some u8)) 3 (some u3)) 2 (some u2)) 1 (some u1)) 0 (some u0)) H n []
noncomputable def R130_2 (m1 m2:Nat):V6:=fun u0 u1 u2 u3 u8 u9 H n=>codeF P cal m2 (Lv.a (Lv.b (Lv.a (Lv.a (Lv.b (Lv.a (Lv.a (Lv.b (A 130))))))))) none 130 (cL (cR (cL (cL (cR (cL (cL (cR code130)))))))) (K130_prllr cal k m1) (K130_pxrllrllr cal k m1) (doneK P results130) (Tr.set (Tr.set (Tr.set (Tr.set (Tr.set (Tr.set Tr.nil 9 (some u9)) 8 (some u8)) 3 (some u3)) 2 (some u2)) 1 (some u1)) 0 (some u0)) H n []
noncomputable def T130_1 (m1:Nat):=fun(u0 u1 u2 u3 u8:Value) (H:Hp) (n:Nat)=>labK (codeE P cal (codeF P cal m1) none 130 (cL (cL (cR code130))) (Lv.a (Lv.a (Lv.b (A 130)))) (K130_prl cal k m1) (K130_pxr cal k) (doneK P results130)) (Tr.set (Tr.set (Tr.set (Tr.set (Tr.set Tr.nil 8 (some u8)) 3 (some u3)) 2 (some u2)) 1 (some u1)) 0 (some u0)) H n []
noncomputable def R130_1 (m1:Nat):V5:=fun u0 u1 u2 u3 u8 H n=>codeF P cal m1 (Lv.a (Lv.b (A 130))) none 130 (cL (cR code130)) (doneK P results130) (K130_pxr cal k) (doneK P results130) (Tr.set (Tr.set (Tr.set (Tr.set (Tr.set Tr.nil 8 (some u8)) 3 (some u3)) 2 (some u2)) 1 (some u1)) 0 (some u0)) H n []
noncomputable def B130_2 (cal:Cal) (k m1 m2:Nat) (b1:V5) (b2:V6) (u0 u1 u2 u3 u8 u9:Value) (H:Hp) (n:Nat):Res:=
binK P BinOp.gtr 3 (Operand.tmp 18) (Operand.tmp 19) u9 u1 fun v_b=>
guardD v_b true (fun k_d=>
k_d u3 .p H n) .p H n fun v_e x_f H_g n_h=>
guardD v_b true (fun k_j=>
k_j u0 .p H_g n_h) .p H_g n_h fun v_k x_l H_m n_n=>
guardD v_b true (fun k_p=>
k_p u9 .p H_m n_n) .p H_m n_n fun v_q x_r H_s n_t=>
guardD v_b true (fun k_v=>
bindO (indexAddrV P 98 v_k v_q) fun v_10=>
k_v v_10 .p H_s n_t) .p H_s n_t fun v_w x_x H_y n_z=>
guardD v_b true (fun k_11=>
bindO (addrV v_w) fun a_16=>bindO (loadV P H_y 106 a_16) fun v_17=>
k_11 v_17 (.l 106 a_16) H_y n_z) .p H_y n_z fun v_12 x_13 H_14 n_15=>
guardD v_b true (fun k_18=>
k_18 u0 .p H_14 n_15) .p H_14 n_15 fun v_19 x_1a H_1b n_1c=>
guardD v_b true (fun k_1e=>
k_1e u9 .p H_1b n_1c) .p H_1b n_1c fun v_1f x_1g H_1h n_1i=>
guardD v_b true (fun k_1k=>
binK P BinOp.sub 3 (Operand.tmp 28) (Operand.const (Value.int IntKind.i64 1)) v_1f (Value.int IntKind.i64 1) fun v_1p=>
k_1k v_1p .p H_1h n_1i) .p H_1h n_1i fun v_1l x_1m H_1n n_1o=>
guardD v_b true (fun k_1q=>
bindO (indexAddrV P 98 v_19 v_1l) fun v_1v=>
k_1q v_1v .p H_1n n_1o) .p H_1n n_1o fun v_1r x_1s H_1t n_1u=>
guardD v_b true (fun k_1w=>
bindO (addrV v_1r) fun a_21=>bindO (loadV P H_1t 106 a_21) fun v_22=>
k_1w v_22 (.l 106 a_21) H_1t n_1u) .p H_1t n_1u fun v_1x x_1y H_1z n_20=>
guardD v_b true (fun k_23=>
callVK P cal v_e [v_12,v_1x] H_1z n_20 fun v_28 H_29 n_2a=>
k_23 v_28 .e H_29 n_2a) .e H_1z n_20 fun v_24 x_25 H_26 n_27=>
guardD v_b true (fun k_2b=>
binK P BinOp.lss 3 (Operand.tmp 32) (Operand.const (Value.int IntKind.i64 0)) v_24 (Value.int IntKind.i64 0) fun v_2g=>
k_2b v_2g .p H_26 n_27) .p H_26 n_27 fun v_2c x_2d H_2e n_2f=>
bindO (pickV v_b v_2c (Value.bool false)) fun v_2h=>
ifK v_2h (
binK P BinOp.sub 3 (Operand.tmp 40) (Operand.const (Value.int IntKind.i64 1)) u9 (Value.int IntKind.i64 1) fun v_2m=>
binK P BinOp.sub 3 (Operand.tmp 43) (Operand.const (Value.int IntKind.i64 1)) u9 (Value.int IntKind.i64 1) fun v_2p=>
bindO (indexAddrV P 98 u0 v_2p) fun v_2q=>
bindO (addrV v_2q) fun a_2r=>bindO (loadV P H_2e 106 a_2r) fun v_2s=>
bindO (indexAddrV P 98 u0 u9) fun v_2v=>
bindO (addrV v_2v) fun a_2w=>bindO (loadV P H_2e 106 a_2w) fun v_2x=>
bindO (indexAddrV P 98 u0 u9) fun v_2y=>
bindO (storeP P 106 v_2y v_2s H_2e) fun H_30=>
bindO (indexAddrV P 98 u0 v_2m) fun v_31=>
bindO (storeP P 106 v_31 v_2x H_30) fun H_33=>
binK P BinOp.sub 3 (Operand.tmp 35) (Operand.const (Value.int IntKind.i64 1)) u9 (Value.int IntKind.i64 1) fun v_35=>
b2 u0 u1 u2 u3 u8 v_35 H_33 n_2f) (
binK P BinOp.add 3 (Operand.tmp 15) (Operand.const (Value.int IntKind.i64 1)) u8 (Value.int IntKind.i64 1) fun v_38=>
b1 u0 u1 u2 u3 v_38 H_2e n_2f)
noncomputable def C130_2 (m1 m2:Nat):=B130_2 cal k m1 m2
noncomputable def S130_2 (m1:Nat) (b1:V5):Nat→V6:=fun m=>Nat.rec (motive:=fun _=>V6) (C130_2 cal k m1 0 b1 (fun _ _ _ _ _ _ _ _=>none)) (fun m ih=>C130_2 cal k m1 (m+1) b1 ih) m
theorem h130_2 (m1 m2:Nat):T130_2 cal k m1 m2=C130_2 cal k m1 m2 (R130_1 cal k m1) (R130_2 cal k m1 m2):=by kernel_rfl
theorem q130_2 (m1:Nat) (m:Nat):T130_2 cal k m1 m=S130_2 cal k m1 (R130_1 cal k m1) m:=recS (h130_2 cal k m1) (by kernel_rfl) (fun m=>by kernel_rfl) m
noncomputable def B130_1 (cal:Cal) (k m1:Nat) (j2:V6) (b1:V5) (u0 u1 u2 u3 u8:Value) (H:Hp) (n:Nat):Res:=
binK P BinOp.lss 3 (Operand.tmp 12) (Operand.tmp 13) u8 u2 fun v_6=>
ifK v_6 (
j2 u0 u1 u2 u3 u8 u8 H n) (
some ((Value.tuple ⟨[]⟩),H,n))
noncomputable def C130_1 (m1:Nat) (b1:V5):=B130_1 cal k m1 (S130_2 cal k m1 b1 m1) b1
noncomputable def S130_1:Nat→V5:=recF (C130_1 cal k) (fun _ _ _ _ _ _ _=>none)
theorem h130_1 (m1:Nat):T130_1 cal k m1=C130_1 cal k m1 (R130_1 cal k m1):=Eq.trans (b:=B130_1 cal k m1 (T130_2 cal k m1 m1) (R130_1 cal k m1)) (by kernel_rfl) (by rw[q130_2]; rfl)
theorem q130_1 (m:Nat):T130_1 cal k m=S130_1 cal k m:=recS (h130_1 cal k) (by kernel_rfl) (fun m=>by kernel_rfl) m
noncomputable def B130_0 (cal:Cal) (k:Nat) (j1:V5) (v0 v1 v2 v3:Value) (H:Hp) (n:Nat):Res:=
binK P BinOp.add 3 (Operand.tmp 10) (Operand.const (Value.int IntKind.i64 1)) v1 (Value.int IntKind.i64 1) fun v_2=>
j1 v0 v1 v2 v3 v_2 H n
noncomputable def C130_0:=B130_0 cal k (S130_1 cal k k)
theorem h130_0 (v0 v1 v2 v3:Value) (H:Hp) (n:Nat):bodyE P cal A (k+1) 130 [v0,v1,v2,v3] H n=C130_0 cal k v0 v1 v2 v3 H n:=(bq Go.Proofs.Tryz.f130 code130 results130 (by kernel_rfl)).trans (Eq.trans (b:=B130_0 cal k (T130_1 cal k k) v0 v1 v2 v3 H n) (by kernel_rfl) (by rw[q130_1]; rfl))
noncomputable def code131:Code:=codeOf 131
noncomputable def results131:List ResultVar:=resOf 131
noncomputable def K131_prrr:KR:=(cutK (Lv.b (Lv.b (Lv.b (A 131)))).c (codeE P cal (codeF P cal k) none 131 (cR (cR (cR (cR code131)))) (Lv.b (Lv.b (Lv.b (Lv.b (A 131))))) (doneK P results131) X0 (doneK P results131)))
noncomputable def K131_pxrrrlr:XR:=(upX 0 (K131_prrr cal k) X0)
noncomputable def K131_prrrlrl (m1:Nat):KR:=(fun T H n D=>codeF P cal m1 (Lv.a (Lv.b (Lv.a (Lv.b (Lv.b (Lv.b (A 131))))))) none 131 (cL (cR (cL (cR (cR (cR code131)))))) (K131_prrr cal k) (K131_pxrrrlr cal k) (doneK P results131) (cutT (Lv.a (Lv.b (Lv.a (Lv.b (Lv.b (Lv.b (A 131))))))).c T) H n D)
noncomputable def K131_pxrrrrr (cal:Cal) (k:Nat):XR:=(upX 2 (doneK P results131) X0)
noncomputable def K131_prrrrrl (m1:Nat):KR:=(fun T H n D=>codeF P cal m1 (Lv.a (Lv.b (Lv.b (Lv.b (Lv.b (Lv.b (A 131))))))) none 131 (cL (cR (cR (cR (cR (cR code131)))))) (doneK P results131) (K131_pxrrrrr cal k) (doneK P results131) (cutT (Lv.a (Lv.b (Lv.b (Lv.b (Lv.b (Lv.b (A 131))))))).c T) H n D)
noncomputable def T131_2 (m1:Nat):=fun(u0 u3 u8 u9 u12:Value) (H:Hp) (n:Nat)=>labK (codeE P cal (codeF P cal m1) none 131 (cL (cL (cR (cR (cR (cR (cR code131))))))) (Lv.a (Lv.a (Lv.b (Lv.b (Lv.b (Lv.b (Lv.b (A 131)))))))) (K131_prrrrrl cal k m1) (K131_pxrrrrr cal k) (doneK P results131)) (Tr.set (Tr.set (Tr.set (Tr.set (Tr.set Tr.nil 12 (some u12)) 9 (some u9)) 8 (some u8)) 3 (some u3)) 0 (some u0)) H n []
noncomputable def R131_2 (m1:Nat):V5:=fun u0 u3 u8 u9 u12 H n=>codeF P cal m1 (Lv.a (Lv.b (Lv.b (Lv.b (Lv.b (Lv.b (A 131))))))) none 131 (cL (cR (cR (cR (cR (cR code131)))))) (doneK P results131) (K131_pxrrrrr cal k) (doneK P results131) (Tr.set (Tr.set (Tr.set (Tr.set (Tr.set Tr.nil 12 (some u12)) 9 (some u9)) 8 (some u8)) 3 (some u3)) 0 (some u0)) H n []
noncomputable def T131_1 (m1:Nat):=fun(u0 u3 u8 u9 u10 u11:Value) (H:Hp) (n:Nat)=>labK (codeE P cal (codeF P cal m1) none 131 (cL (cL (cR (cL (cR (cR (cR code131))))))) (Lv.a (Lv.a (Lv.b (Lv.a (Lv.b (Lv.b (Lv.b (A 131)))))))) (K131_prrrlrl cal k m1) (K131_pxrrrlr cal k) (doneK P results131)) (Tr.set (Tr.set (Tr.set (Tr.set (Tr.set (Tr.set Tr.nil 11 (some u11)) 10 (some u10)) 9 (some u9)) 8 (some u8)) 3 (some u3)) 0 (some u0)) H n []
noncomputable def R131_1 (m1:Nat):V6:=fun u0 u3 u8 u9 u10 u11 H n=>codeF P cal m1 (Lv.a (Lv.b (Lv.a (Lv.b (Lv.b (Lv.b (A 131))))))) none 131 (cL (cR (cL (cR (cR (cR code131)))))) (K131_prrr cal k) (K131_pxrrrlr cal k) (doneK P results131) (Tr.set (Tr.set (Tr.set (Tr.set (Tr.set (Tr.set Tr.nil 11 (some u11)) 10 (some u10)) 9 (some u9)) 8 (some u8)) 3 (some u3)) 0 (some u0)) H n []
noncomputable def B131_2 (cal:Cal) (k m1:Nat) (b2:V5) (u0 u3 u8 u9 u12:Value) (H:Hp) (n:Nat):Res:=
binK P BinOp.geq 3 (Operand.tmp 32) (Operand.const (Value.int IntKind.i64 0)) u12 (Value.int IntKind.i64 0) fun v_t=>
ifK v_t (
binK P BinOp.add 3 (Operand.tmp 39) (Operand.tmp 40) u8 u12 fun v_z=>
binK P BinOp.add 3 (Operand.tmp 43) (Operand.tmp 44) u8 u12 fun v_13=>
bindO (indexAddrV P 98 u0 v_13) fun v_14=>
bindO (addrV v_14) fun a_15=>bindO (loadV P H 106 a_15) fun v_16=>
bindO (indexAddrV P 98 u0 u8) fun v_19=>
bindO (addrV v_19) fun a_1a=>bindO (loadV P H 106 a_1a) fun v_1b=>
bindO (indexAddrV P 98 u0 u8) fun v_1c=>
bindO (storeP P 106 v_1c v_16 H) fun H_1e=>
bindO (indexAddrV P 98 u0 v_z) fun v_1f=>
bindO (storeP P 106 v_1f v_1b H_1e) fun H_1h=>
callFK P cal 141 [u0,u9,u12,u8,u3] H_1h n fun v_1n H_1o n_1p=>
binK P BinOp.sub 3 (Operand.tmp 34) (Operand.const (Value.int IntKind.i64 1)) u12 (Value.int IntKind.i64 1) fun v_1r=>
b2 u0 u3 u8 u9 v_1r H_1o n_1p) (
some ((Value.tuple ⟨[]⟩),H,n))
noncomputable def C131_2 (m1:Nat):=B131_2 cal k m1
noncomputable def S131_2:Nat→V5:=recF (C131_2 cal k) (fun _ _ _ _ _ _ _=>none)
theorem h131_2 (m1:Nat):T131_2 cal k m1=C131_2 cal k m1 (R131_2 cal k m1):=by kernel_rfl
theorem q131_2 (m:Nat):T131_2 cal k m=S131_2 cal k m:=recS (h131_2 cal k) (by kernel_rfl) (fun m=>by kernel_rfl) m
noncomputable def B131_1 (cal:Cal) (k m1:Nat) (j2:V5) (b1:V6) (u0 u3 u8 u9 u10 u11:Value) (H:Hp) (n:Nat):Res:=
binK P BinOp.geq 3 (Operand.tmp 20) (Operand.const (Value.int IntKind.i64 0)) u11 (Value.int IntKind.i64 0) fun v_d=>
ifK v_d (
callFK P cal 141 [u0,u11,u10,u8,u3] H n fun v_j H_k n_l=>
binK P BinOp.sub 3 (Operand.tmp 22) (Operand.const (Value.int IntKind.i64 1)) u11 (Value.int IntKind.i64 1) fun v_n=>
b1 u0 u3 u8 u9 u10 v_n H_k n_l) (
binK P BinOp.sub 3 (Operand.tmp 30) (Operand.const (Value.int IntKind.i64 1)) u10 (Value.int IntKind.i64 1) fun v_q=>
j2 u0 u3 u8 u9 v_q H n)
noncomputable def C131_1 (m1:Nat):=B131_1 cal k m1 (S131_2 cal k k)
noncomputable def S131_1:Nat→V6:=recF (C131_1 cal k) (fun _ _ _ _ _ _ _ _=>none)
theorem h131_1 (m1:Nat):T131_1 cal k m1=C131_1 cal k m1 (R131_1 cal k m1):=Eq.trans (b:=B131_1 cal k m1 (T131_2 cal k k) (R131_1 cal k m1)) (by kernel_rfl) (by rw[q131_2]; rfl)
theorem q131_1 (m:Nat):T131_1 cal k m=S131_1 cal k m:=recS (h131_1 cal k) (by kernel_rfl) (fun m=>by kernel_rfl) m
noncomputable def B131_0 (cal:Cal) (k:Nat) (j1:V6) (v0 v1 v2 v3:Value) (H:Hp) (n:Nat):Res:=
binK P BinOp.sub 3 (Operand.tmp 14) (Operand.tmp 15) v2 v1 fun v_6=>
binK P BinOp.sub 3 (Operand.tmp 17) (Operand.const (Value.int IntKind.i64 1)) v_6 (Value.int IntKind.i64 1) fun v_9=>
binK P BinOp.quo 3 (Operand.tmp 18) (Operand.const (Value.int IntKind.i64 2)) v_9 (Value.int IntKind.i64 2) fun v_a=>
j1 v0 v3 v1 (Value.int IntKind.i64 0) v_6 v_a H n
noncomputable def C131_0:=B131_0 cal k (S131_1 cal k k)
theorem h131_0 (v0 v1 v2 v3:Value) (H:Hp) (n:Nat):bodyE P cal A (k+1) 131 [v0,v1,v2,v3] H n=C131_0 cal k v0 v1 v2 v3 H n:=(bq Go.Proofs.Tryz.f131 code131 results131 (by kernel_rfl)).trans (Eq.trans (b:=B131_0 cal k (T131_1 cal k k) v0 v1 v2 v3 H n) (by kernel_rfl) (by rw[q131_1]; rfl))
noncomputable def code132:Code:=codeOf 132
noncomputable def results132:List ResultVar:=resOf 132
noncomputable def K132_pxrrlrrr (cal:Cal) (k:Nat):XR:=(upX 0 (doneK P results132) X0)
noncomputable def K132_prrlrrrl (m1:Nat):KR:=(fun T H n D=>codeF P cal m1 (Lv.a (Lv.b (Lv.b (Lv.b (Lv.a (Lv.b (Lv.b (A 132)))))))) none 132 (cL (cR (cR (cR (cL (cR (cR code132))))))) (doneK P results132) (K132_pxrrlrrr cal k) (doneK P results132) (cutT (Lv.a (Lv.b (Lv.b (Lv.b (Lv.a (Lv.b (Lv.b (A 132)))))))).c T) H n D)
noncomputable def K132_prrlrrrllr (m1:Nat):KR:=(cutK (Lv.b (Lv.a (Lv.a (Lv.b (Lv.b (Lv.b (Lv.a (Lv.b (Lv.b (A 132)))))))))).c (codeE P cal (codeF P cal m1) none 132 (cR (cR (cL (cL (cR (cR (cR (cL (cR (cR code132)))))))))) (Lv.b (Lv.b (Lv.a (Lv.a (Lv.b (Lv.b (Lv.b (Lv.a (Lv.b (Lv.b (A 132))))))))))) (K132_prrlrrrl cal k m1) (K132_pxrrlrrr cal k) (doneK P results132)))
noncomputable def K132_pxrrlrrrllrl (m1:Nat):XR:=(upX 1 (K132_prrlrrrllr cal k m1) (K132_pxrrlrrr cal k))
noncomputable def T132_2 (m1:Nat):=fun(u0 u1 u8 u9 u10 u11 u12:Value) (H:Hp) (n:Nat)=>labK (codeE P cal (codeF P cal m1) none 132 (cR (cR (cL (cL (cR (cL (cL (cR (cR (cR (cL (cR (cR code132))))))))))))) (Lv.b (Lv.b (Lv.a (Lv.a (Lv.b (Lv.a (Lv.a (Lv.b (Lv.b (Lv.b (Lv.a (Lv.b (Lv.b (A 132)))))))))))))) (K132_prrlrrrllr cal k m1) (K132_pxrrlrrrllrl cal k m1) (doneK P results132)) (Tr.set (Tr.set (Tr.set (Tr.set (Tr.set (Tr.set (Tr.set Tr.nil 12 (some u12)) 11 (some u11)) 10 (some u10)) 9 (some u9)) 8 (some u8)) 1 (some u1)) 0 (some u0)) H n []
noncomputable def T132_1 (m1:Nat):=fun(u0 u1 u8 u9 u10 u11:Value) (H:Hp) (n:Nat)=>labK (codeE P cal (codeF P cal m1) none 132 (cL (cL (cR (cR (cR (cL (cR (cR code132)))))))) (Lv.a (Lv.a (Lv.b (Lv.b (Lv.b (Lv.a (Lv.b (Lv.b (A 132))))))))) (K132_prrlrrrl cal k m1) (K132_pxrrlrrr cal k) (doneK P results132)) (Tr.set (Tr.set (Tr.set (Tr.set (Tr.set (Tr.set Tr.nil 11 (some u11)) 10 (some u10)) 9 (some u9)) 8 (some u8)) 1 (some u1)) 0 (some u0)) H n []
noncomputable def R132_1 (m1:Nat):V6:=fun u0 u1 u8 u9 u10 u11 H n=>codeF P cal m1 (Lv.a (Lv.b (Lv.b (Lv.b (Lv.a (Lv.b (Lv.b (A 132)))))))) none 132 (cL (cR (cR (cR (cL (cR (cR code132))))))) (doneK P results132) (K132_pxrrlrrr cal k) (doneK P results132) (Tr.set (Tr.set (Tr.set (Tr.set (Tr.set (Tr.set Tr.nil 11 (some u11)) 10 (some u10)) 9 (some u9)) 8 (some u8)) 1 (some u1)) 0 (some u0)) H n []
noncomputable def B132_2 (cal:Cal) (k m1:Nat) (b1:V6) (u0 u1 u8 u9 u10 u11 u12:Value) (H:Hp) (n:Nat):Res:=
binK P BinOp.add 3 (Operand.tmp 52) (Operand.tmp 53) u1 u12 fun v_1b=>
binK P BinOp.add 3 (Operand.tmp 56) (Operand.tmp 57) u1 u12 fun v_1f=>
bindO (indexAddrV P 98 u0 v_1f) fun v_1g=>
bindO (addrV v_1g) fun a_1h=>bindO (loadV P H 106 a_1h) fun v_1i=>
bindO (indexAddrV P 98 u0 u11) fun v_1l=>
bindO (addrV v_1l) fun a_1m=>bindO (loadV P H 106 a_1m) fun v_1n=>
bindO (indexAddrV P 98 u0 u11) fun v_1o=>
bindO (storeP P 106 v_1o v_1i H) fun H_1q=>
bindO (indexAddrV P 98 u0 v_1b) fun v_1r=>
bindO (storeP P 106 v_1r v_1n H_1q) fun H_1t=>
binK P BinOp.add 3 (Operand.tmp 36) (Operand.const (Value.int IntKind.i64 1)) u11 (Value.int IntKind.i64 1) fun v_1v=>
b1 u0 u1 u8 u9 u10 v_1v H_1t n
noncomputable def C132_2 (m1:Nat):=B132_2 cal k m1
theorem h132_2 (m1:Nat):T132_2 cal k m1=C132_2 cal k m1 (R132_1 cal k m1):=by kernel_rfl
noncomputable def B132_1 (cal:Cal) (k m1:Nat) (j2:V7) (b1:V6) (u0 u1 u8 u9 u10 u11:Value) (H:Hp) (n:Nat):Res:=
binK P BinOp.quo 3 (Operand.tmp 30) (Operand.const (Value.int IntKind.i64 4)) u8 (Value.int IntKind.i64 4) fun v_t=>
binK P BinOp.mul 3 (Operand.tmp 31) (Operand.const (Value.int IntKind.i64 2)) v_t (Value.int IntKind.i64 2) fun v_u=>
binK P BinOp.add 3 (Operand.tmp 29) (Operand.tmp 32) u1 v_u fun v_v=>
binK P BinOp.add 3 (Operand.tmp 33) (Operand.const (Value.int IntKind.i64 1)) v_v (Value.int IntKind.i64 1) fun v_w=>
binK P BinOp.leq 3 (Operand.tmp 28) (Operand.tmp 34) u11 v_w fun v_x=>
ifK v_x (
callFK P cal 143 [u9] H n fun v_y H_z n_10=>
binK P BinOp.sub 80 (Operand.tmp 39) (Operand.const (Value.int IntKind.u64 1)) u10 (Value.int IntKind.u64 1) fun v_12=>
binK P BinOp.and 80 (Operand.tmp 38) (Operand.tmp 40) v_y v_12 fun v_13=>
bindO (pureSem P v_13 (convert 80 3 v_13)) fun v_14=>
binK P BinOp.geq 3 (Operand.tmp 43) (Operand.tmp 44) v_14 u8 fun v_1z=>
ifK v_1z (
binK P BinOp.sub 3 (Operand.tmp 46) (Operand.tmp 47) v_14 u8 fun v_22=>
j2 u0 u1 u8 u9 u10 u11 v_22 H_z n_10) (
j2 u0 u1 u8 u9 u10 u11 v_14 H_z n_10)) (
some ((Value.tuple ⟨[]⟩),H,n))
noncomputable def C132_1 (m1:Nat) (b1:V6):=B132_1 cal k m1 (C132_2 cal k m1 b1) b1
noncomputable def S132_1:Nat→V6:=recF (C132_1 cal k) (fun _ _ _ _ _ _ _ _=>none)
theorem h132_1 (m1:Nat):T132_1 cal k m1=C132_1 cal k m1 (R132_1 cal k m1):=Eq.trans (b:=B132_1 cal k m1 (T132_2 cal k m1) (R132_1 cal k m1)) (by kernel_rfl) (by rw[h132_2]; rfl)
theorem q132_1 (m:Nat):T132_1 cal k m=S132_1 cal k m:=recS (h132_1 cal k) (by kernel_rfl) (fun m=>by kernel_rfl) m
noncomputable def B132_0 (cal:Cal) (k:Nat) (j1:V6) (v0 v1 v2 v3:Value) (H:Hp) (n:Nat):Res:=
binK P BinOp.sub 3 (Operand.tmp 13) (Operand.tmp 14) v2 v1 fun v_3=>
binK P BinOp.geq 3 (Operand.tmp 16) (Operand.const (Value.int IntKind.i64 8)) v_3 (Value.int IntKind.i64 8) fun v_6=>
ifK v_6 (
bindO (pureSem P v_3 (convert 3 197 v_3)) fun v_8=>
allocK P 197 H n fun v_9 H_a n_b=>
bindO (storeP P 197 v_9 v_8 H_a) fun H_d=>
callFK P cal 142 [v_3] H_d n_b fun v_f H_g n_h=>
binK P BinOp.quo 3 (Operand.tmp 23) (Operand.const (Value.int IntKind.i64 4)) v_3 (Value.int IntKind.i64 4) fun v_l=>
binK P BinOp.mul 3 (Operand.tmp 24) (Operand.const (Value.int IntKind.i64 2)) v_l (Value.int IntKind.i64 2) fun v_m=>
binK P BinOp.add 3 (Operand.tmp 22) (Operand.tmp 25) v1 v_m fun v_n=>
binK P BinOp.sub 3 (Operand.tmp 26) (Operand.const (Value.int IntKind.i64 1)) v_n (Value.int IntKind.i64 1) fun v_o=>
j1 v0 v1 v_3 v_9 v_f v_o H_g n_h) (
some ((Value.tuple ⟨[]⟩),H,n))
noncomputable def C132_0:=B132_0 cal k (S132_1 cal k k)
theorem h132_0 (v0 v1 v2 v3:Value) (H:Hp) (n:Nat):bodyE P cal A (k+1) 132 [v0,v1,v2,v3] H n=C132_0 cal k v0 v1 v2 v3 H n:=(bq Go.Proofs.Tryz.f132 code132 results132 (by kernel_rfl)).trans (Eq.trans (b:=B132_0 cal k (T132_1 cal k k) v0 v1 v2 v3 H n) (by kernel_rfl) (by rw[q132_1]; rfl))
noncomputable def code133:Code:=codeOf 133
noncomputable def results133:List ResultVar:=resOf 133
noncomputable def K133_prrrrrr:KR:=(cutK (Lv.b (Lv.b (Lv.b (Lv.b (Lv.b (Lv.b (A 133))))))).c (codeE P cal (codeF P cal k) none 133 (cR (cR (cR (cR (cR (cR (cR code133))))))) (Lv.b (Lv.b (Lv.b (Lv.b (Lv.b (Lv.b (Lv.b (A 133)))))))) (doneK P results133) X0 (doneK P results133)))
noncomputable def T133_1:=fun(u11 u13:Value) (H:Hp) (n:Nat)=>labK (codeE P cal (codeF P cal k) none 133 (cR (cR (cR (cR (cR (cR (cR code133))))))) (Lv.b (Lv.b (Lv.b (Lv.b (Lv.b (Lv.b (Lv.b (A 133)))))))) (doneK P results133) X0 (doneK P results133)) (Tr.set (Tr.set Tr.nil 13 (some u13)) 11 (some u11)) H n []
noncomputable def T133_2:=fun(u0 u3 u11 u12 u13 u14:Value) (H:Hp) (n:Nat)=>labK (codeE P cal (codeF P cal k) none 133 (cR (cL (cR (cL (cR (cR (cR (cR (cR (cR code133)))))))))) (Lv.b (Lv.a (Lv.b (Lv.a (Lv.b (Lv.b (Lv.b (Lv.b (Lv.b (Lv.b (A 133))))))))))) (K133_prrrrrr cal k) X0 (doneK P results133)) (Tr.set (Tr.set (Tr.set (Tr.set (Tr.set (Tr.set Tr.nil 14 (some u14)) 13 (some u13)) 12 (some u12)) 11 (some u11)) 3 (some u3)) 0 (some u0)) H n []
noncomputable def B133_1 (cal:Cal) (k:Nat) (u11 u13:Value) (H:Hp) (n:Nat):Res:=
bindO (addrV u11) fun a_t=>bindO (loadV P H 3 a_t) fun v_s=>
binK P BinOp.eql 3 (Operand.tmp 55) (Operand.const (Value.int IntKind.i64 0)) v_s (Value.int IntKind.i64 0) fun v_u=>
ifK v_u (
some ((Value.tuple ⟨[u13,(Value.int IntKind.i64 1)]⟩),H,n)) (
binK P BinOp.eql 3 (Operand.tmp 55) (Operand.const (Value.int IntKind.i64 12)) v_s (Value.int IntKind.i64 12) fun v_z=>
ifK v_z (
some ((Value.tuple ⟨[u13,(Value.int IntKind.i64 2)]⟩),H,n)) (
some ((Value.tuple ⟨[u13,(Value.int IntKind.i64 0)]⟩),H,n)))
noncomputable def C133_1:=B133_1 cal k
theorem h133_1:T133_1 cal k=C133_1 cal k:=by kernel_rfl
noncomputable def B133_2 (cal:Cal) (k:Nat) (j1:V2) (u0 u3 u11 u12 u13 u14:Value) (H:Hp) (n:Nat):Res:=
callFK P cal 145 [u0,u12,u13,u14,u11,u3] H n fun v_1e H_1f n_1g=>
j1 u11 v_1e H_1f n_1g
noncomputable def C133_2:=B133_2 cal k (C133_1 cal k)
theorem h133_2:T133_2 cal k=C133_2 cal k:=Eq.trans (b:=B133_2 cal k (T133_1 cal k)) (by kernel_rfl) (by rw[h133_1]; rfl)
noncomputable def B133_0 (cal:Cal) (k:Nat) (j2:V6) (j1:V2) (v0 v1 v2 v3:Value) (H:Hp) (n:Nat):Res:=
binK P BinOp.sub 3 (Operand.tmp 15) (Operand.tmp 16) v2 v1 fun v_5=>
allocK P 3 H n fun v_7 H_8 n_9=>
binK P BinOp.quo 3 (Operand.tmp 19) (Operand.const (Value.int IntKind.i64 4)) v_5 (Value.int IntKind.i64 4) fun v_c=>
binK P BinOp.mul 3 (Operand.tmp 20) (Operand.const (Value.int IntKind.i64 1)) v_c (Value.int IntKind.i64 1) fun v_d=>
binK P BinOp.add 3 (Operand.tmp 18) (Operand.tmp 21) v1 v_d fun v_e=>
binK P BinOp.quo 3 (Operand.tmp 24) (Operand.const (Value.int IntKind.i64 4)) v_5 (Value.int IntKind.i64 4) fun v_i=>
binK P BinOp.mul 3 (Operand.tmp 25) (Operand.const (Value.int IntKind.i64 2)) v_i (Value.int IntKind.i64 2) fun v_j=>
binK P BinOp.add 3 (Operand.tmp 23) (Operand.tmp 26) v1 v_j fun v_k=>
binK P BinOp.quo 3 (Operand.tmp 29) (Operand.const (Value.int IntKind.i64 4)) v_5 (Value.int IntKind.i64 4) fun v_o=>
binK P BinOp.mul 3 (Operand.tmp 30) (Operand.const (Value.int IntKind.i64 3)) v_o (Value.int IntKind.i64 3) fun v_p=>
binK P BinOp.add 3 (Operand.tmp 28) (Operand.tmp 31) v1 v_p fun v_q=>
binK P BinOp.geq 3 (Operand.tmp 33) (Operand.const (Value.int IntKind.i64 8)) v_5 (Value.int IntKind.i64 8) fun v_18=>
ifK v_18 (
binK P BinOp.geq 3 (Operand.tmp 35) (Operand.const (Value.int IntKind.i64 50)) v_5 (Value.int IntKind.i64 50) fun v_1j=>
ifK v_1j (
callFK P cal 144 [v0,v_e,v_7,v3] H_8 n_9 fun v_1n H_1o n_1p=>
callFK P cal 144 [v0,v_k,v_7,v3] H_1o n_1p fun v_1u H_1v n_1w=>
callFK P cal 144 [v0,v_q,v_7,v3] H_1v n_1w fun v_21 H_22 n_23=>
j2 v0 v3 v_7 v_1n v_1u v_21 H_22 n_23) (
j2 v0 v3 v_7 v_e v_k v_q H_8 n_9)) (
j1 v_7 v_k H_8 n_9)
noncomputable def C133_0:=B133_0 cal k (C133_2 cal k) (C133_1 cal k)
theorem h133_0 (v0 v1 v2 v3:Value) (H:Hp) (n:Nat):bodyE P cal A (k+1) 133 [v0,v1,v2,v3] H n=C133_0 cal k v0 v1 v2 v3 H n:=(bq Go.Proofs.Tryz.f133 code133 results133 (by kernel_rfl)).trans (Eq.trans (b:=B133_0 cal k (T133_2 cal k) (T133_1 cal k) v0 v1 v2 v3 H n) (by kernel_rfl) (by rw[h133_2,h133_1]; rfl))
noncomputable def code134:Code:=codeOf 134
noncomputable def results134:List ResultVar:=resOf 134
noncomputable def K134_pxrr (cal:Cal) (k:Nat):XR:=(upX 0 (doneK P results134) X0)
noncomputable def K134_prrl (m1:Nat):KR:=(fun T H n D=>codeF P cal m1 (Lv.a (Lv.b (Lv.b (A 134)))) none 134 (cL (cR (cR code134))) (doneK P results134) (K134_pxrr cal k) (doneK P results134) (cutT (Lv.a (Lv.b (Lv.b (A 134)))).c T) H n D)
noncomputable def T134_1 (m1:Nat):=fun(u0 u8 u9:Value) (H:Hp) (n:Nat)=>labK (codeE P cal (codeF P cal m1) none 134 (cL (cL (cR (cR code134)))) (Lv.a (Lv.a (Lv.b (Lv.b (A 134))))) (K134_prrl cal k m1) (K134_pxrr cal k) (doneK P results134)) (Tr.set (Tr.set (Tr.set Tr.nil 9 (some u9)) 8 (some u8)) 0 (some u0)) H n []
noncomputable def R134_1 (m1:Nat):V3:=fun u0 u8 u9 H n=>codeF P cal m1 (Lv.a (Lv.b (Lv.b (A 134)))) none 134 (cL (cR (cR code134))) (doneK P results134) (K134_pxrr cal k) (doneK P results134) (Tr.set (Tr.set (Tr.set Tr.nil 9 (some u9)) 8 (some u8)) 0 (some u0)) H n []
noncomputable def B134_1 (cal:Cal) (k m1:Nat) (b1:V3) (u0 u8 u9:Value) (H:Hp) (n:Nat):Res:=
binK P BinOp.lss 3 (Operand.tmp 13) (Operand.tmp 14) u8 u9 fun v_8=>
ifK v_8 (
bindO (indexAddrV P 98 u0 u9) fun v_f=>
bindO (addrV v_f) fun a_g=>bindO (loadV P H 106 a_g) fun v_h=>
bindO (indexAddrV P 98 u0 u8) fun v_k=>
bindO (addrV v_k) fun a_l=>bindO (loadV P H 106 a_l) fun v_m=>
bindO (indexAddrV P 98 u0 u8) fun v_n=>
bindO (storeP P 106 v_n v_h H) fun H_p=>
bindO (indexAddrV P 98 u0 u9) fun v_q=>
bindO (storeP P 106 v_q v_m H_p) fun H_s=>
binK P BinOp.add 3 (Operand.tmp 30) (Operand.const (Value.int IntKind.i64 1)) u8 (Value.int IntKind.i64 1) fun v_u=>
binK P BinOp.sub 3 (Operand.tmp 32) (Operand.const (Value.int IntKind.i64 1)) u9 (Value.int IntKind.i64 1) fun v_x=>
b1 u0 v_u v_x H_s n) (
some ((Value.tuple ⟨[]⟩),H,n))
noncomputable def C134_1 (m1:Nat):=B134_1 cal k m1
noncomputable def S134_1:Nat→V3:=recF (C134_1 cal k) (fun _ _ _ _ _=>none)
theorem h134_1 (m1:Nat):T134_1 cal k m1=C134_1 cal k m1 (R134_1 cal k m1):=by kernel_rfl
theorem q134_1 (m:Nat):T134_1 cal k m=S134_1 cal k m:=recS (h134_1 cal k) (by kernel_rfl) (fun m=>by kernel_rfl) m
noncomputable def B134_0 (cal:Cal) (k:Nat) (j1:V3) (v0 v1 v2 v3:Value) (H:Hp) (n:Nat):Res:=
binK P BinOp.sub 3 (Operand.tmp 11) (Operand.const (Value.int IntKind.i64 1)) v2 (Value.int IntKind.i64 1) fun v_4=>
j1 v0 v1 v_4 H n
noncomputable def C134_0:=B134_0 cal k (S134_1 cal k k)
theorem h134_0 (v0 v1 v2 v3:Value) (H:Hp) (n:Nat):bodyE P cal A (k+1) 134 [v0,v1,v2,v3] H n=C134_0 cal k v0 v1 v2 v3 H n:=(bq Go.Proofs.Tryz.f134 code134 results134 (by kernel_rfl)).trans (Eq.trans (b:=B134_0 cal k (T134_1 cal k k) v0 v1 v2 v3 H n) (by kernel_rfl) (by rw[q134_1]; rfl))
end Go.Proofs.YtnnkcjolgbpklaaGreat.G
end
end
